/- Classes of nets: the two ways to say a class. -/
import Derived.Test.YtlbcdnobpnllkaaGreatKK
namespace Go.Proofs.YtlbcdnobpnllkaaGreat
open Go.RowKit Go.Deep

theorem anyB_iff {f : Nat → Bool} {n : Nat} : anyB f n = true ↔ ∃ k, k < n ∧ f k = true := by
  constructor
  · intro h
    refine Classical.byContradiction fun c => ?_
    rw [anyB_no fun j hj => by
      cases e : f j
      · rfl
      · exact absurd ⟨j, hj, e⟩ c] at h
    cases h
  · rintro ⟨k, hk, h⟩
    exact anyB_yes hk h
theorem nanyB_iff {f : Nat → Bool} {n : Nat} : (!anyB f n) = true ↔ ∀ k, k < n → f k = false := by
  constructor
  · intro h k hk
    cases e : f k
    · rfl
    · rw [anyB_yes hk e] at h; cases h
  · intro h; rw [anyB_no h]; rfl
theorem at0_of {l : List Int} {x : Int} (h : x ∈ l) : ∃ j, j < l.length ∧ at0 l j = x := by
  obtain ⟨j, hj, e⟩ := List.getElem_of_mem h
  refine ⟨j, hj, ?_⟩
  unfold at0; rw [List.getElem?_eq_getElem hj]; exact e
theorem comB_iff {l m : List Int} : comB l m = true ↔ ∃ x, x ∈ l ∧ x ∈ m := by
  unfold comB
  rw [anyB_iff]
  constructor
  · rintro ⟨k, hk, h⟩
    exact ⟨at0 l k, at0_mem hk, by simpa using h⟩
  · rintro ⟨x, h1, h2⟩
    obtain ⟨j, hj, e⟩ := at0_of h1
    exact ⟨j, hj, by rw [e]; simpa using h2⟩
theorem amoB_iff {l m : List Int} : amoB l m = true ↔ ∀ x, x ∈ l → x ∈ m := by
  unfold amoB
  rw [nanyB_iff]
  constructor
  · intro h x hx
    obtain ⟨j, hj, e⟩ := at0_of hx
    have := h j hj
    rw [e] at this
    simpa using this
  · intro h k hk
    have := h _ (at0_mem hk)
    simpa using this
theorem pick_ex {f : Nat → Bool} {n : Nat} {x : Int} : x ∈ pickI f n ↔ ∃ t : Nat, t < n ∧ x = (t : Int) ∧ f t = true := by
  unfold pickI
  rw [List.mem_map]
  constructor
  · rintro ⟨k, hk, e⟩
    exact ⟨k, List.mem_range.1 (List.mem_filter.1 hk).1, e.symm, (List.mem_filter.1 hk).2⟩
  · rintro ⟨t, ht, e, h⟩
    exact ⟨t, List.mem_filter.2 ⟨List.mem_range.2 ht, h⟩, e.symm⟩
theorem pick_eq {f g : Nat → Bool} {n : Nat} : pickI f n = pickI g n ↔ ∀ t, t < n → f t = g t := by
  constructor
  · intro h t ht
    have : (t : Int) ∈ pickI f n ↔ (t : Int) ∈ pickI g n := by rw [h]
    rw [pick_mem ht, pick_mem ht] at this
    cases a : f t <;> cases b : g t <;> simp_all
  · intro h
    unfold pickI
    rw [List.filter_congr fun x hx => h x (List.mem_range.1 hx)]
theorem cons_ok {n : NetV} (h : okN n = true) (p : Int) : consumersN n p = pickI (conF n.ts p) n.ts.length := by unfold consumersN; rw [if_pos h]
theorem meet_iff {n : NetV} {p q : Int} : meetN n p q = true ↔ ∃ t, t < n.ts.length ∧ conF n.ts p t = true ∧ conF n.ts q t = true := by
  unfold meetN
  rw [anyB_iff]
  refine exists_congr fun t => and_congr_right fun _ => ?_
  unfold meetF
  rw [Bool.and_eq_true]
theorem nout_iff {n : NetV} {p q : Int} : outN n p q = false ↔ ∀ t, t < n.ts.length → conF n.ts p t = true → conF n.ts q t = true := by
  have h : outN n p q = false ↔ (!outN n p q) = true := by cases outN n p q <;> simp
  rw [h]
  unfold outN
  rw [nanyB_iff]
  refine forall_congr' fun t => forall_congr' fun _ => ?_
  unfold outF
  cases conF n.ts p t <;> cases conF n.ts q t <;> simp
theorem com_meet {n : NetV} (h : okN n = true) (p q : Int) : comB (consumersN n p) (consumersN n q) = true ↔ meetN n p q = true := by
  rw [comB_iff, meet_iff, cons_ok h, cons_ok h]
  constructor
  · rintro ⟨x, h1, h2⟩
    obtain ⟨t, ht, e, f⟩ := pick_ex.1 h1
    rw [e, pick_mem ht] at h2
    exact ⟨t, ht, f, h2⟩
  · rintro ⟨t, ht, h1, h2⟩
    exact ⟨t, (pick_mem ht).2 h1, (pick_mem ht).2 h2⟩
theorem amo_out {n : NetV} (h : okN n = true) (p q : Int) : amoB (consumersN n p) (consumersN n q) = true ↔ outN n p q = false := by
  rw [amoB_iff, nout_iff, cons_ok h, cons_ok h]
  constructor
  · intro k t ht f
    exact (pick_mem ht).1 (k t ((pick_mem ht).2 f))
  · intro k x hx
    obtain ⟨t, ht, e, f⟩ := pick_ex.1 hx
    rw [e]
    exact (pick_mem ht).2 (k t ht f)
theorem eq_out {n : NetV} (h : okN n = true) (p q : Int) : eqL (consumersN n p) (consumersN n q) = true ↔ outN n p q = false ∧ outN n q p = false := by
  unfold eqL
  rw [decide_eq_true_iff, cons_ok h, cons_ok h, pick_eq, nout_iff, nout_iff]
  constructor
  · intro k
    exact ⟨fun t ht f => by rw [← k t ht]; exact f, fun t ht f => by rw [k t ht]; exact f⟩
  · rintro ⟨h1, h2⟩ t ht
    have a := h1 t ht
    have b := h2 t ht
    cases c : conF n.ts p t <;> cases d : conF n.ts q t <;> simp_all
theorem rel_iff {n : NetV} {R : List Int → List Int → Bool} : relV n R = true ↔ ∀ i j : Nat, i < n.ps.length → j < i → comB (consumersN n i) (consumersN n j) = true → R (consumersN n i) (consumersN n j) = true := by
  unfold relV
  rw [nanyB_iff]
  have e : ∀ i, relF n R i = false ↔ ∀ j, j < i → fitF n R i j = false := fun i => by
    have : relF n R i = false ↔ (!relF n R i) = true := by cases relF n R i <;> simp
    rw [this]
    unfold relF
    rw [nanyB_iff]
  constructor
  · intro h i j hi hj hc
    have := (e i).1 (h i hi) j hj
    unfold fitF at this
    rw [hc, Bool.true_and] at this
    simpa using this
  · intro h i hi
    refine (e i).2 fun j hj => ?_
    unfold fitF
    cases c : comB (consumersN n i) (consumersN n j)
    · rfl
    · rw [h i j hi hj c]; rfl
theorem meet_sym {n : NetV} {p q : Int} (h : meetN n p q = true) : meetN n q p = true := by
  obtain ⟨t, a, b, c⟩ := meet_iff.1 h
  exact meet_iff.2 ⟨t, a, c, b⟩
theorem out_self (n : NetV) (p : Int) : outN n p p = false := nout_iff.2 fun _ _ h => h
theorem nest_iff {f : Nat → Nat → Bool} {m k : Nat} : (!anyB (fun p => anyB (f p) k) m) = true ↔ ∀ p q, p < m → q < k → f p q = false := by
  rw [nanyB_iff]
  constructor
  · intro h p q hp hq
    have h1 := h p hp
    cases e : f p q
    · rfl
    · rw [show anyB (f p) k = true from anyB_yes hq e] at h1; cases h1
  · intro h p hp
    exact anyB_no fun q hq => h p q hp hq
theorem rf_iff {n : NetV} : rfV n = true ↔ ∀ p q : Nat, p < n.ps.length → q < n.ps.length → meetN n p q = true → outN n p q = false := by
  refine Iff.trans (nest_iff (f := rfF n)) ?_
  refine forall_congr' fun p => forall_congr' fun q => forall_congr' fun _ => forall_congr' fun _ => ?_
  unfold rfF
  cases meetN n (p : Nat) (q : Nat) <;> cases outN n (p : Nat) (q : Nat) <;> simp
theorem ra_iff {n : NetV} : raV n = true ↔ ∀ p q : Nat, p < n.ps.length → q < n.ps.length → meetN n p q = true → outN n p q = false ∨ outN n q p = false := by
  refine Iff.trans (nest_iff (f := raF n)) ?_
  refine forall_congr' fun p => forall_congr' fun q => forall_congr' fun _ => forall_congr' fun _ => ?_
  unfold raF
  cases meetN n (p : Nat) (q : Nat) <;> cases outN n (p : Nat) (q : Nat) <;> cases outN n (q : Nat) (p : Nat) <;> simp
theorem fc_eq {n : NetV} (h : okN n = true) : relV n eqL = rfV n := by
  rw [Bool.eq_iff_iff, rel_iff, rf_iff]
  constructor
  · intro k p q hp hq hm
    rcases Nat.lt_trichotomy p q with c | c | c
    · exact ((eq_out h _ _).1 (k q p hq c ((com_meet h _ _).2 (meet_sym hm)))).2
    · rw [c]; exact out_self _ _
    · exact ((eq_out h _ _).1 (k p q hp c ((com_meet h _ _).2 hm))).1
  · intro k i j hi hj hc
    have hm := (com_meet h _ _).1 hc
    exact (eq_out h _ _).2 ⟨k i j hi (by omega) hm, k j i (by omega) hi (meet_sym hm)⟩
theorem as_eq {n : NetV} (h : okN n = true) : relV n asR = raV n := by
  rw [Bool.eq_iff_iff, rel_iff, ra_iff]
  have e : ∀ p q : Int, asR (consumersN n p) (consumersN n q) = true ↔ outN n p q = false ∨ outN n q p = false := fun p q => by
    unfold asR
    rw [Bool.or_eq_true, amo_out h, amo_out h]
  constructor
  · intro k p q hp hq hm
    rcases Nat.lt_trichotomy p q with c | c | c
    · exact ((e _ _).1 (k q p hq c ((com_meet h _ _).2 (meet_sym hm)))).symm
    · rw [c]; exact Or.inl (out_self _ _)
    · exact (e _ _).1 (k p q hp c ((com_meet h _ _).2 hm))
  · intro k i j hi hj hc
    exact (e _ _).2 (k i j hi (by omega) ((com_meet h _ _).1 hc))
theorem fcN_eq (n : NetV) : fcN n = (basN n && rfV n) := by
  show (basN n && relV n eqL) = _
  cases e : basN n
  · rfl
  · rw [fc_eq (bas_ok e)]
theorem asN_eq (n : NetV) : asN n = (basN n && raV n) := by
  show (basN n && relV n asR) = _
  cases e : basN n
  · rfl
  · rw [as_eq (bas_ok e)]
theorem smN_eq (n : NetV) : smN n = (basN n && smV n) := rfl
theorem mgN_eq (n : NetV) : mgN n = (basN n && mgV n) := rfl
theorem rp_iff {n : NetV} : rpV n = true ↔ ∀ t p : Nat, t < n.ts.length → p < n.ps.length → 0 < preN n t p → ¬ 0 < postN n t p := by
  refine Iff.trans (nest_iff (f := rpF n)) ?_
  refine forall_congr' fun t => forall_congr' fun p => forall_congr' fun _ => forall_congr' fun _ => ?_
  unfold rpF
  rw [Bool.and_eq_false_imp, decide_eq_true_iff, decide_eq_false_iff_not]
theorem pu_eq {n : NetV} (h : okN n = true) : puV n = rpV n := by
  rw [Bool.eq_iff_iff, rp_iff]
  unfold puV
  rw [nanyB_iff]
  have e : ∀ t : Nat, t < n.ts.length → ∀ p : Nat, ((p : Int) ∈ inputsN n t ↔ 0 < preN n t p) ∧ ((p : Int) ∈ outputsN n t ↔ 0 < postN n t p) := fun t ht p => by
    have o := opp h ht p
    have hi : isT n (t : Int) = true := isT_val.2 ⟨by omega, by omega, h⟩
    have et : ((t : Int)).toNat = t := by omega
    unfold preN postN
    rw [if_pos hi, if_pos hi, et]
    exact ⟨decide_eq_decide.1 o.2.2.1, decide_eq_decide.1 o.2.2.2.1⟩
  refine forall_congr' fun t => ?_
  constructor
  · intro k p ht hp h1 h2
    have := k ht
    unfold puF at this
    rw [comB_iff.2 ⟨(p : Int), ((e t ht p).1).2 h1, ((e t ht p).2).2 h2⟩] at this
    cases this
  · intro k ht
    cases c : puF n t
    · rfl
    · unfold puF at c
      obtain ⟨x, h1, h2⟩ := comB_iff.1 c
      obtain ⟨j, hj, ex⟩ := at0_of h1
      obtain ⟨p, hp, hlt⟩ := inputs_at h ht hj
      rw [ex] at hp
      rw [hp] at h1 h2
      exact absurd (((e t ht p).2).1 h2) (k p ht hlt.1 (((e t ht p).1).1 h1))
theorem puN_eq (n : NetV) : puN n = (okN n && rpV n) := by
  unfold puN
  cases e : okN n
  · rfl
  · rw [pu_eq e]
end Go.Proofs.YtlbcdnobpnllkaaGreat
