/- Graphs: the mathematics of Topo's counters. -/
import Derived.Test.YtdfljeonoallfaaGHY
import Derived.Test.YtdfljeonoallfaaGLL
namespace Go.Proofs.Ytdfljeonoallfaa

def cN (f : Nat → Bool) (n : Nat) : Nat := (pickI f n).length
theorem cN_yes {f : Nat → Bool} {k : Nat} (h : f k = true) : cN f (k + 1) = cN f k + 1 := by unfold cN; rw [pickI_yes _ _ h]; simp
theorem cN_no {f : Nat → Bool} {k : Nat} (h : f k = false) : cN f (k + 1) = cN f k := by unfold cN; rw [pickI_no _ _ h]
theorem cN_congr {f g : Nat → Bool} : ∀ {n : Nat}, (∀ u, u < n → f u = g u) → cN f n = cN g n
  | 0, _ => rfl
  | n + 1, h => by
    have ih := cN_congr (n := n) fun u hu => h u (by omega)
    have e := h n (Nat.lt_succ_self n)
    cases c : g n
    · rw [cN_no c, cN_no (by rw [e]; exact c), ih]
    · rw [cN_yes c, cN_yes (by rw [e]; exact c), ih]
theorem cN_zero {f : Nat → Bool} : ∀ {n : Nat}, cN f n = 0 ↔ ∀ u, u < n → f u = false
  | 0 => ⟨fun _ u hu => absurd hu (by omega), fun _ => rfl⟩
  | n + 1 => by
    have ih := cN_zero (f := f) (n := n)
    cases c : f n
    · rw [cN_no c, ih]
      exact ⟨fun h u hu => by
        by_cases e : u = n
        · rw [e]; exact c
        · exact h u (by omega), fun h u hu => h u (by omega)⟩
    · rw [cN_yes c]
      exact ⟨fun h => absurd h (by omega), fun h => by rw [h n (by omega)] at c; cases c⟩
theorem cN_drop {f g : Nat → Bool} {v : Nat} : ∀ {n : Nat}, v < n → f v = true → g v = false → (∀ u, u ≠ v → f u = g u) → cN f n = cN g n + 1
  | 0, h, _, _, _ => absurd h (by omega)
  | n + 1, hv, h1, h2, h3 => by
    by_cases e : v = n
    · subst e
      rw [cN_yes h1, cN_no h2, cN_congr fun u hu => h3 u (by omega)]
    · have ih := cN_drop (n := n) (by omega) h1 h2 h3
      have e2 := h3 n (fun h => e h.symm)
      cases c : g n
      · rw [cN_no c, cN_no (by rw [e2]; exact c), ih]
      · rw [cN_yes c, cN_yes (by rw [e2]; exact c), ih]
/-- the predecessors that are not taken -/
def cntT (T : Nat → Nat → Bool) (n : Nat) (D : Nat → Bool) (w : Nat) : Nat := cN (fun u => !D u && T u w) n
def putD (D : Nat → Bool) (v : Nat) : Nat → Bool := fun x => if x = v then true else D x
theorem cnt_put {T : Nat → Nat → Bool} {n : Nat} {D : Nat → Bool} {v w : Nat} (hv : v < n) (hd : D v = false) : cntT T n D w = cntT T n (putD D v) w + if T v w then 1 else 0 := by
  unfold cntT putD
  cases c : T v w
  · refine cN_congr fun u _ => ?_
    by_cases e : u = v
    · subst e; simp [c]
    · simp [e]
  · refine cN_drop hv (by simp [hd, c]) (by simp) fun u hu => by simp [hu]
theorem cnt_rdy (T : Nat → Nat → Bool) (n : Nat) (D : Nat → Bool) (w : Nat) : rdyP T D w n = true ↔ D w = false ∧ cntT T n D w = 0 := by
  unfold rdyP cntT
  rw [cN_zero, Bool.and_eq_true, Bool.not_eq_true', Bool.not_eq_true', anyN_false]
theorem pick_has {f : Nat → Bool} {n w : Nat} : (pickI f n).contains (w : Int) = true ↔ w < n ∧ f w = true := by
  unfold pickI
  simp only [List.contains_iff_mem, List.mem_map, List.mem_filter, List.mem_range]
  constructor
  · rintro ⟨u, h, e⟩
    have e : u = w := by omega
    subst e
    exact h
  · intro h
    exact ⟨w, h, rfl⟩
/-- the counter of w, behind r followers of v -/
def misF (T : Nat → Nat → Bool) (n : Nat) (D : Nat → Bool) (v r w : Nat) : Nat := cntT T n D w - if ((pickI (T v) n).take r).contains (w : Int) then 1 else 0
theorem misF_zero (T : Nat → Nat → Bool) (n : Nat) (D : Nat → Bool) (v w : Nat) : misF T n D v 0 w = cntT T n D w := by unfold misF; simp
theorem misF_end {T : Nat → Nat → Bool} {n : Nat} {D : Nat → Bool} {v w : Nat} (hv : v < n) (hd : D v = false) (hw : w < n) : misF T n D v (pickI (T v) n).length w = cntT T n (putD D v) w := by
  unfold misF
  rw [List.take_length, cnt_put hv hd]
  have h := @pick_has (T v) n w
  cases c : T v w
  · have h2 : (pickI (T v) n).contains (w : Int) = false := by
      rw [Bool.eq_false_iff]
      intro h3
      have := (h.1 h3).2
      rw [c] at this
      cases this
    rw [h2]
    simp
  · have h2 := h.2 ⟨hw, c⟩
    simp only [h2, if_true]
    omega
theorem cnt_pos {T : Nat → Nat → Bool} {n : Nat} {D : Nat → Bool} {v p : Nat} (hv : v < n) (hd : D v = false) (ht : T v p = true) : 0 < cntT T n D p := by
  rw [cnt_put hv hd, if_pos ht]; omega
theorem mis_at {T : Nat → Nat → Bool} {n : Nat} {D : Nat → Bool} {v r p : Nat} (hr : r < (pickI (T v) n).length) (hp : at0 (pickI (T v) n) r = (p : Int)) : misF T n D v r p = cntT T n D p := by
  unfold misF
  have h : ((pickI (T v) n).take r).contains (p : Int) = false := by
    rw [Bool.eq_false_iff]
    intro h3
    rw [List.contains_iff_mem, List.mem_iff_getElem?] at h3
    obtain ⟨i, hi⟩ := h3
    rw [List.getElem?_take] at hi
    by_cases c : i < r
    · rw [if_pos c] at hi
      have h4 := pick_asc (f := T v) (n := n) c hr
      have h5 : at0 (pickI (T v) n) i = (p : Int) := by unfold at0; simp [hi]
      omega
    · rw [if_neg c] at hi; cases hi
  simp only [h, Bool.false_eq_true, if_false]
  rfl
theorem mis_next {T : Nat → Nat → Bool} {n : Nat} {D : Nat → Bool} {v r p : Nat} (hr : r < (pickI (T v) n).length) (hp : at0 (pickI (T v) n) r = (p : Int)) (w : Nat) : misF T n D v (r + 1) w = if w = p then misF T n D v r p - 1 else misF T n D v r w := by
  by_cases c : w = p
  · rw [if_pos c, mis_at hr hp, c]
    unfold misF
    rw [take_has' hr, hp]
    simp
  · rw [if_neg c]
    unfold misF
    rw [take_has' hr, hp]
    have h : decide ((p : Int) = (w : Int)) = false := decide_eq_false fun h => c (by omega)
    rw [h, Bool.or_false]

def putQ (q : Nat → Int) (m : Nat) (x : Int) : Nat → Int := fun k => if k = m then x else q k
theorem putQ_at (q : Nat → Int) (m : Nat) (x : Int) : putQ q m x m = x := by unfold putQ; rw [if_pos rfl]
theorem putQ_ne (q : Nat → Int) {m k : Nat} (x : Int) (h : k ≠ m) : putQ q m x k = q k := by unfold putQ; rw [if_neg h]
/-- what the heap holds between the rounds -/
structure KahnI (T : Nat → Nat → Bool) (n : Nat) (D : Nat → Bool) (m : Nat) (q : Nat → Int) : Prop where
  cl : ∀ u, u < n → D u = true → cntT T n D u = 0
  mem : ∀ x, (∃ k, k < m ∧ q k = x) ↔ ∃ w : Nat, w < n ∧ x = (w : Int) ∧ D w = false ∧ cntT T n D w = 0
  inj : ∀ a b, a < m → b < m → q a = q b → a = b
/-- and within the round of v, behind r followers -/
structure KahnR (T : Nat → Nat → Bool) (n : Nat) (D : Nat → Bool) (v r m : Nat) (q : Nat → Int) : Prop where
  hv : v < n
  hd : D v = false
  cv : cntT T n D v = 0
  cl : ∀ u, u < n → D u = true → cntT T n D u = 0
  mem : ∀ x, (∃ k, k < m ∧ q k = x) ↔ ∃ w : Nat, w < n ∧ x = (w : Int) ∧ putD D v w = false ∧ misF T n D v r w = 0
  inj : ∀ a b, a < m → b < m → q a = q b → a = b
/-- the beginning, behind k vertices -/
structure KahnS (T : Nat → Nat → Bool) (n k m : Nat) (q : Nat → Int) : Prop where
  hk : k ≤ n
  mem : ∀ x, (∃ j, j < m ∧ q j = x) ↔ ∃ w : Nat, w < k ∧ x = (w : Int) ∧ cntT T n (fun _ => false) w = 0
  inj : ∀ a b, a < m → b < m → q a = q b → a = b
theorem few_of_inj {m n : Nat} {q : Nat → Int} (inj : ∀ a b, a < m → b < m → q a = q b → a = b) (lt : ∀ k, k < m → ∃ w : Nat, w < n ∧ q k = (w : Int)) : m ≤ n := by
  have h := nodup_le (n := n) (q := (List.range m).map fun k => (q k).toNat) (by
    rw [List.nodup_iff_pairwise_ne, List.pairwise_map]
    refine List.Pairwise.imp_of_mem ?_ (List.nodup_iff_pairwise_ne.1 List.nodup_range)
    intro a b ha hb hne e
    obtain ⟨x, hx, ex⟩ := lt a (List.mem_range.1 ha)
    obtain ⟨y, hy, ey⟩ := lt b (List.mem_range.1 hb)
    rw [ex, ey] at e
    exact hne (inj a b (List.mem_range.1 ha) (List.mem_range.1 hb) (by rw [ex, ey]; omega))) fun v hv => by
    obtain ⟨k, hk, e⟩ := List.mem_map.1 hv
    obtain ⟨x, hx, ex⟩ := lt k (List.mem_range.1 hk)
    rw [← e, ex]
    simpa using hx
  simpa using h
section
variable {T : Nat → Nat → Bool} {n m : Nat} {D : Nat → Bool} {q : Nat → Int}
theorem KahnI.few (h : KahnI T n D m q) : m ≤ n := few_of_inj h.inj fun k hk => by
  obtain ⟨w, hw, e, _⟩ := (h.mem (q k)).1 ⟨k, hk, rfl⟩
  exact ⟨w, hw, e⟩
theorem KahnR.few {v r : Nat} (h : KahnR T n D v r m q) : m ≤ n := few_of_inj h.inj fun k hk => by
  obtain ⟨w, hw, e, _⟩ := (h.mem (q k)).1 ⟨k, hk, rfl⟩
  exact ⟨w, hw, e⟩
theorem KahnS.few {k : Nat} (h : KahnS T n k m q) : m ≤ k := few_of_inj h.inj fun j hj => by
  obtain ⟨w, hw, e, _⟩ := (h.mem (q j)).1 ⟨j, hj, rfl⟩
  exact ⟨w, hw, e⟩
theorem KahnS.start (T : Nat → Nat → Bool) (n : Nat) (q : Nat → Int) : KahnS T n 0 0 q := ⟨Nat.zero_le _, fun x => ⟨fun ⟨j, hj, _⟩ => absurd hj (by omega), fun ⟨w, hw, _⟩ => absurd hw (by omega)⟩, fun a b ha => absurd ha (by omega)⟩
theorem KahnS.skip {k : Nat} (h : KahnS T n k m q) (hk : k < n) (hc : cntT T n (fun _ => false) k ≠ 0) : KahnS T n (k + 1) m q := ⟨hk, fun x => by
  rw [h.mem x]
  constructor
  · rintro ⟨w, hw, e, h0⟩
    exact ⟨w, by omega, e, h0⟩
  · rintro ⟨w, hw, e, h0⟩
    by_cases c : w = k
    · rw [c] at h0; exact absurd h0 hc
    · exact ⟨w, by omega, e, h0⟩, h.inj⟩
theorem mem_push {q q' : Nat → Int} {m : Nat} {x : Int} (hs : SameH (putQ q m x) q' (m + 1)) (y : Int) : (∃ k, k < m + 1 ∧ q' k = y) ↔ (∃ k, k < m ∧ q k = y) ∨ y = x := by
  rw [hs.1 y]
  constructor
  · rintro ⟨k, hk, e⟩
    by_cases c : k = m
    · rw [c, putQ_at] at e; exact Or.inr e.symm
    · rw [putQ_ne _ _ c] at e; exact Or.inl ⟨k, by omega, e⟩
  · rintro (⟨k, hk, e⟩ | e)
    · exact ⟨k, by omega, by rw [putQ_ne _ _ (by omega)]; exact e⟩
    · exact ⟨m, by omega, by rw [putQ_at]; exact e.symm⟩
theorem inj_push {q q' : Nat → Int} {m : Nat} {x : Int} (hs : SameH (putQ q m x) q' (m + 1)) (hi : ∀ a b, a < m → b < m → q a = q b → a = b) (hn : ∀ k, k < m → q k ≠ x) : ∀ a b, a < m + 1 → b < m + 1 → q' a = q' b → a = b :=
  hs.2 fun a b ha hb e => by
    by_cases ca : a = m
    · by_cases cb : b = m
      · rw [ca, cb]
      · rw [ca, putQ_at, putQ_ne _ _ cb] at e
        exact absurd e.symm (hn b (by omega))
    · by_cases cb : b = m
      · rw [cb, putQ_at, putQ_ne _ _ ca] at e
        exact absurd e (hn a (by omega))
      · rw [putQ_ne _ _ ca, putQ_ne _ _ cb] at e
        exact hi a b (by omega) (by omega) e
theorem KahnS.push {k : Nat} {q' : Nat → Int} (h : KahnS T n k m q) (hk : k < n) (hc : cntT T n (fun _ => false) k = 0) (hs : SameH (putQ q m (k : Int)) q' (m + 1)) : KahnS T n (k + 1) (m + 1) q' := ⟨hk, fun x => by
  rw [mem_push hs x, h.mem x]
  constructor
  · rintro (⟨w, hw, e, h0⟩ | e)
    · exact ⟨w, by omega, e, h0⟩
    · exact ⟨k, by omega, e, hc⟩
  · rintro ⟨w, hw, e, h0⟩
    by_cases c : w = k
    · right; rw [e, c]
    · left; exact ⟨w, by omega, e, h0⟩, inj_push hs h.inj fun j hj e => by
      obtain ⟨w, hw, e2, _⟩ := (h.mem (q j)).1 ⟨j, hj, rfl⟩
      omega⟩
theorem KahnS.done (h : KahnS T n n m q) : KahnI T n (fun _ => false) m q := ⟨(fun _ _ h => by cases h), fun x => by
  rw [h.mem x]
  exact ⟨fun ⟨w, hw, e, h0⟩ => ⟨w, hw, e, rfl, h0⟩, fun ⟨w, hw, e, _, h0⟩ => ⟨w, hw, e, h0⟩⟩, h.inj⟩
/-- the least of the heap is the next vertex -/
theorem KahnI.next (h : KahnI T n D (m + 1) q) (ho : hOk q (m + 1)) : ∃ v : Nat, v < n ∧ q 0 = (v : Int) ∧ D v = false ∧ cntT T n D v = 0 ∧ nxtT T n D = some v := by
  obtain ⟨v, hv, e, hd, hc⟩ := (h.mem (q 0)).1 ⟨0, by omega, rfl⟩
  refine ⟨v, hv, e, hd, hc, nxt_yes hv ((cnt_rdy T n D v).2 ⟨hd, hc⟩) fun u hu => ?_⟩
  rw [Bool.eq_false_iff]
  intro h2
  obtain ⟨h3, h4⟩ := (cnt_rdy T n D u).1 h2
  obtain ⟨k, hk, e2⟩ := (h.mem (u : Int)).2 ⟨u, by omega, rfl, h3, h4⟩
  have := ho.least k hk
  omega
theorem KahnI.none (h : KahnI T n D 0 q) : nxtT T n D = Option.none := nxt_no fun u hu => by
  rw [Bool.eq_false_iff]
  intro h2
  obtain ⟨h3, h4⟩ := (cnt_rdy T n D u).1 h2
  obtain ⟨k, hk, e2⟩ := (h.mem (u : Int)).2 ⟨u, hu, rfl, h3, h4⟩
  omega
theorem KahnI.pop {q' : Nat → Int} {v : Nat} (h : KahnI T n D (m + 1) q) (hv : v < n) (e0 : q 0 = (v : Int)) (hd : D v = false) (hc : cntT T n D v = 0) (hs : SameH q (putQ q' m (q 0)) (m + 1)) : KahnR T n D v 0 m q' where
  hv := hv
  hd := hd
  cv := hc
  cl := h.cl
  mem := fun x => by
    have hi := hs.2 h.inj
    have key : (∃ k, k < m ∧ q' k = x) ↔ (∃ k, k < m + 1 ∧ q k = x) ∧ x ≠ (v : Int) := by
      rw [← hs.1 x]
      constructor
      · rintro ⟨k, hk, e⟩
        refine ⟨⟨k, by omega, by rw [putQ_ne _ _ (by omega)]; exact e⟩, fun e2 => ?_⟩
        have := hi k m (by omega) (by omega) (by rw [putQ_ne _ _ (by omega), putQ_at, e0, ← e2]; exact e)
        omega
      · rintro ⟨⟨k, hk, e⟩, hne⟩
        by_cases c : k = m
        · rw [c, putQ_at, e0] at e
          exact absurd e.symm hne
        · rw [putQ_ne _ _ c] at e
          exact ⟨k, by omega, e⟩
    rw [key, h.mem x]
    constructor
    · rintro ⟨⟨w, hw, e, h1, h2⟩, hne⟩
      refine ⟨w, hw, e, ?_, by rw [misF_zero]; exact h2⟩
      unfold putD
      rw [if_neg (fun c => hne (by rw [e, c]))]
      exact h1
    · rintro ⟨w, hw, e, h1, h2⟩
      rw [misF_zero] at h2
      unfold putD at h1
      by_cases c : w = v
      · rw [if_pos c] at h1; cases h1
      · rw [if_neg c] at h1
        exact ⟨⟨w, hw, e, h1, h2⟩, fun e2 => c (by omega)⟩
  inj := fun a b ha hb e => hs.2 h.inj a b (by omega) (by omega) (by rw [putQ_ne _ _ (by omega), putQ_ne _ _ (by omega)]; exact e)
theorem KahnR.at {v r : Nat} (h : KahnR T n D v r m q) (hr : r < (pickI (T v) n).length) : ∃ p : Nat, at0 (pickI (T v) n) r = (p : Int) ∧ p < n ∧ 0 < misF T n D v r p := by
  obtain ⟨p, e, hp, ht⟩ := pick_at hr
  exact ⟨p, e, hp, by rw [mis_at hr e]; exact cnt_pos h.hv h.hd ht⟩
theorem KahnR.skip {v r p : Nat} (h : KahnR T n D v r m q) (hr : r < (pickI (T v) n).length) (e : at0 (pickI (T v) n) r = (p : Int)) (h1 : 0 < misF T n D v r p) (h0 : misF T n D v r p - 1 ≠ 0) : KahnR T n D v (r + 1) m q := ⟨h.hv, h.hd, h.cv, h.cl, fun x => by
  rw [h.mem x]
  constructor
  · rintro ⟨w, hw, e2, h2, h3⟩
    refine ⟨w, hw, e2, h2, ?_⟩
    rw [mis_next hr e, if_neg (fun c => by rw [c] at h3; omega)]
    exact h3
  · rintro ⟨w, hw, e2, h2, h3⟩
    rw [mis_next hr e] at h3
    by_cases c : w = p
    · rw [if_pos c] at h3; exact absurd h3 h0
    · rw [if_neg c] at h3
      exact ⟨w, hw, e2, h2, h3⟩, h.inj⟩
theorem KahnR.push {v r p : Nat} {q' : Nat → Int} (h : KahnR T n D v r m q) (hr : r < (pickI (T v) n).length) (e : at0 (pickI (T v) n) r = (p : Int)) (hp : p < n) (h1 : 0 < misF T n D v r p) (h0 : misF T n D v r p - 1 = 0) (hs : SameH (putQ q m (p : Int)) q' (m + 1)) : KahnR T n D v (r + 1) (m + 1) q' := by
  have hc : 0 < cntT T n D p := by rw [← mis_at hr e]; exact h1
  have hpv : p ≠ v := fun c => by rw [c, h.cv] at hc; omega
  have hdp : D p = false := by
    cases c : D p
    · rfl
    · rw [h.cl p hp c] at hc; omega
  refine ⟨h.hv, h.hd, h.cv, h.cl, fun x => ?_, inj_push hs h.inj fun j hj e3 => ?_⟩
  · rw [mem_push hs x, h.mem x]
    constructor
    · rintro (⟨w, hw, e2, h2, h3⟩ | e2)
      · refine ⟨w, hw, e2, h2, ?_⟩
        rw [mis_next hr e, if_neg (fun c => by rw [c] at h3; omega)]
        exact h3
      · refine ⟨p, hp, e2, ?_, by rw [mis_next hr e, if_pos rfl]; exact h0⟩
        unfold putD
        rw [if_neg hpv]
        exact hdp
    · rintro ⟨w, hw, e2, h2, h3⟩
      rw [mis_next hr e] at h3
      by_cases c : w = p
      · right; rw [e2, c]
      · rw [if_neg c] at h3
        exact Or.inl ⟨w, hw, e2, h2, h3⟩
  · obtain ⟨w, hw, e2, h2, h3⟩ := (h.mem (q j)).1 ⟨j, hj, rfl⟩
    have : w = p := by omega
    rw [this] at h3
    omega
theorem KahnR.done {v : Nat} (h : KahnR T n D v (pickI (T v) n).length m q) : KahnI T n (putD D v) m q where
  cl := fun u hu hD => by
    have h1 := cnt_put (T := T) (w := u) h.hv h.hd
    have h2 : cntT T n D u = 0 := by
      unfold putD at hD
      by_cases c : u = v
      · rw [c]; exact h.cv
      · rw [if_neg c] at hD; exact h.cl u hu hD
    omega
  mem := fun x => by
    rw [h.mem x]
    constructor
    · rintro ⟨w, hw, e, h1, h2⟩
      rw [misF_end h.hv h.hd hw] at h2
      exact ⟨w, hw, e, h1, h2⟩
    · rintro ⟨w, hw, e, h1, h2⟩
      exact ⟨w, hw, e, h1, by rw [misF_end h.hv h.hd hw]; exact h2⟩
  inj := h.inj
theorem cN_lt {D : Nat → Bool} {v : Nat} : ∀ {n : Nat}, v < n → D v = false → cN D n < n
  | 0, h, _ => absurd h (by omega)
  | n + 1, hv, hd => by
    by_cases e : v = n
    · subst e
      rw [cN_no hd]
      have := pickI_len D v
      unfold cN
      omega
    · have ih := cN_lt (n := n) (by omega) hd
      cases c : D n
      · rw [cN_no c]; omega
      · rw [cN_yes c]; omega
theorem cN_putD {D : Nat → Bool} {v n : Nat} (hv : v < n) (hd : D v = false) : cN (putD D v) n = cN D n + 1 := by
  refine cN_drop hv ?_ hd fun u hu => ?_
  · unfold putD; rw [if_pos rfl]
  · unfold putD; rw [if_neg hu]
end
end Go.Proofs.Ytdfljeonoallfaa
