/- Graphs: components: the plain mathematics. -/
import Derived.Test.YtdfljeonoallfaaGK
namespace Go.Proofs.Ytdfljeonoallfaa
open Go.RowKit

structure MemI (R : Nat → List Int) (n : Nat) (A0 : Nat → Bool) (r i k : Nat) (q : List Nat) : Prop where
  len : i ≤ q.length
  root : r ∈ q
  lt : ∀ v, v ∈ q → v < n
  nd : q.Nodup
  rch : ∀ v, v ∈ q → RchR R n v r
  new : ∀ v, v ∈ q → A0 v = false
  done : ∀ j (_ : j < i) (h : j < q.length), ∀ w, EdgeR R n w q[j] → A0 w = true ∨ w ∈ q
  part : ∀ (h : i < q.length), ∀ a, a < k → a < (revV R n q[i]).length → ∀ w : Nat, at0 (revV R n q[i]) a = (w : Int) → A0 w = true ∨ w ∈ q
theorem mem_start {R : Nat → List Int} {n : Nat} {A0 : Nat → Bool} {r : Nat} (hr : r < n) (h : A0 r = false) : MemI R n A0 r 0 0 [r] where
  len := by simp
  root := by simp
  lt := fun v hv => by simp at hv; omega
  nd := by simp
  rch := fun v hv => by simp at hv; exact Or.inl hv
  new := fun v hv => by simp at hv; subst hv; exact h
  done := fun j h => absurd h (by omega)
  part := fun _ a h => absurd h (by omega)
theorem mem_old {R : Nat → List Int} {n : Nat} {A0 : Nat → Bool} {r i k : Nat} {q : List Nat} (I : MemI R n A0 r i k q) (hi : i < q.length) {w : Nat} (e : at0 (revV R n q[i]) k = (w : Int)) (h : A0 w = true ∨ w ∈ q) : MemI R n A0 r i (k + 1) q := by
  have part' : ∀ (h : i < q.length), ∀ a, a < k + 1 → a < (revV R n q[i]).length → ∀ w : Nat, at0 (revV R n q[i]) a = (w : Int) → A0 w = true ∨ w ∈ q := fun h' a ha ha2 v hv => by
    by_cases c : a = k
    · subst c
      have : v = w := by omega
      subst this
      exact h
    · exact I.part h' a (by omega) ha2 v hv
  exact { I with part := part' }
theorem mem_new {R : Nat → List Int} {n : Nat} {A0 : Nat → Bool} {r i k : Nat} {q : List Nat} (I : MemI R n A0 r i k q) (hi : i < q.length) {w : Nat} (hw : w < n) (e : at0 (revV R n q[i]) k = (w : Int)) (h : A0 w = false) (h2 : w ∉ q) (hE : EdgeR R n w q[i]) : MemI R n A0 r i (k + 1) (q ++ [w]) := by
  have up : ∀ x, A0 x = true ∨ x ∈ q → A0 x = true ∨ x ∈ q ++ [w] := fun x hx => hx.imp id fun hx => List.mem_append_left _ hx
  refine ⟨by have := I.len; simp; omega, List.mem_append_left _ I.root, fun v hv => ?_, ?_, fun v hv => ?_, fun v hv => ?_, fun j hj hj2 x hx => ?_, fun h0 a ha ha2 v hv => ?_⟩
  · rcases List.mem_append.1 hv with hv | hv
    · exact I.lt v hv
    · simp at hv; omega
  · rw [List.nodup_append]
    refine ⟨I.nd, by simp, fun a ha b hb => ?_⟩
    simp at hb
    subst hb
    exact fun c => h2 (c ▸ ha)
  · rcases List.mem_append.1 hv with hv | hv
    · exact I.rch v hv
    · simp at hv
      subst hv
      exact (RchR.edge hE).trans (I.rch _ (List.getElem_mem hi))
  · rcases List.mem_append.1 hv with hv | hv
    · exact I.new v hv
    · simp at hv
      subst hv
      exact h
  · have hj3 : j < q.length := by omega
    rw [List.getElem_append_left hj3] at hx
    exact up x (I.done j hj hj3 x hx)
  · rw [List.getElem_append_left hi] at ha2 hv
    by_cases c : a = k
    · subst c
      have : v = w := by omega
      subst this
      exact Or.inr (by simp)
    · exact up v (I.part hi a (by omega) ha2 v hv)
theorem mem_next {R : Nat → List Int} {n : Nat} {A0 : Nat → Bool} {r i : Nat} {q : List Nat} (hi : i < q.length) (I : MemI R n A0 r i (revV R n q[i]).length q) : MemI R n A0 r (i + 1) 0 q := by
  have done' : ∀ j (_ : j < i + 1) (h : j < q.length), ∀ w, EdgeR R n w q[j] → A0 w = true ∨ w ∈ q := fun j h0 h1 w hE => by
    by_cases c : j = i
    · subst c
      have ht : tabB R w q[j] = true := by unfold tabB; simpa using hE.2.2
      obtain ⟨a, ha, ha2⟩ := rev_mem hE.1 ht
      exact I.part hi a ha ha w ha2
    · exact I.done j (by omega) h1 w hE
  exact { I with len := hi, done := done', part := fun _ a h => absurd h (by omega) }
theorem mem_end {R : Nat → List Int} {n : Nat} {A0 : Nat → Bool} {r : Nat} {q : List Nat} (I : MemI R n A0 r q.length 0 q)
    (cl : ∀ u v, u < n → v < n → MutR R n u v → A0 u = true → A0 v = true) (pr : ∀ x, x < n → RchR R n x r → ¬ RchR R n r x → A0 x = true) (v : Nat) (hv : v < n) : v ∈ q ↔ MutR R n v r := by
  have hrn := I.lt r I.root
  constructor
  · intro h
    refine ⟨I.rch v h, Classical.byContradiction fun c => ?_⟩
    have h1 := pr v hv (I.rch v h) c
    rw [I.new v h] at h1
    cases h1
  · rintro ⟨h1, h2⟩
    rcases h1 with rfl | h1
    · exact I.root
    · have key : ∀ x, x < n → RchR R n r x → PathR R n x r → x ∈ q := by
        intro x hx hrx hp
        have hp2 : ∀ y, PathR R n x y → y ∈ q → RchR R n y r → x ∈ q := by
          intro y hy
          induction hy with
          | single h =>
            intro hq _
            obtain ⟨j, hj, rfl⟩ := List.mem_iff_getElem.1 hq
            rcases I.done j hj hj x h with h3 | h3
            · have := cl x r hx hrn ⟨Or.inr hp, hrx⟩ h3
              rw [I.new r I.root] at this; cases this
            · exact h3
          | @tail b c hb h ih =>
            intro hq hyr
            obtain ⟨j, hj, rfl⟩ := List.mem_iff_getElem.1 hq
            have hbr : RchR R n b r := (RchR.edge h).trans hyr
            rcases I.done j hj hj b h with h3 | h3
            · have hrb : RchR R n r b := hrx.trans (Or.inr hb)
              have := cl b r h.1 hrn ⟨hbr, hrb⟩ h3
              rw [I.new r I.root] at this; cases this
            · exact ih h3 hbr
        exact hp2 r hp I.root (Or.inl rfl)
      exact key v hv h2 h1
/-- the least vertex of a component -/
def mutB (R : Nat → List Int) (n u v : Nat) : Bool := warN (tabB R) n u v && warN (tabB R) n v u
def cmpV (R : Nat → List Int) (n v : Nat) : Nat := ((List.range v).find? fun u => mutB R n u v).getD v
theorem mutB_iff {R : Nat → List Int} {n u v : Nat} (hu : u < n) (hv : v < n) (hne : u ≠ v) : mutB R n u v = true ↔ MutR R n u v := by
  unfold mutB MutR RchR
  rw [Bool.and_eq_true, war_iff hu hv, war_iff hv hu]
  constructor
  · rintro ⟨h1, h2⟩; exact ⟨Or.inr h1, Or.inr h2⟩
  · rintro ⟨h1, h2⟩; exact ⟨h1.resolve_left hne, h2.resolve_left fun c => hne c.symm⟩
theorem cmp_spec {R : Nat → List Int} {n v : Nat} (hv : v < n) : cmpV R n v ≤ v ∧ MutR R n (cmpV R n v) v ∧ (∀ u, u < n → MutR R n u v → cmpV R n v ≤ u) ∧ ∀ i, i < cmpV R n v → mutB R n i v = false := by
  unfold cmpV
  cases hf : (List.range v).find? fun u => mutB R n u v with
  | none =>
    have hno := List.find?_eq_none.1 hf
    refine ⟨Nat.le_refl _, MutR.refl R n v, fun u hu h => ?_, fun i hi => ?_⟩
    · rcases Nat.lt_or_ge u v with c | c
      · exact absurd ((mutB_iff hu hv (by omega)).2 h) (hno u (List.mem_range.2 c))
      · exact c
    · have hi : i < v := hi
      simpa using hno i (List.mem_range.2 hi)
  | some x =>
    have hx := List.find?_some hf
    have hm := List.mem_range.1 (List.mem_of_find?_eq_some hf)
    rw [List.find?_range_eq_some] at hf
    refine ⟨Nat.le_of_lt hm, (mutB_iff (Nat.lt_trans hm hv) hv (Nat.ne_of_lt hm)).1 hx, fun u hu h => ?_, fun i hi => ?_⟩
    · show x ≤ u
      rcases Nat.lt_or_ge u x with c | c
      · have h1 := hf.2.2 u c
        have h2 := (mutB_iff hu hv (by omega)).2 h
        rw [h2] at h1
        cases h1
      · exact c
    · have hi : i < x := hi
      simpa using hf.2.2 i hi
theorem cmp_of {R : Nat → List Int} {n v m : Nat} (hv : v < n) (hm : m < n) (h : MutR R n m v) (h2 : ∀ u, u < n → MutR R n u v → m ≤ u) : cmpV R n v = m := by
  obtain ⟨h3, h4, h5, _⟩ := cmp_spec (R := R) hv
  have h6 := h5 m hm h
  have h7 := h2 _ (by omega) h4
  omega
theorem cmp_eq {R : Nat → List Int} {n u v : Nat} (hu : u < n) (hv : v < n) : cmpV R n u = cmpV R n v ↔ MutR R n u v := by
  obtain ⟨h1, h2, h3, _⟩ := cmp_spec (R := R) hu
  obtain ⟨h4, h5, h6, _⟩ := cmp_spec (R := R) hv
  constructor
  · intro e
    rw [e] at h2
    exact h2.symm.trans h5
  · intro h
    have a := h3 _ (by omega) (h5.trans h.symm)
    have b := h6 _ (by omega) (h2.trans h)
    omega
structure CmpI (R : Nat → List Int) (n : Nat) (o : List Nat) (k : Nat) (A : Nat → Bool) (L : Nat → Int) : Prop where
  cl : ∀ u v, u < n → v < n → MutR R n u v → A u = true → A v = true
  pr : ∀ j, k ≤ j → ∀ h : j < o.length, A o[j] = true
  ls : ∀ v, v < n → A v = true → L v = (cmpV R n v : Int)
theorem cmp_start (R : Nat → List Int) (n : Nat) (o : List Nat) (L : Nat → Int) : CmpI R n o o.length (fun _ => false) L :=
  ⟨fun _ _ _ _ _ h => (by cases h), fun j h1 h2 => (by omega), fun _ _ h => (by cases h)⟩
theorem cmp_old {R : Nat → List Int} {n : Nat} {o : List Nat} {k : Nat} {A : Nat → Bool} {L : Nat → Int} (I : CmpI R n o (k + 1) A L) (hk : k < o.length) (h : A o[k] = true) : CmpI R n o k A L :=
  ⟨I.cl, fun j h1 h2 => by
    by_cases c : j = k
    · subst c; exact h
    · exact I.pr j (by omega) h2, I.ls⟩
theorem cmp_pr {R : Nat → List Int} {n : Nat} {o : List Nat} (F : FinO R n o) {k : Nat} {A : Nat → Bool} {L : Nat → Int} (I : CmpI R n o (k + 1) A L) (hk : k < o.length) : ∀ x, x < n → RchR R n x o[k] → ¬ RchR R n o[k] x → A x = true := fun x hx h1 h2 => by
  obtain ⟨j, hj, hkj, hm⟩ := fin_later F hx hk h1 h2
  exact I.cl _ _ (F.lt _ (List.getElem_mem hj)) hx hm.symm (I.pr j (by omega) hj)
theorem cmp_new {R : Nat → List Int} {n : Nat} {o : List Nat} (F : FinO R n o) {k : Nat} {A : Nat → Bool} {L : Nat → Int} (I : CmpI R n o (k + 1) A L) (hk : k < o.length) {q : List Nat} (M : MemI R n A o[k] q.length 0 q)
    {m : Nat} (hm : m ∈ q) (hm2 : ∀ x, x ∈ q → m ≤ x) : CmpI R n o k (fun v => A v || decide (v ∈ q)) (fun v => if v ∈ q then (m : Int) else L v) := by
  have E := mem_end M I.cl (cmp_pr F I hk)
  have hr := M.lt _ M.root
  refine ⟨fun u v hu hv h h2 => ?_, fun j h1 h2 => ?_, fun v hv h => ?_⟩
  · rw [Bool.or_eq_true, decide_eq_true_eq] at h2 ⊢
    rcases h2 with h2 | h2
    · exact Or.inl (I.cl u v hu hv h h2)
    · exact Or.inr ((E v hv).2 (h.symm.trans ((E u hu).1 h2)))
  · rw [Bool.or_eq_true, decide_eq_true_eq]
    by_cases c : j = k
    · subst c; exact Or.inr M.root
    · exact Or.inl (I.pr j (by omega) h2)
  · by_cases c : v ∈ q
    · rw [if_pos c]
      have h1 := cmp_of hv (M.lt m hm) (((E m (M.lt m hm)).1 hm).trans ((E v hv).1 c).symm) fun u hu h => hm2 u ((E u hu).2 (h.trans ((E v hv).1 c)))
      rw [h1]
    · rw [if_neg c]
      rw [Bool.or_eq_true, decide_eq_true_eq] at h
      exact I.ls v hv (h.resolve_right c)
theorem cmp_end {R : Nat → List Int} {n : Nat} {o : List Nat} (F : FinO R n o) {A : Nat → Bool} {L : Nat → Int} (I : CmpI R n o 0 A L) {v : Nat} (hv : v < n) : L v = (cmpV R n v : Int) := by
  obtain ⟨j, hj, e⟩ := List.mem_iff_getElem.1 (F.all v hv)
  have h := I.pr j (Nat.zero_le _) hj
  rw [e] at h
  exact I.ls v hv h
/- components that no edge leaves -/
def outE (R : Nat → List Int) (n x i : Nat) : Bool := inR (at0 (R x) i) n && !decide (cmpV R n (at0 (R x) i).toNat = cmpV R n x)
def outB (R : Nat → List Int) (n x : Nat) : Bool := anyN (outE R n x) (R x).length
def lefK (R : Nat → List Int) (n k v : Nat) : Bool := anyN (fun x => decide (cmpV R n x = v) && outB R n x) k
def levB (R : Nat → List Int) (n k v : Nat) : Bool := !decide (cmpV R n v = v) || anyN (fun u => warN (tabB R) n v u && !decide (cmpV R n u = v)) k
def botV (R : Nat → List Int) (n : Nat) : List Int := pickI (fun v => decide (cmpV R n v = v) && !lefK R n n v) n
theorem anyN_iff {f : Nat → Bool} {n : Nat} : anyN f n = true ↔ ∃ i, i < n ∧ f i = true := by
  unfold anyN
  rw [List.any_eq_true]
  exact ⟨fun ⟨i, h1, h2⟩ => ⟨i, List.mem_range.1 h1, h2⟩, fun ⟨i, h1, h2⟩ => ⟨i, List.mem_range.2 h1, h2⟩⟩
theorem lev_lef {R : Nat → List Int} {n v : Nat} (hv : v < n) : (!levB R n n v) = (decide (cmpV R n v = v) && !lefK R n n v) := by
  unfold levB
  rw [Bool.not_or, Bool.not_not]
  by_cases hc : cmpV R n v = v
  · rw [decide_eq_true hc, Bool.true_and, Bool.true_and]
    congr 1
    rw [Bool.eq_iff_iff]
    unfold lefK
    rw [anyN_iff, anyN_iff]
    constructor
    · rintro ⟨u, hu, h⟩
      rw [Bool.and_eq_true, war_iff hv hu] at h
      obtain ⟨h1, h2⟩ := h
      have h2 : cmpV R n u ≠ v := by simpa using h2
      clear hu
      have key : ∀ y, PathR R n v y → cmpV R n y ≠ v → ∃ x w, EdgeR R n x w ∧ cmpV R n x = v ∧ cmpV R n w ≠ v := by
        intro y hy
        induction hy with
        | single h => exact fun hn => ⟨_, _, h, hc, hn⟩
        | @tail y z hy h ih =>
          intro hn
          by_cases c : cmpV R n y = v
          · exact ⟨y, z, h, c, hn⟩
          · exact ih c
      obtain ⟨x, w, hE, h3, h4⟩ := key u h1 h2
      refine ⟨x, hE.1, ?_⟩
      rw [decide_eq_true h3, Bool.true_and]
      unfold outB
      rw [anyN_iff]
      obtain ⟨i, hi, e⟩ := List.mem_iff_getElem.1 hE.2.2
      refine ⟨i, hi, ?_⟩
      have e2 : at0 (R x) i = (w : Int) := by unfold at0; rw [List.getElem?_eq_getElem hi, e]; rfl
      unfold outE
      rw [e2, h3, Bool.and_eq_true, inR_iff]
      refine ⟨by have := hE.2.1; omega, ?_⟩
      simpa using h4
    · rintro ⟨x, hx, h⟩
      rw [Bool.and_eq_true, decide_eq_true_eq] at h
      obtain ⟨h1, h2⟩ := h
      unfold outB at h2
      rw [anyN_iff] at h2
      obtain ⟨i, hi, h3⟩ := h2
      unfold outE at h3
      rw [Bool.and_eq_true, inR_iff] at h3
      obtain ⟨⟨h4, h5⟩, h6⟩ := h3
      have h6 : cmpV R n (at0 (R x) i).toNat ≠ cmpV R n x := by simpa using h6
      have hE : EdgeR R n x (at0 (R x) i).toNat := by
        refine ⟨hx, by omega, ?_⟩
        rw [show (((at0 (R x) i).toNat : Nat) : Int) = at0 (R x) i from by omega]
        unfold at0
        rw [List.getElem?_eq_getElem hi]
        exact List.getElem_mem hi
      refine ⟨_, hE.2.1, ?_⟩
      rw [Bool.and_eq_true, war_iff hv hE.2.1]
      have hm : MutR R n v x := (cmp_eq hv hx).1 (by rw [hc, h1])
      refine ⟨?_, by rw [h1] at h6; simpa using h6⟩
      rcases hm.1 with rfl | hp
      · exact Relation.TransGen.single hE
      · exact Relation.TransGen.tail hp hE
  · rw [decide_eq_false hc]
    simp
end Go.Proofs.Ytdfljeonoallfaa
