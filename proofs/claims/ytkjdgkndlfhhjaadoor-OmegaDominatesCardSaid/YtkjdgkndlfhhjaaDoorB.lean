/- Plain facts on extended markings: no walk. -/
import Derived.Test.YtkjdgkndlfhhjaaDoorA
namespace Go.Proofs.YtkjdgkndlfhhjaaDoor
open Go.RowKit

def okW (x : Int) : Bool := decide (x = -1 ∨ (0 ≤ x ∧ x ≤ 1048576))
def valW (a : List Int) : Bool := a.all okW
theorem all_iff {f : Int → Bool} {a : List Int} : a.all f = true ↔ ∀ k, k < a.length → f (at0 a k) = true := by
  rw [List.all_eq_true]
  constructor
  · intro h k hk
    have := h a[k] (List.getElem_mem hk)
    unfold at0
    rw [List.getElem?_eq_getElem hk]
    exact this
  · intro h x hx
    obtain ⟨k, hk, rfl⟩ := List.getElem_of_mem hx
    have := h k hk
    unfold at0 at this
    rw [List.getElem?_eq_getElem hk] at this
    exact this
theorem all_no {f : Int → Bool} {a : List Int} (k : Nat) (hk : k < a.length) (h : f (at0 a k) = false) : a.all f = false := by
  cases e : a.all f
  · rfl
  · rw [all_iff.1 e k hk] at h; cases h
def moreB (x y : Int) : Bool := decide (y ≠ -1 ∧ (x = -1 ∨ y < x))
def leqW (a b : List Int) : Bool := decide (a.length = b.length) && valW a && valW b && (List.range a.length).all fun k => !moreB (at0 a k) (at0 b k)
theorem leqW_no {a b : List Int} (h : ¬ (a.length = b.length ∧ valW a = true ∧ valW b = true)) : leqW a b = false := by
  unfold leqW
  by_cases h1 : a.length = b.length
  · cases h2 : valW a
    · simp
    · cases h3 : valW b
      · simp
      · exact absurd ⟨h1, h2, h3⟩ h
  · simp [h1]
theorem leqW_at {a b : List Int} (k : Nat) (hk : k < a.length) (h : moreB (at0 a k) (at0 b k) = true) : leqW a b = false := by
  unfold leqW
  rw [Bool.and_eq_false_iff]
  right
  rw [List.all_eq_false]
  exact ⟨k, List.mem_range.2 hk, by simp [h]⟩
theorem leqW_yes {a b : List Int} (hl : a.length = b.length) (ha : valW a = true) (hb : valW b = true) (h : ∀ k, k < a.length → moreB (at0 a k) (at0 b k) = false) : leqW a b = true := by
  unfold leqW
  rw [ha, hb]
  simp only [hl, decide_true, Bool.true_and, List.all_eq_true]
  intro k hk
  have := h k (by rw [hl]; exact List.mem_range.1 hk)
  simp [this]
theorem leqW_of {a b : List Int} (h : leqW a b = true) : a.length = b.length ∧ valW a = true ∧ valW b = true ∧ ∀ k, k < a.length → moreB (at0 a k) (at0 b k) = false := by
  unfold leqW at h
  simp only [Bool.and_eq_true, decide_eq_true_eq, List.all_eq_true] at h
  exact ⟨h.1.1.1, h.1.1.2, h.1.2, fun k hk => by simpa using h.2 k (List.mem_range.2 hk)⟩
def natW (a : List Int) : Bool := a.all fun x => decide (0 ≤ x ∧ x ≤ 1048576)
def finW (a : List Int) : Bool := a.all fun x => decide (x ≠ -1)
def covW (a m : List Int) : Bool := natW m && leqW m a
theorem cov_fin (a m : List Int) : (finW m && leqW m a) = covW a m := by
  unfold covW
  cases h : leqW m a
  · simp
  · have hv := all_iff.1 (leqW_of h).2.1
    rw [Bool.and_true, Bool.and_true]
    unfold finW natW
    rw [Bool.eq_iff_iff, all_iff, all_iff]
    refine forall_congr' fun k => forall_congr' fun hk => ?_
    have := hv k hk
    unfold okW at this
    simp only [decide_eq_true_eq] at *
    omega
def finL (m : List Int) (k : Nat) : List Int := ((List.range k).filter fun j => decide (at0 m j ≠ -1)).map fun (j : Nat) => (j : Int)
theorem finL_zero (m : List Int) : finL m 0 = [] := rfl
theorem finL_yes {m : List Int} {k : Nat} (h : at0 m k ≠ -1) : finL m (k + 1) = finL m k ++ [(k : Int)] := by
  unfold finL
  rw [List.range_succ, List.filter_append, List.map_append]
  simp [h]
theorem finL_no {m : List Int} {k : Nat} (h : at0 m k = -1) : finL m (k + 1) = finL m k := by
  unfold finL
  rw [List.range_succ, List.filter_append, List.map_append]
  simp [h]
theorem finL_len (m : List Int) (k : Nat) : (finL m k).length ≤ k := by
  unfold finL
  rw [List.length_map]
  exact Nat.le_trans (List.length_filter_le _ _) (Nat.le_of_eq List.length_range)
theorem finL_all (m : List Int) : decide ((finL m m.length).length = m.length) = finW m := by
  rw [Bool.eq_iff_iff, decide_eq_true_eq]
  unfold finL finW
  rw [all_iff, List.length_map]
  have h : ((List.range m.length).filter fun j => decide (at0 m j ≠ -1)).length = m.length ↔ ((List.range m.length).filter fun j => decide (at0 m j ≠ -1)).length = (List.range m.length).length := by simp
  rw [h, List.length_filter_eq_length_iff]
  exact ⟨fun h k hk => h k (List.mem_range.2 hk), fun h k hk => h k (List.mem_range.1 hk)⟩
def accS (low high : List Int) : List Int := tab high.length fun k => if at0 low k = at0 high k then at0 high k else -1
def accM (low high : List Int) : List Int := if leqW low high = true then accS low high else high
theorem accM_len (low high : List Int) : (accM low high).length = high.length := by
  unfold accM
  split
  · exact tab_len _ _
  · rfl
theorem more_iff {x y : Int} : moreB x y = false ↔ y = -1 ∨ (x ≠ -1 ∧ x ≤ y) := by
  unfold moreB
  rw [decide_eq_false_iff_not]
  omega
theorem more_yes {x y : Int} : moreB x y = true ↔ y ≠ -1 ∧ (x = -1 ∨ y < x) := by
  unfold moreB
  rw [decide_eq_true_eq]
/-- under the order, an element is greater exactly if it differs -/
theorem more_ne {x y : Int} (h : moreB x y = false) : moreB y x = decide (x ≠ y) := by
  rw [more_iff] at h
  unfold moreB
  rw [Bool.eq_iff_iff, decide_eq_true_eq, decide_eq_true_eq]
  omega
theorem leq_trans {a b c : List Int} (h1 : leqW a b = true) (h2 : leqW b c = true) : leqW a c = true := by
  obtain ⟨a1, a2, a3, a4⟩ := leqW_of h1
  obtain ⟨b1, b2, b3, b4⟩ := leqW_of h2
  refine leqW_yes (a1.trans b1) a2 b3 fun k hk => ?_
  have u := more_iff.1 (a4 k hk)
  have v := more_iff.1 (b4 k (by omega))
  rw [more_iff]
  omega
theorem leq_refl {a : List Int} (h : valW a = true) : leqW a a = true := leqW_yes rfl h h fun k _ => by rw [more_iff]; omega
theorem acc_high {low high : List Int} (h : leqW low high = true) : leqW high (accM low high) = true := by
  obtain ⟨a1, a2, a3, a4⟩ := leqW_of h
  unfold accM
  rw [if_pos h]
  have e : ∀ k, k < high.length → at0 (accS low high) k = if at0 low k = at0 high k then at0 high k else -1 := fun k hk => tab_at _ _ k hk
  have el : (accS low high).length = high.length := tab_len _ _
  have hv := all_iff.1 a3
  refine leqW_yes el.symm a3 (all_iff.2 fun k hk => ?_) fun k hk => ?_
  · rw [el] at hk
    rw [e k hk]
    split
    · exact hv k hk
    · rfl
  · rw [e k hk, more_iff]
    split
    · omega
    · left; rfl
theorem acc_low {low high : List Int} (h : leqW low high = true) : leqW low (accM low high) = true := leq_trans h (acc_high h)
theorem acc_self (a : List Int) : accM a a = a := by
  unfold accM
  split
  · unfold accS
    refine Eq.trans (tab_congr fun k _ => if_pos rfl) (tab_self a)
  · rfl
theorem acc_cov {low high m : List Int} (h : leqW low high = true) (hc : covW low m = true ∨ covW high m = true) : covW (accM low high) m = true := by
  unfold covW at *
  simp only [Bool.and_eq_true] at *
  rcases hc with ⟨h1, h2⟩ | ⟨h1, h2⟩
  · exact ⟨h1, leq_trans h2 (acc_low h)⟩
  · exact ⟨h1, leq_trans h2 (acc_high h)⟩
end Go.Proofs.YtkjdgkndlfhhjaaDoor
