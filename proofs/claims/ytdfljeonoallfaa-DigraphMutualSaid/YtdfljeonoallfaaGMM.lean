/- Graphs: from every vertex a component that no edge leaves can be reached: the plain mathematics. -/
import Derived.Test.YtdfljeonoallfaaGC
namespace Go.Proofs.Ytdfljeonoallfaa
open Go.RowKit

def cntB (R : Nat → List Int) (n x : Nat) : Nat := ((List.range n).filter fun y => decide (x = y) || warN (tabB R) n x y).length
theorem cnt_iff {R : Nat → List Int} {n x y : Nat} (hx : x < n) (hy : y < n) : (decide (x = y) || warN (tabB R) n x y) = true ↔ RchR R n x y := by
  unfold RchR
  rw [Bool.or_eq_true, decide_eq_true_eq, war_iff hx hy]
theorem filter_lt {l : List Nat} {p q : Nat → Bool} (h : ∀ y, y ∈ l → q y = true → p y = true) (z : Nat) (hz : z ∈ l) (h1 : p z = true) (h2 : q z = false) : (l.filter q).length < (l.filter p).length := by
  induction l with
  | nil => cases hz
  | cons a l ih =>
    have hle : (l.filter q).length ≤ (l.filter p).length := by
      clear ih hz
      induction l with
      | nil => exact Nat.le_refl _
      | cons b l ih2 =>
        have ih3 := ih2 fun y hy => h y (by
          rcases List.mem_cons.1 hy with rfl | hy
          · exact List.mem_cons_self
          · exact List.mem_cons_of_mem _ (List.mem_cons_of_mem _ hy))
        cases hq : q b
        · rw [List.filter_cons_of_neg (by simp [hq])]
          cases hp : p b
          · rw [List.filter_cons_of_neg (by simp [hp])]; exact ih3
          · rw [List.filter_cons_of_pos hp, List.length_cons]; omega
        · have hp := h b (List.mem_cons_of_mem _ List.mem_cons_self) hq
          rw [List.filter_cons_of_pos hq, List.filter_cons_of_pos hp, List.length_cons, List.length_cons]
          omega
    rcases List.mem_cons.1 hz with rfl | hz
    · rw [List.filter_cons_of_neg (by simp [h2]), List.filter_cons_of_pos h1, List.length_cons]
      omega
    · have ih2 := ih (fun y hy => h y (List.mem_cons_of_mem _ hy)) hz
      cases hq : q a
      · rw [List.filter_cons_of_neg (by simp [hq])]
        cases hp : p a
        · rw [List.filter_cons_of_neg (by simp [hp])]; exact ih2
        · rw [List.filter_cons_of_pos hp, List.length_cons]; omega
      · have hp := h a List.mem_cons_self hq
        rw [List.filter_cons_of_pos hq, List.filter_cons_of_pos hp, List.length_cons, List.length_cons]
        omega
/-- a vertex that everything reachable from it reaches -/
theorem sink_of {R : Nat → List Int} {n : Nat} : ∀ (m x : Nat), x < n → cntB R n x ≤ m → ∃ y, y < n ∧ RchR R n x y ∧ ∀ z, z < n → RchR R n y z → RchR R n z y
  | 0, x, hx, h => by
    have : 0 < cntB R n x := by
      unfold cntB
      refine List.length_pos_iff.2 (List.ne_nil_of_mem (List.mem_filter.2 ⟨List.mem_range.2 hx, ?_⟩))
      simp
    omega
  | m + 1, x, hx, h => by
    by_cases hs : ∀ z, z < n → RchR R n x z → RchR R n z x
    · exact ⟨x, hx, Or.inl rfl, hs⟩
    · have hs : ∃ z, z < n ∧ RchR R n x z ∧ ¬ RchR R n z x := Classical.byContradiction fun c => hs fun z hz hxz => Classical.byContradiction fun c2 => c ⟨z, hz, hxz, c2⟩
      obtain ⟨z, hz, hxz, hzx⟩ := hs
      have hlt : cntB R n z < cntB R n x := by
        unfold cntB
        refine filter_lt (fun y hy hq => ?_) x (List.mem_range.2 hx) ?_ ?_
        · have hy := List.mem_range.1 hy
          exact (cnt_iff hx hy).2 (hxz.trans ((cnt_iff hz hy).1 hq))
        · simp
        · cases hc : (decide (z = x) || warN (tabB R) n z x)
          · rfl
          · exact absurd ((cnt_iff hz hx).1 hc) hzx
      obtain ⟨y, hy, h1, h2⟩ := sink_of (R := R) (n := n) m z hz (by omega)
      exact ⟨y, hy, hxz.trans h1, h2⟩
theorem bot_mem {R : Nat → List Int} {n v : Nat} (hv : v < n) (hc : cmpV R n v = v) (h : levB R n n v = false) : (v : Int) ∈ botV R n := by
  unfold botV pickI
  rw [List.mem_map]
  refine ⟨v, List.mem_filter.2 ⟨List.mem_range.2 hv, ?_⟩, rfl⟩
  have e := lev_lef (R := R) hv
  rw [h] at e
  exact e.symm
/-- from every vertex one in Bottom can be reached -/
theorem bot_reached (R : Nat → List Int) {n x : Nat} (hx : x < n) : ∃ b : Nat, b < n ∧ (b : Int) ∈ botV R n ∧ RchR R n x b := by
  obtain ⟨y, hy, h1, h2⟩ := sink_of (R := R) (cntB R n x) x hx (Nat.le_refl _)
  obtain ⟨c1, c2, c3, _⟩ := cmp_spec (R := R) hy
  obtain ⟨b, hb⟩ : ∃ b, b = cmpV R n y := ⟨_, rfl⟩
  rw [← hb] at c1 c2
  have hbn : b < n := by omega
  have hbb : cmpV R n b = b := by
    have h := (cmp_eq (R := R) hbn hy).2 c2
    omega
  refine ⟨b, hbn, bot_mem hbn hbb ?_, h1.trans c2.2⟩
  unfold levB
  rw [decide_eq_true hbb, Bool.not_true, Bool.false_or]
  refine anyN_no fun u hu => ?_
  cases hw : warN (tabB R) n b u
  · rfl
  · have hbu : RchR R n b u := Or.inr ((war_iff hbn hu).1 hw)
    have hyu : RchR R n y u := c2.2.trans hbu
    have huy := h2 u hu hyu
    have hub : MutR R n u b := ⟨huy.trans c2.2, hbu⟩
    have e := (cmp_eq (R := R) hu hbn).2 hub
    rw [hbb] at e
    rw [e]
    simp
end Go.Proofs.Ytdfljeonoallfaa
