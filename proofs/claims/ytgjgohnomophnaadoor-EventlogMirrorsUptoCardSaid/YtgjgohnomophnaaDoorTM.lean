/- Event logs: the text of a log, in plain words. -/
import Derived.Test.YtgjgohnomophnaaDoorCH
import Derived.Test.YtgjgohnomophnaaDoorPB
namespace Go.Proofs.YtgjgohnomophnaaDoor
open Go.RowKit

/-- the first k words of a trace, and the lines of the first j traces -/
def wK (x : List Txt) : Nat → Txt
  | 0 => []
  | k + 1 => (if k = 0 then wK x k else wK x k ++ [32]) ++ atS x k
def rowT (x : List Txt) : Txt := if x.length = 0 then [45] else wK x x.length
def txtK (R : List (List Txt)) : Nat → Txt
  | 0 => []
  | j + 1 => (txtK R j ++ rowT (R[j]?.getD [])) ++ [10]
def textV (R : List (List Txt)) : Txt × Int × Nat := if (chkL R).1 ≠ 0 then ([], chkL R) else (txtK R R.length, 0, 0)
theorem wK_zero (x : List Txt) : wK x 1 = atS x 0 := by simp [wK]
theorem wK_succ (x : List Txt) {k : Nat} (h : k ≠ 0) : wK x (k + 1) = (wK x k ++ [32]) ++ atS x k := by rw [wK, if_neg h]
theorem wK_len {x : List Txt} (h : ∀ i, (atS x i).length ≤ 40) : ∀ k, (wK x k).length ≤ 41 * k
  | 0 => Nat.zero_le _
  | k + 1 => by
    have h1 := wK_len h k
    have h2 := h k
    rw [wK]
    split
    · rw [List.length_append]; omega
    · rw [List.length_append, List.length_append, List.length_singleton]; omega
theorem rowT_len {x : List Txt} (h : ∀ i, (atS x i).length ≤ 40) : (rowT x).length ≤ 41 * x.length + 1 := by
  unfold rowT
  have := wK_len h x.length
  split
  · simp
  · omega
theorem txtK_len {R : List (List Txt)} (h : ∀ (j i : Nat), (atS (R[j]?.getD []) i).length ≤ 40) : ∀ j, (txtK R j).length ≤ 41 * totL R j + 2 * j
  | 0 => Nat.zero_le _
  | j + 1 => by
    have h1 := txtK_len h j
    have h2 := rowT_len (h j)
    rw [txtK, totL, List.length_append, List.length_append, List.length_singleton]
    omega
theorem totL_mono (R : List (List Txt)) {j k : Nat} (h : j ≤ k) : totL R j ≤ totL R k := by
  induction k with
  | zero => rw [Nat.le_zero.1 h]; exact Nat.le_refl _
  | succ k ih =>
    by_cases e : j = k + 1
    · rw [e]; exact Nat.le_refl _
    · have := ih (by omega)
      rw [totL]; omega
theorem FewP.str {L : List Row} (hf : FewP L) (j i : Nat) : (atS (rA L j).zs i).length ≤ 40 := by
  by_cases hj : j < L.length
  · by_cases hi : i < (rA L j).zs.length
    · exact (hf.2.1 j hj).2 i hi
    · unfold atS; rw [List.getElem?_eq_none (by omega)]; simp
  · unfold rA; rw [List.getElem?_eq_none (by omega)]; simp [atS]
theorem FewP.txt {L : List Row} (hf : FewP L) {j : Nat} (hj : j ≤ L.length) : (txtK (rowsL L) j).length ≤ 16560 := by
  have h1 := txtK_len (R := rowsL L) (fun j i => by rw [rows_at]; exact hf.str j i) j
  have h2 := totL_mono (rowsL L) hj
  have h3 := hf.2.2
  have h4 := hf.1
  omega
theorem txtK_step (L : List Row) (j : Nat) : txtK (rowsL L) (j + 1) = (txtK (rowsL L) j ++ rowT (rA L j).zs) ++ [10] := by rw [txtK, rows_at]
def TPost (g : Nat) (w : World) (r : Txt × Int × Nat) (e : Ending) (w' : World) : Prop := e = .returned (.tuple #[.string ⟨r.1.toArray⟩, flt r.2.1 r.2.2]) ∧ Below g w w'
end Go.Proofs.YtgjgohnomophnaaDoor
