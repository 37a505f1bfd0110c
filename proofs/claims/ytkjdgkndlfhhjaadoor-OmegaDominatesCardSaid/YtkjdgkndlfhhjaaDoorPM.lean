/- Plain maths of the reference's insertion. -/
import Derived.Test.YtkjdgkndlfhhjaaDoorOY
namespace Go.Proofs.YtkjdgkndlfhhjaaDoor
open Go.RowKit

def stB (m : List Int) (s : List (List Int) × Bool) (x : List Int) : List (List Int) × Bool :=
  ((if s.2 = false ∧ befW m x = true then s.1 ++ [m] else s.1) ++ [x], s.2 || befW m x)
def finB (m : List Int) (s : List (List Int) × Bool) : List (List Int) := if s.2 = true then s.1 else s.1 ++ [m]
theorem stB_done : ∀ (m : List Int) (l out : List (List Int)), l.foldl (stB m) (out, true) = (out ++ l, true)
  | m, [], out => by simp
  | m, x :: r, out => by
    rw [List.foldl_cons]
    have : stB m (out, true) x = (out ++ [x], true) := by simp [stB]
    rw [this, stB_done m r]
    simp
theorem stB_all : ∀ (m : List Int) (l out : List (List Int)), finB m (l.foldl (stB m) (out, false)) = out ++ insB m l
  | m, [], out => by simp [finB, insB]
  | m, x :: r, out => by
    rw [List.foldl_cons]
    unfold insB
    by_cases h1 : befW m x = true
    · have : stB m (out, false) x = (out ++ [m] ++ [x], true) := by simp [stB, h1]
      rw [this, stB_done, if_pos h1]
      simp [finB]
    · have : stB m (out, false) x = (out ++ [x], false) := by simp [stB, h1]
      rw [this, stB_all m r, if_neg h1]
      simp
theorem stB_take {m : List Int} {l : List (List Int)} {k : Nat} (hk : k < l.length) (s : List (List Int) × Bool) : (l.take (k + 1)).foldl (stB m) s = stB m ((l.take k).foldl (stB m) s) l[k] := by
  rw [List.take_succ_eq_append_getElem hk, List.foldl_append]
  rfl
theorem stB_step (m : List Int) (L : List Row) {k : Nat} (h : k < L.length) (s : List (List Int) × Bool) : ((rowsL L).take (k + 1)).foldl (stB m) s = stB m (((rowsL L).take k).foldl (stB m) s) (rA L k).zs := by
  rw [stB_take (rows_lt h), rA_get h]
/-- what the inner loop has found behind k rounds -/
def badK (m x : List Int) (i k : Nat) : Bool := (sameL m x && decide (k < i)) || (!(sameL m x) && leqW m x)
def keepP (L : List Row) (i : Nat) (m : List Int) (k : Nat) : Bool := (List.range k).all fun j => !(badK m (rA L j).zs i j)
theorem keepP_zero (L : List Row) (i : Nat) (m : List Int) : keepP L i m 0 = true := rfl
theorem keepP_succ (L : List Row) (i : Nat) (m : List Int) (k : Nat) : keepP L i m (k + 1) = (keepP L i m k && !(badK m (rA L k).zs i k)) := by
  unfold keepP
  rw [List.range_succ, List.all_append]
  simp
theorem rows_getD (L : List Row) (k : Nat) : (rowsL L)[k]?.getD [] = (rA L k).zs := by
  unfold rowsL rA
  rw [List.getElem?_map]
  cases L[k]? <;> rfl
theorem keepP_all (L : List Row) (i : Nat) (m : List Int) : keepP L i m L.length = keepB (rowsL L) i m := by
  unfold keepP keepB badK
  rw [rowsL_len]
  congr 1
  funext j
  rw [rows_getD]
def outR (L : List Row) (i : Nat) : List (List Int) := (List.range i).foldl (stR (rowsL L)) []
theorem outR_zero (L : List Row) : outR L 0 = [] := rfl
theorem outR_no (L : List Row) (i : Nat) (h : keepB (rowsL L) i (rA L i).zs = false) : outR L (i + 1) = outR L i := by
  unfold outR
  rw [List.range_succ, List.foldl_append, List.foldl_cons, List.foldl_nil]
  unfold stR
  rw [rows_getD, h, if_neg (by simp)]
theorem outR_yes (L : List Row) (i : Nat) (h : keepB (rowsL L) i (rA L i).zs = true) : outR L (i + 1) = insB (rA L i).zs (outR L i) := by
  unfold outR
  rw [List.range_succ, List.foldl_append, List.foldl_cons, List.foldl_nil]
  have e : ∀ out, stR (rowsL L) out i = insB (rA L i).zs out := fun out => by
    unfold stR
    rw [rows_getD, h, if_pos rfl]
  exact e _
theorem outR_all (L : List Row) : outR L L.length = rmaxO (rowsL L) := by
  unfold outR rmaxO
  rw [rowsL_len]
end Go.Proofs.YtkjdgkndlfhhjaaDoor
