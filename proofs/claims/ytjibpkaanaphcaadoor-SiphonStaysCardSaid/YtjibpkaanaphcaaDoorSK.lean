/- The greatest siphon and trap within a set, by the reference. -/
import Derived.Test.YtjibpkaanaphcaaDoorZG
namespace Go.Proofs.YtjibpkaanaphcaaDoor
open Go.RowKit

theorem take_snocI (a : List Int) {k : Nat} (hk : k < a.length) : a.take (k + 1) = a.take k ++ [at0 a k] := by
  rw [List.take_succ_eq_append_getElem hk]
  simp [at0, hk]
def dropW (l : List (Int × Int)) (s k : Nat) : Nat := ((targetsV l).take k).foldl Bt.woV s
theorem dropW_zero (l : List (Int × Int)) (s : Nat) : dropW l s 0 = s := rfl
theorem dropW_step {l : List (Int × Int)} {s k : Nat} (hk : k < l.length) : dropW l s (k + 1) = Bt.woV (dropW l s k) (aP l k) := by
  unfold dropW
  have hl : k < (targetsV l).length := by unfold targetsV; rw [List.length_map]; exact hk
  rw [take_snocI _ hl, List.foldl_append]
  have e : at0 (targetsV l) k = aP l k := by
    unfold at0 targetsV aP
    rw [List.getElem?_map, List.getElem?_eq_getElem hk]
    rfl
  rw [e]
  rfl
theorem dropW_end {l : List (Int × Int)} {s : Nat} (hs : s < 18446744073709551616) : dropW l s l.length = Bt.mB s (Bt.ofV (targetsV l)) := by
  unfold dropW
  rw [List.take_of_length_le (by unfold targetsV; rw [List.length_map]; exact Nat.le_refl _)]
  exact wo_fold _ s hs
theorem dropW_lt {l : List (Int × Int)} {s : Nat} (hs : s < 18446744073709551616) : ∀ k, k ≤ l.length → dropW l s k < 18446744073709551616
  | 0, _ => hs
  | k + 1, h => by
    rw [dropW_step (by omega)]
    exact mB_lt' (dropW_lt hs k (by omega)) (Bt.sgl_lt _)
def lostA (n : NetV) (b : Bool) (t : Nat) : ArcsV := if b = true then (tA n.ts t).post else (tA n.ts t).pre
def keptA (n : NetV) (b : Bool) (t : Nat) : ArcsV := if b = true then (tA n.ts t).pre else (tA n.ts t).post
theorem step_eq {n : NetV} {b : Bool} {s t : Nat} (hs : s < 18446744073709551616) : stepG n b s t = if meetsB (keptA n b t).l s = true then s else dropW (lostA n b t).l s (lostA n b t).l.length := by
  unfold stepG
  rw [meets_of, dropW_end hs]
  unfold ndS trgS inS outS keptA lostA
  cases b <;> rfl

end Go.Proofs.YtjibpkaanaphcaaDoor
