/- Siphons: the subsets of the places, one after another. -/
import Derived.Test.YtjibpkaanaphcaaSK
namespace Go.Proofs.Ytjibpkaanaphcaa
open Go.RowKit

theorem next_all {k s : Nat} (hk : k ≤ 63) (h : s + 1 < 2 ^ k) : Bt.nextV s (2 ^ k - 1) = s + 1 := by
  have hp : 2 ^ k ≤ 2 ^ 63 := Nat.pow_le_pow_right (by omega) hk
  have h63 : (2 : Nat) ^ 63 = 9223372036854775808 := by decide
  have h64 : 2 ^ k * 2 ^ (64 - k) = 18446744073709551616 := by
    rw [← Nat.pow_add, show k + (64 - k) = 64 by omega]
  have hq : 0 < 2 ^ (64 - k) := Nat.pow_pos (by omega)
  have hp0 : 0 < 2 ^ k := Nat.pow_pos (by omega)
  have e1 : 18446744073709551615 - (2 ^ k - 1) = 2 ^ k * (2 ^ (64 - k) - 1) := by
    rw [Nat.mul_sub, h64, Nat.mul_one]
    omega
  have e2 : s ||| (18446744073709551615 - (2 ^ k - 1)) = s + (18446744073709551616 - 2 ^ k) := by
    rw [e1, Nat.or_comm, ← Nat.two_pow_add_eq_or_of_lt (by omega : s < 2 ^ k), Nat.mul_sub, h64, Nat.mul_one]
    omega
  unfold Bt.nextV
  rw [e2, Nat.mod_eq_of_lt (by omega), Nat.and_two_pow_sub_one_eq_mod]
  have e3 : s + (18446744073709551616 - 2 ^ k) + 1 = (s + 1) + 2 ^ k * (2 ^ (64 - k) - 1) := by
    rw [Nat.mul_sub, h64, Nat.mul_one]
    omega
  rw [e3, Nat.add_mul_mod_self_left, Nat.mod_eq_of_lt h]
theorem sub_all_lt {k s : Nat} (hk : k ≤ 63) (h : s < 2 ^ k) : Bt.subV s (2 ^ k - 1) = true := by
  have hp : 2 ^ k ≤ 2 ^ 63 := Nat.pow_le_pow_right (by omega) hk
  have h63 : (2 : Nat) ^ 63 = 9223372036854775808 := by decide
  rw [Bt.sub_iff (by omega) (by omega)]
  intro i hi
  rw [Nat.testBit_two_pow_sub_one, decide_eq_true_eq]
  apply Classical.byContradiction
  intro hn
  have := Nat.testBit_lt_two_pow (x := s) (i := i) (Nat.lt_of_lt_of_le h (Nat.pow_le_pow_right (by omega) (by omega)))
  rw [this] at hi
  cases hi
/-- the closed sets below a number, beginning with 1 -/
def clL (n : NetV) (b : Bool) (m : Nat) : List Nat := ((List.range m).map (· + 1)).filter (closedB n b)
theorem clL_step (n : NetV) (b : Bool) (m : Nat) : clL n b (m + 1) = if closedB n b (m + 1) = true then clL n b m ++ [m + 1] else clL n b m := by
  unfold clL
  rw [List.range_succ, List.map_append, List.filter_append]
  by_cases h : closedB n b (m + 1) = true
  · rw [if_pos h]; simp [h]
  · rw [if_neg h]; simp [h]
theorem clL_len (n : NetV) (b : Bool) (m : Nat) : (clL n b m).length ≤ m := by
  unfold clL
  exact Nat.le_trans (List.length_filter_le _ _) (by simp)
end Go.Proofs.Ytjibpkaanaphcaa
