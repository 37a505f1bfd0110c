/- Contracts of the checked 64-bit operations: each function's answer in plain arithmetic. -/
import Derived.Test.YtcihdecfganohaaRows
import Derived.Test.YtcihdecfganohaaMath
import Derived.WalkKit
import Derived.WalkLawsBesides
import Derived.Lib.Hide
import Derived.Test.YtcihdecfganohaaShelf
namespace Go.Proofs.Ytcihdecfganohaa
open Go.RowKit

theorem ret_ib {a b : Int} {c d : Bool} (h : a = b) (k : c = d) : Ending.returned (.tuple #[.int .i64 a, .bool c]) = .returned (.tuple #[.int .i64 b, .bool d]) := by rw [h, k]
theorem ret_u {a b : Int} (h : a = b) : Ending.returned (.int .u64 a) = .returned (.int .u64 b) := by rw [h]
theorem ret_i {a b : Int} (h : a = b) : Ending.returned (.int .i64 a) = .returned (.int .i64 b) := by rw [h]

theorem magnitude_any (a : Int) (h1 : -9223372036854775808 ≤ a) (h2 : a ≤ 9223372036854775807) (w : World) :
    Calls Try.prog 58 #[.int .i64 a] w fun e w' => e = .returned (.int .u64 (a.natAbs : Int)) ∧ w = w' := by
  by_cases h : a < 0
  · go_enter Try.func58, Try.ntmps58
    go_wp2
    go_ret
    exact ⟨ret_u (by rw [IntKind.wrap_u64, IntKind.wrap_u64]; omega), rfl⟩
  · go_enter Try.func58, Try.ntmps58
    go_wp2
    go_ret
    exact ⟨ret_u (by omega), rfl⟩

theorem abs_any (a : Int) (h1 : -9223372036854775808 ≤ a) (h2 : a ≤ 9223372036854775807) (w : World) :
    Calls Try.prog 59 #[.int .i64 a] w fun e w' => e = .returned (.int .u64 (a.natAbs : Int)) ∧ w = w' := by
  by_cases h : a < 0
  · go_enter Try.func59, Try.ntmps59
    go_wp2
    go_ret
    exact ⟨ret_u (by omega), rfl⟩
  · go_enter Try.func59, Try.ntmps59
    go_wp2
    go_ret
    exact ⟨ret_u (by omega), rfl⟩

theorem add_no {a b : Int} (h1 : -9223372036854775808 ≤ a) (h2 : a ≤ 9223372036854775807) (h3 : -9223372036854775808 ≤ b) (h4 : b ≤ 9223372036854775807)
    (h : (!decide (wrap64 (a + b) < a) == decide (b < 0)) = true) : a + b < -9223372036854775808 ∨ 9223372036854775807 < a + b := by
  by_cases c1 : wrap64 (a + b) < a <;> by_cases c2 : b < 0 <;> simp [c1, c2] at h <;> unfold wrap64 at c1 <;> omega
theorem add_yes {a b : Int} (h1 : -9223372036854775808 ≤ a) (h2 : a ≤ 9223372036854775807) (h3 : -9223372036854775808 ≤ b) (h4 : b ≤ 9223372036854775807)
    (h : (!decide (wrap64 (a + b) < a) == decide (b < 0)) = false) : -9223372036854775808 ≤ a + b ∧ a + b ≤ 9223372036854775807 ∧ wrap64 (a + b) = a + b := by
  by_cases c1 : wrap64 (a + b) < a <;> by_cases c2 : b < 0 <;> simp [c1, c2] at h <;> unfold wrap64 at c1 ⊢ <;> omega

theorem add_any (a b : Int) (h1 : -9223372036854775808 ≤ a) (h2 : a ≤ 9223372036854775807) (h3 : -9223372036854775808 ≤ b) (h4 : b ≤ 9223372036854775807) (w : World) :
    Calls Try.prog 35 #[.int .i64 a, .int .i64 b] w fun e w' => e = .returned (.tuple #[.int .i64 (fitV (a + b)), .bool (fits (a + b))]) ∧ w = w' := by
  go_enter Try.func35, Try.ntmps35
  go_wp2
  · have k := add_no h1 h2 h3 h4 ‹_›
    go_ret2
    exact ⟨ret_ib (fitV_no k).symm (fits_no k).symm, rfl⟩
  · obtain ⟨k1, k2, k3⟩ := add_yes h1 h2 h3 h4 ‹_›
    go_ret2
    exact ⟨ret_ib (k3.trans (fitV_yes k1 k2).symm) (fits_yes k1 k2).symm, rfl⟩

theorem sub_no {a b : Int} (h1 : -9223372036854775808 ≤ a) (h2 : a ≤ 9223372036854775807) (h3 : -9223372036854775808 ≤ b) (h4 : b ≤ 9223372036854775807)
    (h : (!decide (a < wrap64 (a - b)) == decide (b < 0)) = true) : a - b < -9223372036854775808 ∨ 9223372036854775807 < a - b := by
  by_cases c1 : a < wrap64 (a - b) <;> by_cases c2 : b < 0 <;> simp [c1, c2] at h <;> unfold wrap64 at c1 <;> omega
theorem sub_yes {a b : Int} (h1 : -9223372036854775808 ≤ a) (h2 : a ≤ 9223372036854775807) (h3 : -9223372036854775808 ≤ b) (h4 : b ≤ 9223372036854775807)
    (h : (!decide (a < wrap64 (a - b)) == decide (b < 0)) = false) : -9223372036854775808 ≤ a - b ∧ a - b ≤ 9223372036854775807 ∧ wrap64 (a - b) = a - b := by
  by_cases c1 : a < wrap64 (a - b) <;> by_cases c2 : b < 0 <;> simp [c1, c2] at h <;> unfold wrap64 at c1 ⊢ <;> omega

theorem sub_any (a b : Int) (h1 : -9223372036854775808 ≤ a) (h2 : a ≤ 9223372036854775807) (h3 : -9223372036854775808 ≤ b) (h4 : b ≤ 9223372036854775807) (w : World) :
    Calls Try.prog 36 #[.int .i64 a, .int .i64 b] w fun e w' => e = .returned (.tuple #[.int .i64 (fitV (a - b)), .bool (fits (a - b))]) ∧ w = w' := by
  go_enter Try.func36, Try.ntmps36
  go_wp2
  · have k := sub_no h1 h2 h3 h4 ‹_›
    go_ret2
    exact ⟨ret_ib (fitV_no k).symm (fits_no k).symm, rfl⟩
  · obtain ⟨k1, k2, k3⟩ := sub_yes h1 h2 h3 h4 ‹_›
    go_ret2
    exact ⟨ret_ib (k3.trans (fitV_yes k1 k2).symm) (fits_yes k1 k2).symm, rfl⟩

theorem natural_any (x : Nat) (h : x < 18446744073709551616) (w : World) :
    Calls Try.prog 56 #[.int .u64 x] w fun e w' => e = .returned (.tuple #[.int .i64 (fitV x), .bool (fits x)]) ∧ w = w' := by
  go_enter Try.func56, Try.ntmps56
  go_wp2
  · have k : (9223372036854775807 : Int) < x := by assumption
    go_ret2
    exact ⟨ret_ib (fitV_no (.inr k)).symm (fits_no (.inr k)).symm, rfl⟩
  · have k : (x : Int) ≤ 9223372036854775807 := by assumption
    go_ret2
    exact ⟨ret_ib (fitV_yes (by omega) k).symm (fits_yes (by omega) k).symm, rfl⟩

theorem euclid_any (x y : Nat) (hx : x < 18446744073709551616) (hy : y < 18446744073709551616) (w : World) :
    Calls Try.prog 57 #[.int .u64 x, .int .u64 y] w fun e w' => e = .returned (.int .u64 (Nat.gcd x y : Nat)) ∧ ∃ n, w' = w.drewN n := by
  go_enter Try.func57, Try.ntmps57
  go_wp2
  go_step3
  go_wp2
  go_step3
  go_wp2
  go_loopw [0, 1] (fun p q wr => ∃ u v n : Nat, p = .int .u64 u ∧ q = .int .u64 v ∧ u ≤ 18446744073709551615 ∧ v ≤ 18446744073709551615 ∧ Nat.gcd u v = Nat.gcd x y ∧ wr = w.drewN n) (fun _ q _ => (intOf q).toNat)
  case atStart => exact ⟨x, y, 0, rfl, rfl, by omega, by omega, rfl, rfl⟩
  case round =>
    obtain ⟨u, v, n, rfl, rfl, hu, hv, hg, rfl⟩ := hrel
    have HG := Lib.hid hg
    clear hg
    by_cases hlt : 0 < v
    · have hm : u % v < v := Nat.mod_lt _ hlt
      have hz : ((v : Int) == 0) = false := by simp; omega
      go_wp2
      go_region
      all_goals go_wp2
      all_goals
        go_roundw
        case rel => exact ⟨v, u % v, n + 1, rfl, by go_num, hv, by omega, by rw [← HG.out, Nat.gcd_comm u v, Nat.gcd_rec v u, Nat.gcd_comm], rfl⟩
        case measure => simp [intOf]; omega
    · have hz : ((v : Int) == 0) = true := by simp; omega
      go_wp2
      rw [Exit.noGoto_ret]
      go_ret
      obtain rfl : v = 0 := by omega
      exact ⟨ret_u (by rw [← HG.out, Nat.gcd_zero_right]), n, rfl⟩

theorem hi_split (a b : Int) : ((uns a * uns b / 18446744073709551616 : Nat) : Int) = (uns a : Int) * (uns b : Int) / 18446744073709551616 := by
  rw [Int.natCast_ediv, Int.natCast_mul]; rfl
theorem lo_split (a b : Int) : ((uns a * uns b % 18446744073709551616 : Nat) : Int) = (uns a : Int) * (uns b : Int) % 18446744073709551616 := by
  rw [Int.natCast_emod, Int.natCast_mul]; rfl

theorem product_any (a b : Int) (h1 : -9223372036854775808 ≤ a) (h2 : a ≤ 9223372036854775807) (h3 : -9223372036854775808 ≤ b) (h4 : b ≤ 9223372036854775807) (w : World) :
    Calls Try.prog 53 #[.int .i64 a, .int .i64 b] w fun e w' => e = .returned (.agg #[.int .u64 (hiOf (a * b)), .int .u64 (loOf (a * b))]) ∧ Below w.heap.size w w' := by
  have hA := uns_lt a h1 h2
  have hB := uns_lt b h3 h4
  go_enter Try.func53, Try.ntmps53
  go_wp2_with fail
  rw [wrap_uns a h1 h2, wrap_uns b h3 h4]
  refine (Try.bits_Mul64 _ _ hA hB _).mono ?_
  rintro e w' ⟨rfl, rfl⟩
  go_wp2
  all_goals
    have L : loOf (a * b) = (uns a : Int) * (uns b : Int) % 18446744073709551616 := by rw [← lo_mul a b h1 h3, lo_split]
    have H := hi_mul a b h1 h3 h2 h4
    unfold hiMul at H
    rw [hi_split] at H
    have ea := wrap_uns a h1 h2
    have eb := wrap_uns b h3 h4
    refine bodyPost_ret (v := .agg #[.int .u64 (hiOf (a * b)), .int .u64 (loOf (a * b))]) ?_ rfl ⟨rfl, (Below.refl _ _).alloc (Nat.le_refl _) _⟩
    simp [results, Try.results53, go_sem]
  all_goals
    refine ⟨?_, L.symm⟩
    rw [← H]
    simp only [IntKind.wrap_u64] at ea eb ⊢
    (repeat split) <;> omega
end Go.Proofs.Ytcihdecfganohaa
