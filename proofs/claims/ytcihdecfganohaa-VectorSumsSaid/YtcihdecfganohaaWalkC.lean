/- Contracts of the references' results and of the comparison of products. -/
import Derived.Test.YtcihdecfganohaaWalkB
namespace Go.Proofs.Ytcihdecfganohaa
open Go.RowKit

theorem ret_pair {a b : Int} {c d : Bool} (h : a = b ∧ c = d) : Ending.returned (.tuple #[.int .i64 a, .bool c]) = .returned (.tuple #[.int .i64 b, .bool d]) := by rw [h.1, h.2]

theorem narrow_of (n : Int) (h1 : -340282366920938463463374607431768211456 < n) (h2 : n < 340282366920938463463374607431768211456) (w : World) :
    Calls Try.prog 51 #[.agg #[.bool (negOf n), .int .u64 (magHi n), .int .u64 (magLo n)]] w fun e w' => e = .returned (.tuple #[.int .i64 (fitV n), .bool (fits n)]) ∧ Below w.heap.size w w' := by
  have h := narrow_any (negOf n) (magHi n) (magLo n) (by unfold magHi; omega) (by unfold magLo; omega) w
  rw [wide_of] at h
  exact h

theorem radd_any (a b : Int) (h1 : -9223372036854775808 ≤ a) (h2 : a ≤ 9223372036854775807) (h3 : -9223372036854775808 ≤ b) (h4 : b ≤ 9223372036854775807) (w : World) :
    Calls Try.prog 40 #[.int .i64 a, .int .i64 b] w fun e w' => e = .returned (.tuple #[.int .i64 (fitV (a + b)), .bool (fits (a + b))]) ∧ Below w.heap.size w w' := by
  go_enter Try.func40, Try.ntmps40
  go_wp2_with fail
  refine (rplus_any a b h1 h2 h3 h4 _).mono ?_
  rintro e w1 ⟨rfl, hb1⟩
  go_wp2_with fail
  refine (narrow_of (a + b) (by omega) (by omega) _).mono ?_
  rintro e w2 ⟨rfl, hb2⟩
  go_wp2
  go_ret2
  exact ⟨rfl, hb1.trans (hb2.mono hb1.size)⟩

theorem rsub_any (a b : Int) (h1 : -9223372036854775808 ≤ a) (h2 : a ≤ 9223372036854775807) (h3 : -9223372036854775808 ≤ b) (h4 : b ≤ 9223372036854775807) (w : World) :
    Calls Try.prog 37 #[.int .i64 a, .int .i64 b] w fun e w' => e = .returned (.tuple #[.int .i64 (fitV (a - b)), .bool (fits (a - b))]) ∧ Below w.heap.size w w' := by
  by_cases hb : b = -9223372036854775808
  · subst hb
    by_cases ha : a < 0
    · go_enter Try.func37, Try.ntmps37
      go_wp2
      go_ret2
      refine ⟨ret_ib ?_ (fits_yes (by omega) (by omega)).symm, Below.refl _ _⟩
      rw [fitV_yes (by omega) (by omega)]
      first | rfl | (unfold wrap64; omega)
    · go_enter Try.func37, Try.ntmps37
      go_wp2
      go_ret2
      exact ⟨ret_ib (fitV_no (by omega)).symm (fits_no (by omega)).symm, Below.refl _ _⟩
  · have hz : (b == -9223372036854775808) = false := by rw [beq_eq_false_iff_ne]; exact hb
    go_enter Try.func37, Try.ntmps37
    go_wp2_with fail
    refine (rplus_any a (-b) h1 h2 (by omega) (by omega) _).mono ?_
    rintro e w1 ⟨rfl, hb1⟩
    go_wp2_with fail
    refine (narrow_of (a + -b) (by omega) (by omega) _).mono ?_
    rintro e w2 ⟨rfl, hb2⟩
    go_wp2
    go_ret2
    exact ⟨ret_pair (by rw [Int.sub_eq_add_neg]; exact ⟨rfl, rfl⟩), hb1.trans (hb2.mono hb1.size)⟩

theorem rmul_any (a b : Int) (h1 : -9223372036854775808 ≤ a) (h2 : a ≤ 9223372036854775807) (h3 : -9223372036854775808 ≤ b) (h4 : b ≤ 9223372036854775807) (w : World) :
    Calls Try.prog 39 #[.int .i64 a, .int .i64 b] w fun e w' => e = .returned (.tuple #[.int .i64 (fitV (a * b)), .bool (fits (a * b))]) ∧ Below w.heap.size w w' := by
  obtain ⟨p1, p2⟩ := prod_abs a b (by omega) (by omega)
  go_enter Try.func39, Try.ntmps39
  go_wp2_with fail
  refine (times_any a b h1 h2 h3 h4 _).mono ?_
  rintro e w1 ⟨rfl, hb1⟩
  go_wp2_with fail
  refine (narrow_of (a * b) (by omega) (by omega) _).mono ?_
  rintro e w2 ⟨rfl, hb2⟩
  go_wp2
  go_ret2
  exact ⟨rfl, hb1.trans (hb2.mono hb1.size)⟩

/-- the common multiple, from the quotient by the divisor -/
theorem lcm_eq (x y : Nat) : x / Nat.gcd x y * y = Nat.lcm x y := by
  unfold Nat.lcm
  rw [Nat.mul_comm x y, Nat.mul_div_assoc _ (Nat.gcd_dvd_left x y), Nat.mul_comm]

theorem quot_in (x y : Nat) (hx : x < 18446744073709551616) : IntKind.u64.wrap ((x : Int) / (Nat.gcd x y : Nat)) = ((x / Nat.gcd x y : Nat) : Int) := by
  have h := Nat.div_le_self x (Nat.gcd x y)
  rw [← Int.natCast_ediv]
  generalize x / Nat.gcd x y = q at h ⊢
  exact IntWalk.u64_in _ (by omega)
theorem lcm_lt {x y : Nat} (hx : x < 18446744073709551616) (hy : y < 18446744073709551616) : Nat.lcm x y < 340282366920938463463374607431768211456 := by
  rw [← lcm_eq]
  have h := Nat.div_le_self x (Nat.gcd x y)
  have : x / Nat.gcd x y * y ≤ 18446744073709551615 * 18446744073709551615 := Nat.mul_le_mul (by omega) (by omega)
  omega

theorem over_no {y z : Nat} (hy : 1 ≤ y) (h : (9223372036854775807 : Int) / (y : Int) < (z : Int)) : (9223372036854775807 : Int) < ((z * y : Nat) : Int) := by
  have h1 : ((9223372036854775807 / y : Nat) : Int) < (z : Int) := by rw [Int.natCast_ediv]; exact h
  have h2 : 9223372036854775807 / y < z := Int.ofNat_lt.1 h1
  have h3 := (Nat.div_lt_iff_lt_mul (by omega)).1 h2
  exact Int.ofNat_lt.2 h3
theorem over_yes {y z : Nat} (hy : 1 ≤ y) (h : (z : Int) ≤ (9223372036854775807 : Int) / (y : Int)) : ((z * y : Nat) : Int) ≤ (9223372036854775807 : Int) := by
  have h1 : (z : Int) ≤ ((9223372036854775807 / y : Nat) : Int) := by rw [Int.natCast_ediv]; exact h
  have h2 : z ≤ 9223372036854775807 / y := Int.ofNat_le.1 h1
  have h3 := (Nat.le_div_iff_mul_le (by omega)).1 h2
  exact Int.ofNat_le.2 h3

theorem cmpi_any (x y : Int) (w : World) :
    Calls Try.prog 55 #[.int .i64 x, .int .i64 y] w fun e w' => e = .returned (.int .i64 (crossV x y)) ∧ w = w' := by
  go_enter Try.func55, Try.ntmps55
  go_wp2
  all_goals
    go_ret
    refine ⟨ret_i ?_, rfl⟩
    unfold crossV
    (repeat split) <;> omega
theorem cross_hi {p q : Int} (p1 : -85070591730234615865843651857942052864 ≤ p) (p2 : p ≤ 85070591730234615865843651857942052864)
    (q1 : -85070591730234615865843651857942052864 ≤ q) (q2 : q ≤ 85070591730234615865843651857942052864) (h : (hiOf p != hiOf q) = true) :
    crossV (wrap64 (hiOf p)) (wrap64 (hiOf q)) = crossV p q := by
  have k := WalkArith.int_ne' h
  have e1 : wrap64 (hiOf p) = p / 18446744073709551616 := by unfold wrap64 hiOf; omega
  have e2 : wrap64 (hiOf q) = q / 18446744073709551616 := by unfold wrap64 hiOf; omega
  rw [e1, e2]
  have n : p / 18446744073709551616 ≠ q / 18446744073709551616 := by
    intro e; apply k; unfold hiOf; rw [e]
  unfold crossV
  (repeat split) <;> omega
theorem cross_lo {p q : Int} (h : (hiOf p != hiOf q) = false) (p1 : -85070591730234615865843651857942052864 ≤ p) (p2 : p ≤ 85070591730234615865843651857942052864)
    (q1 : -85070591730234615865843651857942052864 ≤ q) (q2 : q ≤ 85070591730234615865843651857942052864) :
    crossV (loOf p) (loOf q) = crossV p q := by
  have k := WalkArith.int_eq' h
  have n : p / 18446744073709551616 = q / 18446744073709551616 := by unfold hiOf at k; omega
  unfold crossV loOf
  (repeat split) <;> omega
end Go.Proofs.Ytcihdecfganohaa
