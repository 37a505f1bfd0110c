/- Contracts of the checked 64-bit operations: each function's answer in plain arithmetic. -/
import Derived.Test.YtdmcpnpiepmnkaaDoorRows
import Derived.Test.YtdmcpnpiepmnkaaDoorMath
import Derived.WalkKit
import Derived.WalkLawsBesides
import Derived.Lib.Hide
import Derived.Test.YtdmcpnpiepmnkaaDoorShelf
namespace Go.Proofs.YtdmcpnpiepmnkaaDoor
open Go.RowKit

theorem ret_ib {a b : Int} {c d : Bool} (h : a = b) (k : c = d) : Ending.returned (.tuple #[.int .i64 a, .bool c]) = .returned (.tuple #[.int .i64 b, .bool d]) := by rw [h, k]
theorem ret_u {a b : Int} (h : a = b) : Ending.returned (.int .u64 a) = .returned (.int .u64 b) := by rw [h]
theorem ret_i {a b : Int} (h : a = b) : Ending.returned (.int .i64 a) = .returned (.int .i64 b) := by rw [h]

theorem magnitude_any (a : Int) (h1 : -9223372036854775808 ≤ a) (h2 : a ≤ 9223372036854775807) (w : World) :
    Calls Tryd.prog 22 #[.int .i64 a] w fun e w' => e = .returned (.int .u64 (a.natAbs : Int)) ∧ w = w' := by
  by_cases h : a < 0
  · go_enter Tryd.func22, Tryd.ntmps22
    go_wp2
    go_ret
    exact ⟨ret_u (by rw [IntKind.wrap_u64, IntKind.wrap_u64]; omega), rfl⟩
  · go_enter Tryd.func22, Tryd.ntmps22
    go_wp2
    go_ret
    exact ⟨ret_u (by omega), rfl⟩

theorem add_no {a b : Int} (h1 : -9223372036854775808 ≤ a) (h2 : a ≤ 9223372036854775807) (h3 : -9223372036854775808 ≤ b) (h4 : b ≤ 9223372036854775807)
    (h : (!decide (wrap64 (a + b) < a) == decide (b < 0)) = true) : a + b < -9223372036854775808 ∨ 9223372036854775807 < a + b := by
  by_cases c1 : wrap64 (a + b) < a <;> by_cases c2 : b < 0 <;> simp [c1, c2] at h <;> unfold wrap64 at c1 <;> omega
theorem add_yes {a b : Int} (h1 : -9223372036854775808 ≤ a) (h2 : a ≤ 9223372036854775807) (h3 : -9223372036854775808 ≤ b) (h4 : b ≤ 9223372036854775807)
    (h : (!decide (wrap64 (a + b) < a) == decide (b < 0)) = false) : -9223372036854775808 ≤ a + b ∧ a + b ≤ 9223372036854775807 ∧ wrap64 (a + b) = a + b := by
  by_cases c1 : wrap64 (a + b) < a <;> by_cases c2 : b < 0 <;> simp [c1, c2] at h <;> unfold wrap64 at c1 ⊢ <;> omega

theorem sub_no {a b : Int} (h1 : -9223372036854775808 ≤ a) (h2 : a ≤ 9223372036854775807) (h3 : -9223372036854775808 ≤ b) (h4 : b ≤ 9223372036854775807)
    (h : (!decide (a < wrap64 (a - b)) == decide (b < 0)) = true) : a - b < -9223372036854775808 ∨ 9223372036854775807 < a - b := by
  by_cases c1 : a < wrap64 (a - b) <;> by_cases c2 : b < 0 <;> simp [c1, c2] at h <;> unfold wrap64 at c1 <;> omega
theorem sub_yes {a b : Int} (h1 : -9223372036854775808 ≤ a) (h2 : a ≤ 9223372036854775807) (h3 : -9223372036854775808 ≤ b) (h4 : b ≤ 9223372036854775807)
    (h : (!decide (a < wrap64 (a - b)) == decide (b < 0)) = false) : -9223372036854775808 ≤ a - b ∧ a - b ≤ 9223372036854775807 ∧ wrap64 (a - b) = a - b := by
  by_cases c1 : a < wrap64 (a - b) <;> by_cases c2 : b < 0 <;> simp [c1, c2] at h <;> unfold wrap64 at c1 ⊢ <;> omega

theorem div_any (a b : Int) (h1 : -9223372036854775808 ≤ a) (h2 : a ≤ 9223372036854775807) (h3 : -9223372036854775808 ≤ b) (h4 : b ≤ 9223372036854775807) (w : World) :
    Calls Tryd.prog 11 #[.int .i64 a, .int .i64 b] w fun e w' => e = .returned (.tuple #[.int .i64 (divV a b), .bool (posB b)]) ∧ w = w' := by
  go_enter Tryd.func11, Tryd.ntmps11
  go_wp2
  · obtain ⟨k1, k2⟩ := div_no ‹b < 1› a
    go_ret2
    exact ⟨ret_ib k1 k2, rfl⟩
  · obtain ⟨k1, k2⟩ := div_yes (by assumption) a
    obtain ⟨e1, _⟩ := tdiv_neg a b (by assumption) (by assumption)
    obtain ⟨d1, d2⟩ := ediv_bounds a b h1 h2 (by assumption)
    go_ret2
    refine ⟨ret_ib ?_ k2.symm, rfl⟩
    rw [k1, e1, IntWalk.wrap64_in _ (by omega)]; omega
  · obtain ⟨k1, k2⟩ := div_yes (by assumption) a
    obtain ⟨e1, _⟩ := tdiv_pos a b (by assumption) (by assumption)
    go_ret2
    exact ⟨ret_ib (by rw [k1, e1]) k2.symm, rfl⟩

theorem natural_any (x : Nat) (h : x < 18446744073709551616) (w : World) :
    Calls Tryd.prog 20 #[.int .u64 x] w fun e w' => e = .returned (.tuple #[.int .i64 (fitV x), .bool (fits x)]) ∧ w = w' := by
  go_enter Tryd.func20, Tryd.ntmps20
  go_wp2
  · have k : (9223372036854775807 : Int) < x := by assumption
    go_ret2
    exact ⟨ret_ib (fitV_no (.inr k)).symm (fits_no (.inr k)).symm, rfl⟩
  · have k : (x : Int) ≤ 9223372036854775807 := by assumption
    go_ret2
    exact ⟨ret_ib (fitV_yes (by omega) k).symm (fits_yes (by omega) k).symm, rfl⟩

theorem euclid_any (x y : Nat) (hx : x < 18446744073709551616) (hy : y < 18446744073709551616) (w : World) :
    Calls Tryd.prog 21 #[.int .u64 x, .int .u64 y] w fun e w' => e = .returned (.int .u64 (Nat.gcd x y : Nat)) ∧ ∃ n, w' = w.drewN n := by
  go_enter Tryd.func21, Tryd.ntmps21
  go_wp2
  go_step3
  go_wp2
  go_step3
  go_wp2
  go_loopw [0, 1] (fun p q wr => ∃ u v n : Nat, p = .int .u64 u ∧ q = .int .u64 v ∧ u ≤ 18446744073709551615 ∧ v ≤ 18446744073709551615 ∧ Nat.gcd u v = Nat.gcd x y ∧ wr = w.drewN n) (fun _ q _ => (intOf q).toNat)
  case atStart => exact ⟨x, y, 0, rfl, rfl, by omega, by omega, rfl, rfl⟩
  case round =>
    obtain ⟨u, v, n, rfl, rfl, hu, hv, hg, rfl⟩ := hrel
    have HG := Lib.hid hg
    clear hg
    by_cases hlt : 0 < v
    · have hm : u % v < v := Nat.mod_lt _ hlt
      have hz : ((v : Int) == 0) = false := by simp; omega
      go_wp2
      go_region
      all_goals go_wp2
      all_goals
        go_roundw
        case rel => exact ⟨v, u % v, n + 1, rfl, by go_num, hv, by omega, by rw [← HG.out, Nat.gcd_comm u v, Nat.gcd_rec v u, Nat.gcd_comm], rfl⟩
        case measure => simp [intOf]; omega
    · have hz : ((v : Int) == 0) = true := by simp; omega
      go_wp2
      rw [Exit.noGoto_ret]
      go_ret
      obtain rfl : v = 0 := by omega
      exact ⟨ret_u (by rw [← HG.out, Nat.gcd_zero_right]), n, rfl⟩

theorem hi_split (a b : Int) : ((uns a * uns b / 18446744073709551616 : Nat) : Int) = (uns a : Int) * (uns b : Int) / 18446744073709551616 := by
  rw [Int.natCast_ediv, Int.natCast_mul]; rfl
theorem lo_split (a b : Int) : ((uns a * uns b % 18446744073709551616 : Nat) : Int) = (uns a : Int) * (uns b : Int) % 18446744073709551616 := by
  rw [Int.natCast_emod, Int.natCast_mul]; rfl

theorem gcd_lt {x y : Nat} (hx : x < 18446744073709551616) (hy : y < 18446744073709551616) : Nat.gcd x y < 18446744073709551616 := by
  rcases Nat.eq_zero_or_pos x with h | h
  · subst h; rw [Nat.gcd_zero_left]; exact hy
  · exact Nat.lt_of_le_of_lt (Nat.gcd_le_left y h) hx

theorem gcd_any (a b : Int) (h1 : -9223372036854775808 ≤ a) (h2 : a ≤ 9223372036854775807) (h3 : -9223372036854775808 ≤ b) (h4 : b ≤ 9223372036854775807) (w : World) :
    Calls Tryd.prog 17 #[.int .i64 a, .int .i64 b] w fun e w' => e = .returned (.tuple #[.int .i64 (fitV (Nat.gcd a.natAbs b.natAbs : Nat)), .bool (fits (Nat.gcd a.natAbs b.natAbs : Nat))]) ∧ ∃ n, w' = w.drewN n := by
  have ha : a.natAbs < 18446744073709551616 := by omega
  have hb : b.natAbs < 18446744073709551616 := by omega
  go_enter Tryd.func17, Tryd.ntmps17
  go_wp2_with fail
  refine (magnitude_any a h1 h2 _).mono ?_
  rintro e w' ⟨rfl, rfl⟩
  go_wp2_with fail
  refine (magnitude_any b h3 h4 _).mono ?_
  rintro e w' ⟨rfl, rfl⟩
  go_wp2_with fail
  refine (euclid_any _ _ ha hb _).mono ?_
  rintro e w' ⟨rfl, n, rfl⟩
  go_wp2_with fail
  refine (natural_any _ (gcd_lt ha hb) _).mono ?_
  rintro e w' ⟨rfl, rfl⟩
  go_wp2
  go_ret2
  exact ⟨rfl, n, rfl⟩

theorem plus_one {a b : Int} (h1 : -9223372036854775808 ≤ a) (h2 : a ≤ 9223372036854775807) (h3 : -9223372036854775808 ≤ b) (h4 : b ≤ 9223372036854775807) (_h : (decide (a < 0) == decide (b < 0)) = true) (k : IntKind.u64.wrap (↑a.natAbs + ↑b.natAbs) < ↑a.natAbs) :
    decide (a < 0) = negOf (a + b) ∧ 1 = (magHi (a + b) : Int) ∧ IntKind.u64.wrap (↑a.natAbs + ↑b.natAbs) = (magLo (a + b) : Int) := by
  rw [beq_iff_eq, decide_eq_decide] at _h
  rw [IntKind.wrap_u64] at k ⊢
  unfold negOf magHi magLo
  rw [decide_eq_decide]
  omega
theorem plus_two {a b : Int} (h1 : -9223372036854775808 ≤ a) (h2 : a ≤ 9223372036854775807) (h3 : -9223372036854775808 ≤ b) (h4 : b ≤ 9223372036854775807) (h : (decide (a < 0) == decide (b < 0)) = true) (k : ↑a.natAbs ≤ IntKind.u64.wrap (↑a.natAbs + ↑b.natAbs)) :
    decide (a < 0) = negOf (a + b) ∧ 0 = (magHi (a + b) : Int) ∧ IntKind.u64.wrap (↑a.natAbs + ↑b.natAbs) = (magLo (a + b) : Int) := by
  rw [beq_iff_eq, decide_eq_decide] at h
  rw [IntKind.wrap_u64] at k ⊢
  unfold negOf magHi magLo
  rw [decide_eq_decide]
  omega
theorem plus_three {a b : Int} (h1 : -9223372036854775808 ≤ a) (h2 : a ≤ 9223372036854775807) (h3 : -9223372036854775808 ≤ b) (h4 : b ≤ 9223372036854775807) (h : (decide (a < 0) == decide (b < 0)) = false) (k : a.natAbs < b.natAbs) :
    decide (b < 0) = negOf (a + b) ∧ 0 = (magHi (a + b) : Int) ∧ (b.natAbs : Int) - ↑a.natAbs = (magLo (a + b) : Int) := by
  rw [beq_eq_false_iff_ne, ne_eq, decide_eq_decide] at h
  unfold negOf magHi magLo
  rw [decide_eq_decide]
  omega
theorem plus_four {a b : Int} (h1 : -9223372036854775808 ≤ a) (h2 : a ≤ 9223372036854775807) (h3 : -9223372036854775808 ≤ b) (h4 : b ≤ 9223372036854775807) (h : (decide (a < 0) == decide (b < 0)) = false) (k : ¬ a.natAbs < b.natAbs) :
    decide (a < 0 ∧ b.natAbs < a.natAbs) = negOf (a + b) ∧ 0 = (magHi (a + b) : Int) ∧ (a.natAbs : Int) - ↑b.natAbs = (magLo (a + b) : Int) := by
  rw [beq_eq_false_iff_ne, ne_eq, decide_eq_decide] at h
  unfold negOf magHi magLo
  rw [decide_eq_decide]
  omega
theorem half_prod (x y : Int) (hx0 : 0 ≤ x) (hx : x ≤ 4294967295) (hy0 : 0 ≤ y) (hy : y ≤ 4294967295) : 0 ≤ x * y ∧ x * y ≤ 18446744065119617025 := by
  have h : x * y ≤ 4294967295 * 4294967295 := Int.mul_le_mul hx hy hy0 (by omega)
  exact ⟨Int.mul_nonneg hx0 hy0, by omega⟩

theorem times_halves (p00 p10 p01 p11 t : Int) (_q1 : 0 ≤ p00) (_q2 : p00 ≤ 18446744065119617025) (_q3 : 0 ≤ p10) (_q4 : p10 ≤ 18446744065119617025) (_q5 : 0 ≤ p01) (_q6 : p01 ≤ 18446744065119617025)
    (_q7 : 0 ≤ p11) (_q8 : p11 ≤ 18446744065119617025) (h : t = p11 * 18446744073709551616 + (p10 + p01) * 4294967296 + p00) :
    p11 + (p10 + p00 / 4294967296) / 4294967296 + (p01 + (p10 + p00 / 4294967296) % 4294967296) / 4294967296 = t / 18446744073709551616 ∧
      (p01 + (p10 + p00 / 4294967296)) % 4294967296 * 4294967296 + p00 % 4294967296 = t % 18446744073709551616 := by
  subst h; omega
theorem split_prod (x y : Int) : x * y = x / 4294967296 * (y / 4294967296) * 18446744073709551616 + (x / 4294967296 * (y % 4294967296) + x % 4294967296 * (y / 4294967296)) * 4294967296 + x % 4294967296 * (y % 4294967296) := by
  have ex : x = x / 4294967296 * 4294967296 + x % 4294967296 := by omega
  have ey : y = y / 4294967296 * 4294967296 + y % 4294967296 := by omega
  have e : x * y = (x / 4294967296 * 4294967296 + x % 4294967296) * (y / 4294967296 * 4294967296 + y % 4294967296) := by rw [← ex, ← ey]
  rw [e, Int.add_mul, Int.mul_add, Int.mul_add]
  generalize x / 4294967296 = x1
  generalize x % 4294967296 = x0
  generalize y / 4294967296 = y1
  generalize y % 4294967296 = y0
  have e1 : x1 * 4294967296 * (y1 * 4294967296) = x1 * y1 * 18446744073709551616 := by rw [Int.mul_assoc, Int.mul_left_comm 4294967296, ← Int.mul_assoc, ← Int.mul_assoc]; omega
  have e2 : x1 * 4294967296 * y0 = x1 * y0 * 4294967296 := by rw [Int.mul_right_comm]
  have e3 : x0 * (y1 * 4294967296) = x0 * y1 * 4294967296 := by rw [Int.mul_assoc]
  omega
theorem neg_prod (a b : Int) (h : ¬ (a < 0 ↔ b < 0)) : negOf (a * b) = decide (0 < (a * b).natAbs) := by
  unfold negOf
  rw [decide_eq_decide]
  constructor
  · intro; omega
  · intro k
    have n : a * b ≠ 0 := by omega
    by_cases sa : a < 0
    · have sb : 0 ≤ b := by
        by_cases sb : b < 0
        · exact absurd ⟨fun _ => sb, fun _ => sa⟩ h
        · omega
      have := Int.mul_nonpos_of_nonpos_of_nonneg (show a ≤ 0 by omega) sb
      omega
    · have sb : b < 0 := by
        by_cases sb : b < 0
        · exact sb
        · exact absurd ⟨fun h => absurd h sa, fun h => absurd h sb⟩ h
      have := Int.mul_nonpos_of_nonneg_of_nonpos (show 0 ≤ a by omega) (show b ≤ 0 by omega)
      omega
theorem pos_prod (a b : Int) (h : a < 0 ↔ b < 0) : negOf (a * b) = false := by
  unfold negOf
  rw [decide_eq_false_iff_not]
  intro k
  by_cases sa : a < 0
  · have sb := h.1 sa
    have := Int.mul_nonneg_of_nonpos_of_nonpos (show a ≤ 0 by omega) (show b ≤ 0 by omega)
    omega
  · have sb : ¬ b < 0 := fun c => sa (h.2 c)
    have := Int.mul_nonneg (show 0 ≤ a by omega) (show 0 ≤ b by omega)
    omega

theorem ret_pair {a b : Int} {c d : Bool} (h : a = b ∧ c = d) : Ending.returned (.tuple #[.int .i64 a, .bool c]) = .returned (.tuple #[.int .i64 b, .bool d]) := by rw [h.1, h.2]

/-- the common multiple, from the quotient by the divisor -/
theorem lcm_eq (x y : Nat) : x / Nat.gcd x y * y = Nat.lcm x y := by
  unfold Nat.lcm
  rw [Nat.mul_comm x y, Nat.mul_div_assoc _ (Nat.gcd_dvd_left x y), Nat.mul_comm]

theorem quot_in (x y : Nat) (hx : x < 18446744073709551616) : IntKind.u64.wrap ((x : Int) / (Nat.gcd x y : Nat)) = ((x / Nat.gcd x y : Nat) : Int) := by
  have h := Nat.div_le_self x (Nat.gcd x y)
  rw [← Int.natCast_ediv]
  generalize x / Nat.gcd x y = q at h ⊢
  exact IntWalk.u64_in _ (by omega)
theorem lcm_lt {x y : Nat} (hx : x < 18446744073709551616) (hy : y < 18446744073709551616) : Nat.lcm x y < 340282366920938463463374607431768211456 := by
  rw [← lcm_eq]
  have h := Nat.div_le_self x (Nat.gcd x y)
  have : x / Nat.gcd x y * y ≤ 18446744073709551615 * 18446744073709551615 := Nat.mul_le_mul (by omega) (by omega)
  omega

theorem over_no {y z : Nat} (hy : 1 ≤ y) (h : (9223372036854775807 : Int) / (y : Int) < (z : Int)) : (9223372036854775807 : Int) < ((z * y : Nat) : Int) := by
  have h1 : ((9223372036854775807 / y : Nat) : Int) < (z : Int) := by rw [Int.natCast_ediv]; exact h
  have h2 : 9223372036854775807 / y < z := Int.ofNat_lt.1 h1
  have h3 := (Nat.div_lt_iff_lt_mul (by omega)).1 h2
  exact Int.ofNat_lt.2 h3
theorem over_yes {y z : Nat} (hy : 1 ≤ y) (h : (z : Int) ≤ (9223372036854775807 : Int) / (y : Int)) : ((z * y : Nat) : Int) ≤ (9223372036854775807 : Int) := by
  have h1 : (z : Int) ≤ ((9223372036854775807 / y : Nat) : Int) := by rw [Int.natCast_ediv]; exact h
  have h2 : z ≤ 9223372036854775807 / y := Int.ofNat_le.1 h1
  have h3 := (Nat.le_div_iff_mul_le (by omega)).1 h2
  exact Int.ofNat_le.2 h3

theorem cross_hi {p q : Int} (p1 : -85070591730234615865843651857942052864 ≤ p) (p2 : p ≤ 85070591730234615865843651857942052864)
    (q1 : -85070591730234615865843651857942052864 ≤ q) (q2 : q ≤ 85070591730234615865843651857942052864) (h : (hiOf p != hiOf q) = true) :
    crossV (wrap64 (hiOf p)) (wrap64 (hiOf q)) = crossV p q := by
  have k := WalkArith.int_ne' h
  have e1 : wrap64 (hiOf p) = p / 18446744073709551616 := by unfold wrap64 hiOf; omega
  have e2 : wrap64 (hiOf q) = q / 18446744073709551616 := by unfold wrap64 hiOf; omega
  rw [e1, e2]
  have n : p / 18446744073709551616 ≠ q / 18446744073709551616 := by
    intro e; apply k; unfold hiOf; rw [e]
  unfold crossV
  (repeat split) <;> omega
theorem cross_lo {p q : Int} (h : (hiOf p != hiOf q) = false) (p1 : -85070591730234615865843651857942052864 ≤ p) (p2 : p ≤ 85070591730234615865843651857942052864)
    (q1 : -85070591730234615865843651857942052864 ≤ q) (q2 : q ≤ 85070591730234615865843651857942052864) :
    crossV (loOf p) (loOf q) = crossV p q := by
  have k := WalkArith.int_eq' h
  have n : p / 18446744073709551616 = q / 18446744073709551616 := by unfold hiOf at k; omega
  unfold crossV loOf
  (repeat split) <;> omega

end Go.Proofs.YtdmcpnpiepmnkaaDoor
