/- Contracts of the composite operations: products, common divisors and multiples, comparison of products, and their references. -/
import Derived.Test.YtcihdecfganohaaWalkA
import Derived.Deep.QuietTactic
import Derived.BigQuiet
import Derived.Deep.RegionWith
namespace Go.Proofs.Ytcihdecfganohaa
open Go.RowKit

theorem mul_any (a b : Int) (h1 : -9223372036854775808 ≤ a) (h2 : a ≤ 9223372036854775807) (h3 : -9223372036854775808 ≤ b) (h4 : b ≤ 9223372036854775807) (w : World) :
    Calls Try.prog 38 #[.int .i64 a, .int .i64 b] w fun e w' => e = .returned (.tuple #[.int .i64 (fitV (a * b)), .bool (fits (a * b))]) ∧ Below w.heap.size w w' := by
  obtain ⟨p1, p2⟩ := prod_abs a b (by omega) (by omega)
  go_enter Try.func38, Try.ntmps38
  go_wp2_with fail
  refine (product_any a b h1 h2 h3 h4 _).mono ?_
  rintro e w' ⟨rfl, hb⟩
  go_wp2
  · have k := mul_no p1 p2 ‹_›
    go_ret2
    exact ⟨ret_ib (fitV_no k).symm (fits_no k).symm, hb.alloc hb.size _⟩
  · obtain ⟨k1, k2, k3⟩ := mul_yes p1 p2 ‹_›
    go_ret2
    exact ⟨ret_ib (k3.trans (fitV_yes k1 k2).symm) (fits_yes k1 k2).symm, hb.alloc hb.size _⟩

theorem gcd_lt {x y : Nat} (hx : x < 18446744073709551616) (hy : y < 18446744073709551616) : Nat.gcd x y < 18446744073709551616 := by
  rcases Nat.eq_zero_or_pos x with h | h
  · subst h; rw [Nat.gcd_zero_left]; exact hy
  · exact Nat.lt_of_le_of_lt (Nat.gcd_le_left y h) hx

theorem gcd_any (a b : Int) (h1 : -9223372036854775808 ≤ a) (h2 : a ≤ 9223372036854775807) (h3 : -9223372036854775808 ≤ b) (h4 : b ≤ 9223372036854775807) (w : World) :
    Calls Try.prog 46 #[.int .i64 a, .int .i64 b] w fun e w' => e = .returned (.tuple #[.int .i64 (fitV (Nat.gcd a.natAbs b.natAbs : Nat)), .bool (fits (Nat.gcd a.natAbs b.natAbs : Nat))]) ∧ ∃ n, w' = w.drewN n := by
  have ha : a.natAbs < 18446744073709551616 := by omega
  have hb : b.natAbs < 18446744073709551616 := by omega
  go_enter Try.func46, Try.ntmps46
  go_wp2_with fail
  refine (magnitude_any a h1 h2 _).mono ?_
  rintro e w' ⟨rfl, rfl⟩
  go_wp2_with fail
  refine (magnitude_any b h3 h4 _).mono ?_
  rintro e w' ⟨rfl, rfl⟩
  go_wp2_with fail
  refine (euclid_any _ _ ha hb _).mono ?_
  rintro e w' ⟨rfl, n, rfl⟩
  go_wp2_with fail
  refine (natural_any _ (gcd_lt ha hb) _).mono ?_
  rintro e w' ⟨rfl, rfl⟩
  go_wp2
  go_ret2
  exact ⟨rfl, n, rfl⟩

theorem plus_one {a b : Int} (h1 : -9223372036854775808 ≤ a) (h2 : a ≤ 9223372036854775807) (h3 : -9223372036854775808 ≤ b) (h4 : b ≤ 9223372036854775807) (_h : (decide (a < 0) == decide (b < 0)) = true) (k : IntKind.u64.wrap (↑a.natAbs + ↑b.natAbs) < ↑a.natAbs) :
    decide (a < 0) = negOf (a + b) ∧ 1 = (magHi (a + b) : Int) ∧ IntKind.u64.wrap (↑a.natAbs + ↑b.natAbs) = (magLo (a + b) : Int) := by
  rw [beq_iff_eq, decide_eq_decide] at _h
  rw [IntKind.wrap_u64] at k ⊢
  unfold negOf magHi magLo
  rw [decide_eq_decide]
  omega
theorem plus_two {a b : Int} (h1 : -9223372036854775808 ≤ a) (h2 : a ≤ 9223372036854775807) (h3 : -9223372036854775808 ≤ b) (h4 : b ≤ 9223372036854775807) (h : (decide (a < 0) == decide (b < 0)) = true) (k : ↑a.natAbs ≤ IntKind.u64.wrap (↑a.natAbs + ↑b.natAbs)) :
    decide (a < 0) = negOf (a + b) ∧ 0 = (magHi (a + b) : Int) ∧ IntKind.u64.wrap (↑a.natAbs + ↑b.natAbs) = (magLo (a + b) : Int) := by
  rw [beq_iff_eq, decide_eq_decide] at h
  rw [IntKind.wrap_u64] at k ⊢
  unfold negOf magHi magLo
  rw [decide_eq_decide]
  omega
theorem plus_three {a b : Int} (h1 : -9223372036854775808 ≤ a) (h2 : a ≤ 9223372036854775807) (h3 : -9223372036854775808 ≤ b) (h4 : b ≤ 9223372036854775807) (h : (decide (a < 0) == decide (b < 0)) = false) (k : a.natAbs < b.natAbs) :
    decide (b < 0) = negOf (a + b) ∧ 0 = (magHi (a + b) : Int) ∧ (b.natAbs : Int) - ↑a.natAbs = (magLo (a + b) : Int) := by
  rw [beq_eq_false_iff_ne, ne_eq, decide_eq_decide] at h
  unfold negOf magHi magLo
  rw [decide_eq_decide]
  omega
theorem plus_four {a b : Int} (h1 : -9223372036854775808 ≤ a) (h2 : a ≤ 9223372036854775807) (h3 : -9223372036854775808 ≤ b) (h4 : b ≤ 9223372036854775807) (h : (decide (a < 0) == decide (b < 0)) = false) (k : ¬ a.natAbs < b.natAbs) :
    decide (a < 0 ∧ b.natAbs < a.natAbs) = negOf (a + b) ∧ 0 = (magHi (a + b) : Int) ∧ (a.natAbs : Int) - ↑b.natAbs = (magLo (a + b) : Int) := by
  rw [beq_eq_false_iff_ne, ne_eq, decide_eq_decide] at h
  unfold negOf magHi magLo
  rw [decide_eq_decide]
  omega
theorem half_prod (x y : Int) (hx0 : 0 ≤ x) (hx : x ≤ 4294967295) (hy0 : 0 ≤ y) (hy : y ≤ 4294967295) : 0 ≤ x * y ∧ x * y ≤ 18446744065119617025 := by
  have h : x * y ≤ 4294967295 * 4294967295 := Int.mul_le_mul hx hy hy0 (by omega)
  exact ⟨Int.mul_nonneg hx0 hy0, by omega⟩

theorem times_halves (p00 p10 p01 p11 t : Int) (_q1 : 0 ≤ p00) (_q2 : p00 ≤ 18446744065119617025) (_q3 : 0 ≤ p10) (_q4 : p10 ≤ 18446744065119617025) (_q5 : 0 ≤ p01) (_q6 : p01 ≤ 18446744065119617025)
    (_q7 : 0 ≤ p11) (_q8 : p11 ≤ 18446744065119617025) (h : t = p11 * 18446744073709551616 + (p10 + p01) * 4294967296 + p00) :
    p11 + (p10 + p00 / 4294967296) / 4294967296 + (p01 + (p10 + p00 / 4294967296) % 4294967296) / 4294967296 = t / 18446744073709551616 ∧
      (p01 + (p10 + p00 / 4294967296)) % 4294967296 * 4294967296 + p00 % 4294967296 = t % 18446744073709551616 := by
  subst h; omega
theorem split_prod (x y : Int) : x * y = x / 4294967296 * (y / 4294967296) * 18446744073709551616 + (x / 4294967296 * (y % 4294967296) + x % 4294967296 * (y / 4294967296)) * 4294967296 + x % 4294967296 * (y % 4294967296) := by
  have ex : x = x / 4294967296 * 4294967296 + x % 4294967296 := by omega
  have ey : y = y / 4294967296 * 4294967296 + y % 4294967296 := by omega
  have e : x * y = (x / 4294967296 * 4294967296 + x % 4294967296) * (y / 4294967296 * 4294967296 + y % 4294967296) := by rw [← ex, ← ey]
  rw [e, Int.add_mul, Int.mul_add, Int.mul_add]
  generalize x / 4294967296 = x1
  generalize x % 4294967296 = x0
  generalize y / 4294967296 = y1
  generalize y % 4294967296 = y0
  have e1 : x1 * 4294967296 * (y1 * 4294967296) = x1 * y1 * 18446744073709551616 := by rw [Int.mul_assoc, Int.mul_left_comm 4294967296, ← Int.mul_assoc, ← Int.mul_assoc]; omega
  have e2 : x1 * 4294967296 * y0 = x1 * y0 * 4294967296 := by rw [Int.mul_right_comm]
  have e3 : x0 * (y1 * 4294967296) = x0 * y1 * 4294967296 := by rw [Int.mul_assoc]
  omega
theorem neg_prod (a b : Int) (h : ¬ (a < 0 ↔ b < 0)) : negOf (a * b) = decide (0 < (a * b).natAbs) := by
  unfold negOf
  rw [decide_eq_decide]
  constructor
  · intro; omega
  · intro k
    have n : a * b ≠ 0 := by omega
    by_cases sa : a < 0
    · have sb : 0 ≤ b := by
        by_cases sb : b < 0
        · exact absurd ⟨fun _ => sb, fun _ => sa⟩ h
        · omega
      have := Int.mul_nonpos_of_nonpos_of_nonneg (show a ≤ 0 by omega) sb
      omega
    · have sb : b < 0 := by
        by_cases sb : b < 0
        · exact sb
        · exact absurd ⟨fun h => absurd h sa, fun h => absurd h sb⟩ h
      have := Int.mul_nonpos_of_nonneg_of_nonpos (show 0 ≤ a by omega) (show b ≤ 0 by omega)
      omega
theorem pos_prod (a b : Int) (h : a < 0 ↔ b < 0) : negOf (a * b) = false := by
  unfold negOf
  rw [decide_eq_false_iff_not]
  intro k
  by_cases sa : a < 0
  · have sb := h.1 sa
    have := Int.mul_nonneg_of_nonpos_of_nonpos (show a ≤ 0 by omega) (show b ≤ 0 by omega)
    omega
  · have sb : ¬ b < 0 := fun c => sa (h.2 c)
    have := Int.mul_nonneg (show 0 ≤ a by omega) (show 0 ≤ b by omega)
    omega

theorem rplus_any (a b : Int) (h1 : -9223372036854775808 ≤ a) (h2 : a ≤ 9223372036854775807) (h3 : -9223372036854775808 ≤ b) (h4 : b ≤ 9223372036854775807) (w : World) :
    Calls Try.prog 52 #[.int .i64 a, .int .i64 b] w fun e w' => e = .returned (.agg #[.bool (negOf (a + b)), .int .u64 (magHi (a + b)), .int .u64 (magLo (a + b))]) ∧ Below w.heap.size w w' := by
  go_enter Try.func52, Try.ntmps52
  go_wp2_with fail
  refine (abs_any a h1 h2 _).mono ?_
  rintro e w' ⟨rfl, rfl⟩
  go_wp2_with fail
  refine (abs_any b h3 h4 _).mono ?_
  rintro e w' ⟨rfl, rfl⟩
  go_wp2
  all_goals
    refine bodyPost_ret (v := .agg #[.bool (negOf (a + b)), .int .u64 (magHi (a + b)), .int .u64 (magLo (a + b))]) ?_ rfl ⟨rfl, by
      first
      | exact (Below.refl _ _).alloc (Nat.le_refl _) _
      | exact ((Below.refl _ _).alloc (Nat.le_refl _) _).alloc (by simp) _⟩
    simp [results, Try.results52, go_sem]
  · exact plus_one h1 h2 h3 h4 ‹_› ‹_›
  · exact plus_two h1 h2 h3 h4 ‹_› ‹_›
  · exact plus_three h1 h2 h3 h4 ‹_› ‹_›
  · have n : a < 0 := ‹_›
    have k := plus_four h1 h2 h3 h4 ‹_› ‹_›
    simp [n] at k
    exact k
  · have n : 0 ≤ a := ‹_›
    have k := plus_four h1 h2 h3 h4 ‹_› ‹_›
    simp [show ¬ a < 0 by omega] at k
    exact ⟨by simpa using k.1, k.2⟩

theorem narrow_any (neg : Bool) (hi lo : Nat) (_h1 : hi < 18446744073709551616) (_h2 : lo < 18446744073709551616) (w : World) :
    Calls Try.prog 51 #[.agg #[.bool neg, .int .u64 hi, .int .u64 lo]] w fun e w' => e = .returned (.tuple #[.int .i64 (fitV (wideV neg hi lo)), .bool (fits (wideV neg hi lo))]) ∧ Below w.heap.size w w' := by
  go_enter Try.func51, Try.ntmps51
  go_wp2
  all_goals go_ret2
  all_goals refine ⟨ret_ib ?_ ?_, (Below.refl _ _).alloc (Nat.le_refl _) _⟩
  all_goals unfold wideV
  all_goals
    cases neg <;> first
    | contradiction
    | (refine (fitV_no ?_).symm; simp; omega)
    | (refine (fits_no ?_).symm; simp; omega)
    | (refine Eq.trans ?_ (fitV_yes ?_ ?_).symm <;> simp <;> omega)
    | (refine (fits_yes ?_ ?_).symm <;> simp <;> omega)

theorem times_any (a b : Int) (h1 : -9223372036854775808 ≤ a) (h2 : a ≤ 9223372036854775807) (h3 : -9223372036854775808 ≤ b) (h4 : b ≤ 9223372036854775807) (w : World) :
    Calls Try.prog 54 #[.int .i64 a, .int .i64 b] w fun e w' => e = .returned (.agg #[.bool (negOf (a * b)), .int .u64 (magHi (a * b)), .int .u64 (magLo (a * b))]) ∧ Below w.heap.size w w' := by
  go_enter Try.func54, Try.ntmps54
  go_wp2_with fail
  refine (abs_any a h1 h2 _).mono ?_
  rintro e w' ⟨rfl, rfl⟩
  go_wp2_with fail
  refine (abs_any b h3 h4 _).mono ?_
  rintro e w' ⟨rfl, rfl⟩
  have hx : a.natAbs ≤ 9223372036854775808 := by omega
  have hy : b.natAbs ≤ 9223372036854775808 := by omega
  generalize hX : a.natAbs = x at hx ⊢
  generalize hY : b.natAbs = y at hy ⊢
  have HX := Lib.hid hX
  have HY := Lib.hid hY
  clear hX hY
  obtain ⟨q1, q2⟩ := half_prod ((x : Int) % 4294967296) ((y : Int) % 4294967296) (by omega) (by omega) (by omega) (by omega)
  obtain ⟨q3, q4⟩ := half_prod ((x : Int) / 4294967296) ((y : Int) % 4294967296) (by omega) (by omega) (by omega) (by omega)
  obtain ⟨q5, q6⟩ := half_prod ((x : Int) % 4294967296) ((y : Int) / 4294967296) (by omega) (by omega) (by omega) (by omega)
  obtain ⟨q7, q8⟩ := half_prod ((x : Int) / 4294967296) ((y : Int) / 4294967296) (by omega) (by omega) (by omega) (by omega)
  go_wp2
  all_goals
    refine bodyPost_ret (v := .agg #[.bool (negOf (a * b)), .int .u64 (magHi (a * b)), .int .u64 (magLo (a * b))]) ?_ rfl ⟨rfl, by
      first
      | exact (Below.refl _ _).alloc (Nat.le_refl _) _
      | exact ((Below.refl _ _).alloc (Nat.le_refl _) _).alloc (by simp) _⟩
    simp [results, Try.results54, go_sem]
  all_goals
    have hn : (a * b).natAbs = x * y := by rw [Int.natAbs_mul, HX.out, HY.out]
    have hT : ((a * b).natAbs : Int) = (x : Int) * (y : Int) := by rw [hn, Int.natCast_mul]
    obtain ⟨E1, E2⟩ := times_halves _ _ _ _ _ q1 q2 q3 q4 q5 q6 q7 q8 (hT.trans (split_prod x y))
    simp only [E1, E2] at *
    clear q1 q2 q3 q4 q5 q6 q7 q8 E1 E2 hT hn
  · exact ⟨pos_prod a b ‹_›, by unfold magHi; omega, by unfold magLo; omega⟩
  · have k : ¬ (a < 0 ↔ b < 0) := ‹_›
    have k2 : ((a * b).natAbs : Int) / 18446744073709551616 ≤ 0 := ‹_›
    refine ⟨?_, by unfold magHi; omega, by unfold magLo; omega⟩
    rw [neg_prod a b k]
    have n1 : (decide (a < 0) == decide (b < 0)) = false := by rw [beq_eq_false_iff_ne, ne_eq, decide_eq_decide]; exact k
    rw [n1, decide_eq_false (show ¬ 0 < ((a * b).natAbs : Int) / 18446744073709551616 by omega)]
    simp only [Bool.not_false, Bool.true_and, Bool.false_or]
    rw [decide_eq_decide]
    omega
  · have k : ¬ (a < 0 ↔ b < 0) := ‹_›
    have k2 : 0 < ((a * b).natAbs : Int) / 18446744073709551616 := ‹_›
    refine ⟨?_, by unfold magHi; omega, by unfold magLo; omega⟩
    have n1 : (decide (a < 0) == decide (b < 0)) = false := by rw [beq_eq_false_iff_ne, ne_eq, decide_eq_decide]; exact k
    rw [neg_prod a b k, n1, decide_eq_true (show 0 < (a * b).natAbs by omega)]
    rfl
end Go.Proofs.Ytcihdecfganohaa
