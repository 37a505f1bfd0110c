/- Contracts of the references' results and of the comparison of products. -/
import Derived.Test.YthpjcchmobekmaaWalkB
namespace Go.Proofs.Ythpjcchmobekmaa
open Go.RowKit

theorem ret_pair {a b : Int} {c d : Bool} (h : a = b ∧ c = d) : Ending.returned (.tuple #[.int .i64 a, .bool c]) = .returned (.tuple #[.int .i64 b, .bool d]) := by rw [h.1, h.2]

theorem narrow_of (n : Int) (h1 : -340282366920938463463374607431768211456 < n) (h2 : n < 340282366920938463463374607431768211456) (w : World) :
    Calls Try.prog 27 #[.agg #[.bool (negOf n), .int .u64 (magHi n), .int .u64 (magLo n)]] w fun e w' => e = .returned (.tuple #[.int .i64 (fitV n), .bool (fits n)]) ∧ Below w.heap.size w w' := by
  have h := narrow_any (negOf n) (magHi n) (magLo n) (by unfold magHi; omega) (by unfold magLo; omega) w
  rw [wide_of] at h
  exact h

theorem radd_any (a b : Int) (h1 : -9223372036854775808 ≤ a) (h2 : a ≤ 9223372036854775807) (h3 : -9223372036854775808 ≤ b) (h4 : b ≤ 9223372036854775807) (w : World) :
    Calls Try.prog 11 #[.int .i64 a, .int .i64 b] w fun e w' => e = .returned (.tuple #[.int .i64 (fitV (a + b)), .bool (fits (a + b))]) ∧ Below w.heap.size w w' := by
  go_enter Try.func11, Try.ntmps11
  go_wp2_with fail
  refine (rplus_any a b h1 h2 h3 h4 _).mono ?_
  rintro e w1 ⟨rfl, hb1⟩
  go_wp2_with fail
  refine (narrow_of (a + b) (by omega) (by omega) _).mono ?_
  rintro e w2 ⟨rfl, hb2⟩
  go_wp2
  go_ret2
  exact ⟨rfl, hb1.trans (hb2.mono hb1.size)⟩

theorem rsub_any (a b : Int) (h1 : -9223372036854775808 ≤ a) (h2 : a ≤ 9223372036854775807) (h3 : -9223372036854775808 ≤ b) (h4 : b ≤ 9223372036854775807) (w : World) :
    Calls Try.prog 13 #[.int .i64 a, .int .i64 b] w fun e w' => e = .returned (.tuple #[.int .i64 (fitV (a - b)), .bool (fits (a - b))]) ∧ Below w.heap.size w w' := by
  by_cases hb : b = -9223372036854775808
  · subst hb
    by_cases ha : a < 0
    · go_enter Try.func13, Try.ntmps13
      go_wp2
      go_ret2
      refine ⟨ret_ib ?_ (fits_yes (by omega) (by omega)).symm, Below.refl _ _⟩
      rw [fitV_yes (by omega) (by omega)]
      first | rfl | (unfold wrap64; omega)
    · go_enter Try.func13, Try.ntmps13
      go_wp2
      go_ret2
      exact ⟨ret_ib (fitV_no (by omega)).symm (fits_no (by omega)).symm, Below.refl _ _⟩
  · have hz : (b == -9223372036854775808) = false := by rw [beq_eq_false_iff_ne]; exact hb
    go_enter Try.func13, Try.ntmps13
    go_wp2_with fail
    refine (rplus_any a (-b) h1 h2 (by omega) (by omega) _).mono ?_
    rintro e w1 ⟨rfl, hb1⟩
    go_wp2_with fail
    refine (narrow_of (a + -b) (by omega) (by omega) _).mono ?_
    rintro e w2 ⟨rfl, hb2⟩
    go_wp2
    go_ret2
    exact ⟨ret_pair (by rw [Int.sub_eq_add_neg]; exact ⟨rfl, rfl⟩), hb1.trans (hb2.mono hb1.size)⟩

theorem rmul_any (a b : Int) (h1 : -9223372036854775808 ≤ a) (h2 : a ≤ 9223372036854775807) (h3 : -9223372036854775808 ≤ b) (h4 : b ≤ 9223372036854775807) (w : World) :
    Calls Try.prog 15 #[.int .i64 a, .int .i64 b] w fun e w' => e = .returned (.tuple #[.int .i64 (fitV (a * b)), .bool (fits (a * b))]) ∧ Below w.heap.size w w' := by
  obtain ⟨p1, p2⟩ := prod_abs a b (by omega) (by omega)
  go_enter Try.func15, Try.ntmps15
  go_wp2_with fail
  refine (times_any a b h1 h2 h3 h4 _).mono ?_
  rintro e w1 ⟨rfl, hb1⟩
  go_wp2_with fail
  refine (narrow_of (a * b) (by omega) (by omega) _).mono ?_
  rintro e w2 ⟨rfl, hb2⟩
  go_wp2
  go_ret2
  exact ⟨rfl, hb1.trans (hb2.mono hb1.size)⟩

theorem rgcdp_any (a b : Int) (h1 : -9223372036854775808 ≤ a) (h2 : a ≤ 9223372036854775807) (h3 : -9223372036854775808 ≤ b) (h4 : b ≤ 9223372036854775807) (w : World) :
    Calls Try.prog 22 #[.int .i64 a, .int .i64 b] w fun e w' => e = .returned (.tuple #[.int .i64 (fitV (Nat.gcd a.natAbs b.natAbs : Nat)), .bool (fits (Nat.gcd a.natAbs b.natAbs : Nat))]) ∧ Below w.heap.size w w' := by
  have ha : a.natAbs < 18446744073709551616 := by omega
  have hb : b.natAbs < 18446744073709551616 := by omega
  have hg := gcd_lt ha hb
  go_enter Try.func22, Try.ntmps22
  go_wp2_with fail
  refine (abs_any a h1 h2 _).mono ?_
  rintro e w' ⟨rfl, rfl⟩
  go_wp2_with fail
  refine (abs_any b h3 h4 _).mono ?_
  rintro e w' ⟨rfl, rfl⟩
  go_wp2_with fail
  refine (rgcd_any _ _ ha hb _).mono ?_
  rintro e w' ⟨rfl, rfl⟩
  go_wp2_with fail
  refine (narrow_any false 0 _ (by omega) hg _).mono ?_
  rintro e w2 ⟨rfl, hb2⟩
  go_wp2
  go_ret2
  exact ⟨ret_pair (by simp [wideV]), hb2⟩

/-- the common multiple, from the quotient by the divisor -/
theorem lcm_eq (x y : Nat) : x / Nat.gcd x y * y = Nat.lcm x y := by
  unfold Nat.lcm
  rw [Nat.mul_comm x y, Nat.mul_div_assoc _ (Nat.gcd_dvd_left x y), Nat.mul_comm]

theorem quot_in (x y : Nat) (hx : x < 18446744073709551616) : IntKind.u64.wrap ((x : Int) / (Nat.gcd x y : Nat)) = ((x / Nat.gcd x y : Nat) : Int) := by
  have h := Nat.div_le_self x (Nat.gcd x y)
  rw [← Int.natCast_ediv]
  generalize x / Nat.gcd x y = q at h ⊢
  exact IntWalk.u64_in _ (by omega)
theorem lcm_lt {x y : Nat} (hx : x < 18446744073709551616) (hy : y < 18446744073709551616) : Nat.lcm x y < 340282366920938463463374607431768211456 := by
  rw [← lcm_eq]
  have h := Nat.div_le_self x (Nat.gcd x y)
  have : x / Nat.gcd x y * y ≤ 18446744073709551615 * 18446744073709551615 := Nat.mul_le_mul (by omega) (by omega)
  omega

theorem lcm_any (a b : Int) (h1 : -9223372036854775808 ≤ a) (h2 : a ≤ 9223372036854775807) (h3 : -9223372036854775808 ≤ b) (h4 : b ≤ 9223372036854775807) (w : World) :
    Calls Try.prog 23 #[.int .i64 a, .int .i64 b] w fun e w' => e = .returned (.tuple #[.int .i64 (fitV (Nat.lcm a.natAbs b.natAbs : Nat)), .bool (fits (Nat.lcm a.natAbs b.natAbs : Nat))]) ∧ ∃ n, w' = w.drewN n := by
  have ha : a.natAbs < 18446744073709551616 := by omega
  have hb : b.natAbs < 18446744073709551616 := by omega
  have hp := lcm_lt ha hb
  have HE := Lib.hid (lcm_eq a.natAbs b.natAbs)
  by_cases za : a = 0
  · subst za
    go_enter Try.func23, Try.ntmps23
    go_wp2
    go_ret2
    exact ⟨ret_pair (by simp [fitV, fits]), 0, rfl⟩
  · have qa : (a == 0) = false := by rw [beq_eq_false_iff_ne]; exact za
    by_cases zb : b = 0
    · subst zb
      go_enter Try.func23, Try.ntmps23
      go_wp2
      go_ret2
      exact ⟨ret_pair (by simp [fitV, fits]), 0, rfl⟩
    · have qb : (b == 0) = false := by rw [beq_eq_false_iff_ne]; exact zb
      have hq : a.natAbs / Nat.gcd a.natAbs b.natAbs < 18446744073709551616 := Nat.lt_of_le_of_lt (Nat.div_le_self _ _) ha
      generalize Nat.lcm a.natAbs b.natAbs = L at hp HE ⊢
      go_enter Try.func23, Try.ntmps23
      go_wp2_with fail
      refine (magnitude_any a h1 h2 _).mono ?_
      rintro e w' ⟨rfl, rfl⟩
      go_wp2_with fail
      refine (magnitude_any b h3 h4 _).mono ?_
      rintro e w' ⟨rfl, rfl⟩
      go_wp2_with fail
      refine (euclid_any _ _ ha hb _).mono ?_
      rintro e w' ⟨rfl, n, rfl⟩
      go_wp2_with fail
      rw [quot_in _ _ ha]
      refine (Try.bits_Mul64 _ _ hq hb _).mono ?_
      rintro e w' ⟨rfl, rfl⟩
      rw [HE.out]
      by_cases hh : L / 18446744073709551616 = 0
      · have hl : L < 18446744073709551616 := by omega
        have e1 : L % 18446744073709551616 = L := Nat.mod_eq_of_lt hl
        rw [hh, e1]
        clear e1 hh
        go_wp2_with fail
        refine (natural_any _ hl _).mono ?_
        rintro e w' ⟨rfl, rfl⟩
        go_wp2
        go_ret2
        exact ⟨rfl, n, rfl⟩
      · have h1 : 1 ≤ L / 18446744073709551616 := by omega
        generalize hm : L % 18446744073709551616 = M
        generalize hk : L / 18446744073709551616 = K at h1 ⊢
        have HM := Lib.hid hm
        have HK := Lib.hid hk
        have hz : ((K : Int) != 0) = true := by simp; omega
        have hz2 : ((K : Int) == 0) = false := by simp; omega
        clear hm hk hh
        go_wp2
        go_ret2
        have := HK.out
        exact ⟨ret_ib (fitV_no (by omega)).symm (fits_no (by omega)).symm, n, rfl⟩

theorem over_no {y z : Nat} (hy : 1 ≤ y) (h : (9223372036854775807 : Int) / (y : Int) < (z : Int)) : (9223372036854775807 : Int) < ((z * y : Nat) : Int) := by
  have h1 : ((9223372036854775807 / y : Nat) : Int) < (z : Int) := by rw [Int.natCast_ediv]; exact h
  have h2 : 9223372036854775807 / y < z := Int.ofNat_lt.1 h1
  have h3 := (Nat.div_lt_iff_lt_mul (by omega)).1 h2
  exact Int.ofNat_lt.2 h3
theorem over_yes {y z : Nat} (hy : 1 ≤ y) (h : (z : Int) ≤ (9223372036854775807 : Int) / (y : Int)) : ((z * y : Nat) : Int) ≤ (9223372036854775807 : Int) := by
  have h1 : (z : Int) ≤ ((9223372036854775807 / y : Nat) : Int) := by rw [Int.natCast_ediv]; exact h
  have h2 : z ≤ 9223372036854775807 / y := Int.ofNat_le.1 h1
  have h3 := (Nat.le_div_iff_mul_le (by omega)).1 h2
  exact Int.ofNat_le.2 h3

theorem rlcm_any (a b : Int) (h1 : -9223372036854775808 ≤ a) (h2 : a ≤ 9223372036854775807) (h3 : -9223372036854775808 ≤ b) (h4 : b ≤ 9223372036854775807) (w : World) :
    Calls Try.prog 24 #[.int .i64 a, .int .i64 b] w fun e w' => e = .returned (.tuple #[.int .i64 (fitV (Nat.lcm a.natAbs b.natAbs : Nat)), .bool (fits (Nat.lcm a.natAbs b.natAbs : Nat))]) ∧ w = w' := by
  have ha : a.natAbs < 18446744073709551616 := by omega
  have hb : b.natAbs < 18446744073709551616 := by omega
  have HE := Lib.hid (lcm_eq a.natAbs b.natAbs)
  have LZ : Hid (a.natAbs = 0 ∨ b.natAbs = 0 → Nat.lcm a.natAbs b.natAbs = 0) := by
    rintro (h | h) <;> rw [h] <;> simp
  have QU := Lib.hid (quot_in a.natAbs b.natAbs ha)
  have G0 : Hid (a.natAbs ≠ 0 → Nat.gcd a.natAbs b.natAbs ≠ 0) := fun h e => h (Nat.eq_zero_of_gcd_eq_zero_left e)
  have AX := Lib.hid (abs_any a h1 h2)
  have AY := Lib.hid (abs_any b h3 h4)
  generalize Nat.lcm a.natAbs b.natAbs = L at HE LZ ⊢
  generalize a.natAbs = x at *
  generalize b.natAbs = y at *
  go_enter Try.func24, Try.ntmps24
  go_wp2_with fail
  refine (AX.out _).mono ?_
  rintro e w' ⟨rfl, rfl⟩
  go_wp2_with fail
  refine (AY.out _).mono ?_
  rintro e w' ⟨rfl, rfl⟩
  by_cases zx : x = 0
  · subst zx
    go_wp2
    go_ret2
    refine ⟨ret_pair ?_, rfl⟩
    rw [LZ.out (by simp)]
    simp [fitV, fits]
  by_cases zy : y = 0
  · subst zy
    go_wp2
    go_ret2
    refine ⟨ret_pair ?_, rfl⟩
    rw [LZ.out (by simp)]
    simp [fitV, fits]
  have px : 1 ≤ x := by omega
  have py : 1 ≤ y := by omega
  have pg : 1 ≤ Nat.gcd x y := by have := G0.out zx; omega
  have qx : ((x : Int) == 0) = false := by simp; omega
  have qy : ((y : Int) == 0) = false := by simp; omega
  go_wp2_with fail
  refine (rgcd_any _ _ ha hb _).mono ?_
  rintro e w' ⟨rfl, rfl⟩
  generalize hz : x / Nat.gcd x y = z at HE ⊢
  have hzl : z ≤ x := by rw [← hz]; exact Nat.div_le_self _ _
  have HZ := Lib.hid hz
  clear hz
  go_wp2_with fail
  · have k := over_no py (HZ.out ▸ QU.out ▸ (by assumption : (9223372036854775807 : Int) / (y : Int) < IntKind.u64.wrap ((x : Int) / (Nat.gcd x y : Nat))))
    go_ret2
    rw [HE.out] at k
    exact ⟨ret_ib (fitV_no (.inr k)).symm (fits_no (.inr k)).symm, rfl⟩
  · have k := over_yes py (HZ.out ▸ QU.out ▸ (by assumption : IntKind.u64.wrap ((x : Int) / (Nat.gcd x y : Nat)) ≤ (9223372036854775807 : Int) / (y : Int)))
    go_ret2
    refine ⟨ret_ib ?_ ?_, rfl⟩
    · rw [QU.out, HZ.out, ← Int.natCast_mul, IntWalk.u64_in _ (by omega), ← HE.out, fitV_yes (by omega) k]
      first | rfl | exact IntWalk.i64_in _ (by omega) | exact IntWalk.wrap64_in _ (by omega)
    · rw [← HE.out, fits_yes (by omega) k]

theorem cmpi_any (x y : Int) (w : World) :
    Calls Try.prog 37 #[.int .i64 x, .int .i64 y] w fun e w' => e = .returned (.int .i64 (crossV x y)) ∧ w = w' := by
  go_enter Try.func37, Try.ntmps37
  go_wp2
  all_goals
    go_ret
    refine ⟨ret_i ?_, rfl⟩
    unfold crossV
    (repeat split) <;> omega
theorem cmpu_any (x y : Int) (w : World) :
    Calls Try.prog 38 #[.int .u64 x, .int .u64 y] w fun e w' => e = .returned (.int .i64 (crossV x y)) ∧ w = w' := by
  go_enter Try.func38, Try.ntmps38
  go_wp2
  all_goals
    go_ret
    refine ⟨ret_i ?_, rfl⟩
    unfold crossV
    (repeat split) <;> omega

theorem cross_hi {p q : Int} (p1 : -85070591730234615865843651857942052864 ≤ p) (p2 : p ≤ 85070591730234615865843651857942052864)
    (q1 : -85070591730234615865843651857942052864 ≤ q) (q2 : q ≤ 85070591730234615865843651857942052864) (h : (hiOf p != hiOf q) = true) :
    crossV (wrap64 (hiOf p)) (wrap64 (hiOf q)) = crossV p q := by
  have k := WalkArith.int_ne' h
  have e1 : wrap64 (hiOf p) = p / 18446744073709551616 := by unfold wrap64 hiOf; omega
  have e2 : wrap64 (hiOf q) = q / 18446744073709551616 := by unfold wrap64 hiOf; omega
  rw [e1, e2]
  have n : p / 18446744073709551616 ≠ q / 18446744073709551616 := by
    intro e; apply k; unfold hiOf; rw [e]
  unfold crossV
  (repeat split) <;> omega
theorem cross_lo {p q : Int} (h : (hiOf p != hiOf q) = false) (p1 : -85070591730234615865843651857942052864 ≤ p) (p2 : p ≤ 85070591730234615865843651857942052864)
    (q1 : -85070591730234615865843651857942052864 ≤ q) (q2 : q ≤ 85070591730234615865843651857942052864) :
    crossV (loOf p) (loOf q) = crossV p q := by
  have k := WalkArith.int_eq' h
  have n : p / 18446744073709551616 = q / 18446744073709551616 := by unfold hiOf at k; omega
  unfold crossV loOf
  (repeat split) <;> omega

theorem cross_any (a b c d : Int) (h1 : -9223372036854775808 ≤ a) (h2 : a ≤ 9223372036854775807) (h3 : -9223372036854775808 ≤ b) (h4 : b ≤ 9223372036854775807)
    (h5 : -9223372036854775808 ≤ c) (h6 : c ≤ 9223372036854775807) (h7 : -9223372036854775808 ≤ d) (h8 : d ≤ 9223372036854775807) (w : World) :
    Calls Try.prog 25 #[.int .i64 a, .int .i64 b, .int .i64 c, .int .i64 d] w fun e w' => e = .returned (.int .i64 (crossV (a * b) (c * d))) ∧ Below w.heap.size w w' := by
  obtain ⟨p1, p2⟩ := prod_abs a b (by omega) (by omega)
  obtain ⟨q1, q2⟩ := prod_abs c d (by omega) (by omega)
  go_enter Try.func25, Try.ntmps25
  go_wp2_with fail
  refine (product_any a b h1 h2 h3 h4 _).mono ?_
  rintro e w1 ⟨rfl, hb1⟩
  go_wp2_with fail
  refine (product_any c d h5 h6 h7 h8 _).mono ?_
  rintro e w2 ⟨rfl, hb2⟩
  have hw2 : w.heap.size ≤ w2.heap.size := Nat.le_trans hb1.size hb2.size
  have hb := hb1.trans (hb2.mono hb1.size)
  go_wp2_with fail
  · have k := Lib.hid <| cross_hi p1 p2 q1 q2 (by assumption)
    refine (cmpi_any _ _ _).mono ?_
    rintro e w3 ⟨rfl, rfl⟩
    go_wp2
    go_ret
    exact ⟨ret_i k.out, (hb.alloc hw2 _).alloc (by simp; omega) _⟩
  · have k := Lib.hid <| cross_lo (by assumption) p1 p2 q1 q2
    refine (cmpu_any _ _ _).mono ?_
    rintro e w3 ⟨rfl, rfl⟩
    go_wp2
    go_ret
    exact ⟨ret_i k.out, (hb.alloc hw2 _).alloc (by simp; omega) _⟩

set_option maxHeartbeats 2000000 in
theorem rcross_any (a b c d : Int) (h1 : -9223372036854775808 ≤ a) (h2 : a ≤ 9223372036854775807) (h3 : -9223372036854775808 ≤ b) (h4 : b ≤ 9223372036854775807)
    (h5 : -9223372036854775808 ≤ c) (h6 : c ≤ 9223372036854775807) (h7 : -9223372036854775808 ≤ d) (h8 : d ≤ 9223372036854775807) (w : World) :
    Calls Try.prog 26 #[.int .i64 a, .int .i64 b, .int .i64 c, .int .i64 d] w fun e w' => e = .returned (.int .i64 (crossV (a * b) (c * d))) ∧ Below w.heap.size w w' := by
  obtain ⟨p1, p2⟩ := prod_abs a b (by omega) (by omega)
  obtain ⟨q1, q2⟩ := prod_abs c d (by omega) (by omega)
  go_enter Try.func26, Try.ntmps26
  go_wp2_with fail
  refine (times_any a b h1 h2 h3 h4 _).mono ?_
  rintro e w1 ⟨rfl, hb1⟩
  go_wp2_with fail
  refine (times_any c d h5 h6 h7 h8 _).mono ?_
  rintro e w2 ⟨rfl, hb2⟩
  have hb := hb1.trans (hb2.mono hb1.size)
  have hw2 : w.heap.size ≤ w2.heap.size := Nat.le_trans hb1.size hb2.size
  have DP : Hid (negOf (a * b) = decide (a * b < 0) ∧ magHi (a * b) = (a * b).natAbs / 18446744073709551616 ∧ magLo (a * b) = (a * b).natAbs % 18446744073709551616) := ⟨rfl, rfl, rfl⟩
  have DQ : Hid (negOf (c * d) = decide (c * d < 0) ∧ magHi (c * d) = (c * d).natAbs / 18446744073709551616 ∧ magLo (c * d) = (c * d).natAbs % 18446744073709551616) := ⟨rfl, rfl, rfl⟩
  cases hP : negOf (a * b) <;> cases hQ : negOf (c * d) <;> go_wp2_with fail
  all_goals go_ret
  all_goals refine ⟨ret_i ?_, (hb.alloc hw2 _).alloc (by simp; omega) _⟩
  all_goals
    obtain ⟨d1, d2, d3⟩ := DP.out
    obtain ⟨d4, d5, d6⟩ := DQ.out
    rw [hP] at d1
    rw [hQ] at d4
    have s1 := d1.symm
    have s2 := d4.symm
    simp only [decide_eq_true_eq, decide_eq_false_iff_not] at s1 s2
    clear DP DQ hP hQ d1 d4 hb hb1 hb2 hw2
    try simp only [Bool.not_eq_true', Bool.not_eq_false', decide_eq_false_iff_not, decide_eq_true_eq] at *
    unfold crossV
    (repeat split) <;> omega
end Go.Proofs.Ythpjcchmobekmaa
