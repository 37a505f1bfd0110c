/- The seven statements' walks: each law returns true, and only new memory is touched. -/
import Derived.Test.YthpjcchmobekmaaWalkC
namespace Go.Proofs.Ythpjcchmobekmaa
open Go.RowKit

theorem below_drewN {B : Nat} {a w : World} (h : Below B a w) (n : Nat) : Below B a (w.drewN n) := ⟨h.os, h.tape, h.output, h.size, h.block⟩

theorem alive_any (w : World) : Calls Try.prog 16 #[] w fun e w' => e = .returned (.bool true) ∧ Below w.heap.size w w' := by
  have c1 := fun W => gcd_any 12 (-18) (by omega) (by omega) (by omega) (by omega) W
  have c2 := fun W => lcm_any 4 6 (by omega) (by omega) (by omega) (by omega) W
  have c3 := fun W => div_any (-7) 2 (by omega) (by omega) (by omega) (by omega) W
  have c4 := fun W => cross_any 3 3 2 4 (by omega) (by omega) (by omega) (by omega) (by omega) (by omega) (by omega) (by omega) W
  have e1 : fitV (Nat.gcd (12 : Int).natAbs (-18 : Int).natAbs : Nat) = 6 ∧ fits (Nat.gcd (12 : Int).natAbs (-18 : Int).natAbs : Nat) = true := by decide
  have e2 : fitV (Nat.lcm (4 : Int).natAbs (6 : Int).natAbs : Nat) = 12 ∧ fits (Nat.lcm (4 : Int).natAbs (6 : Int).natAbs : Nat) = true := by decide
  have e3 : divV (-7) 2 = -4 ∧ posB 2 = true := by decide
  have e4 : crossV (3 * 3) (2 * 4) = 1 := by decide
  rw [e1.1, e1.2] at c1
  rw [e2.1, e2.2] at c2
  rw [e3.1, e3.2] at c3
  rw [e4] at c4
  clear e1 e2 e3 e4
  have C1 := Lib.hid c1
  have C2 := Lib.hid c2
  have C3 := Lib.hid c3
  have C4 := Lib.hid c4
  clear c1 c2 c3 c4
  go_enter Try.func16, Try.ntmps16
  go_wp2_with fail
  refine (C1.out _).mono ?_
  rintro e w1 ⟨rfl, n1, rfl⟩
  go_wp2_with fail
  refine (C2.out _).mono ?_
  rintro e w1 ⟨rfl, n2, rfl⟩
  go_wp2_with fail
  refine (C3.out _).mono ?_
  rintro e w1 ⟨rfl, rfl⟩
  go_wp2_with fail
  refine (C4.out _).mono ?_
  rintro e w1 ⟨rfl, hb⟩
  go_wp2
  go_ret
  refine ⟨rfl, ?_⟩
  exact (below_drewN (Below.refl _ _) _).trans hb

theorem sums_walk (a b : Int) (h1 : -9223372036854775808 ≤ a) (h2 : a ≤ 9223372036854775807) (h3 : -9223372036854775808 ≤ b) (h4 : b ≤ 9223372036854775807) (w : World) :
    Calls Try.prog 3 #[.int .i64 a, .int .i64 b] w fun e w' => e = .returned (.bool true) ∧ Below w.heap.size w w' := by
  go_enter Try.func3, Try.ntmps3
  go_wp2_with fail
  refine (add_any a b h1 h2 h3 h4 _).mono ?_
  rintro e w1 ⟨rfl, rfl⟩
  go_wp2_with fail
  refine (radd_any a b h1 h2 h3 h4 _).mono ?_
  rintro e w1 ⟨rfl, hb1⟩
  go_wp2_with fail
  refine (sub_any a b h1 h2 h3 h4 _).mono ?_
  rintro e w2 ⟨rfl, rfl⟩
  go_wp2_with fail
  refine (rsub_any a b h1 h2 h3 h4 _).mono ?_
  rintro e w2 ⟨rfl, hb2⟩
  go_wp2_with fail
  refine (mul_any a b h1 h2 h3 h4 _).mono ?_
  rintro e w3 ⟨rfl, hb3⟩
  go_wp2_with fail
  refine (rmul_any a b h1 h2 h3 h4 _).mono ?_
  rintro e w4 ⟨rfl, hb4⟩
  go_wp2_with fail
  refine (alive_any _).mono ?_
  rintro e w5 ⟨rfl, hb5⟩
  go_wp2
  go_ret
  exact ⟨rfl, hb1.trans ((hb2.mono hb1.size).trans ((hb3.mono (by have := hb1.size; have := hb2.size; omega)).trans ((hb4.mono (by have := hb1.size; have := hb2.size; have := hb3.size; omega)).trans (hb5.mono (by have := hb1.size; have := hb2.size; have := hb3.size; have := hb4.size; omega)))))⟩

theorem divides_walk (a b : Int) (h1 : -9223372036854775808 ≤ a) (h2 : a ≤ 9223372036854775807) (h3 : -9223372036854775808 ≤ b) (h4 : b ≤ 9223372036854775807) (w : World) :
    Calls Try.prog 4 #[.int .i64 a, .int .i64 b] w fun e w' => e = .returned (.bool true) ∧ Below w.heap.size w w' := by
  go_enter Try.func4, Try.ntmps4
  go_wp2_with fail
  refine (div_any a b h1 h2 h3 h4 _).mono ?_
  rintro e w1 ⟨rfl, rfl⟩
  go_wp2_with fail
  refine (rdiv_any a b h1 h2 h3 h4 _).mono ?_
  rintro e w1 ⟨rfl, rfl⟩
  go_wp2_with fail
  refine (mod_any a b h1 h2 h3 h4 _).mono ?_
  rintro e w1 ⟨rfl, rfl⟩
  go_wp2_with fail
  refine (rmod_any a b h1 h2 h3 h4 _).mono ?_
  rintro e w1 ⟨rfl, rfl⟩
  go_wp2_with fail
  refine (alive_any _).mono ?_
  rintro e w5 ⟨rfl, hb5⟩
  go_wp2
  go_ret
  exact ⟨rfl, hb5⟩

theorem common_walk (a b : Int) (h1 : -9223372036854775808 ≤ a) (h2 : a ≤ 9223372036854775807) (h3 : -9223372036854775808 ≤ b) (h4 : b ≤ 9223372036854775807) (w : World) :
    Calls Try.prog 5 #[.int .i64 a, .int .i64 b] w fun e w' => e = .returned (.bool true) ∧ Below w.heap.size w w' := by
  go_enter Try.func5, Try.ntmps5
  go_wp2_with fail
  refine (gcd_any a b h1 h2 h3 h4 _).mono ?_
  rintro e w1 ⟨rfl, n1, rfl⟩
  go_wp2_with fail
  refine (rgcdp_any a b h1 h2 h3 h4 _).mono ?_
  rintro e w1 ⟨rfl, hb1⟩
  go_wp2_with fail
  refine (lcm_any a b h1 h2 h3 h4 _).mono ?_
  rintro e w1 ⟨rfl, n2, rfl⟩
  go_wp2_with fail
  refine (rlcm_any a b h1 h2 h3 h4 _).mono ?_
  rintro e w1 ⟨rfl, rfl⟩
  go_wp2_with fail
  refine (alive_any _).mono ?_
  rintro e w5 ⟨rfl, hb5⟩
  go_wp2
  go_ret
  exact ⟨rfl, ((below_drewN (Below.refl _ _) _).trans hb1).trans ((below_drewN (Below.refl _ _) _).trans (hb5.mono (by have := hb1.size; simpa using this)))⟩

theorem fitV_in (n : Int) : -9223372036854775808 ≤ fitV n ∧ fitV n ≤ 9223372036854775807 := by
  unfold fitV
  split
  · rename_i h; exact (fits_iff n).1 h
  · omega

theorem remainders_walk (a b : Int) (h1 : -9223372036854775808 ≤ a) (h2 : a ≤ 9223372036854775807) (h3 : -9223372036854775808 ≤ b) (h4 : b ≤ 9223372036854775807) (w : World) :
    Calls Try.prog 7 #[.int .i64 a, .int .i64 b] w fun e w' => e = .returned (.bool true) ∧ Below w.heap.size w w' := by
  have CD := Lib.hid (div_any a b h1 h2 h3 h4)
  have CM := Lib.hid (mod_any a b h1 h2 h3 h4)
  by_cases hb : b < 1
  · obtain ⟨d1, d2⟩ := div_no hb a
    obtain ⟨d3, _⟩ := mod_no hb a
    rw [← d1, ← d2] at CD
    rw [← d3, ← d2] at CM
    clear d1 d2 d3
    go_enter Try.func7, Try.ntmps7
    go_wp2_with fail
    refine (CD.out _).mono ?_
    rintro e w1 ⟨rfl, rfl⟩
    go_wp2_with fail
    refine (CM.out _).mono ?_
    rintro e w1 ⟨rfl, rfl⟩
    go_wp2_with fail
    refine (alive_any _).mono ?_
    rintro e w1 ⟨rfl, hb1⟩
    go_wp2
    go_ret
    exact ⟨rfl, hb1⟩
  · have hb : 1 ≤ b := by omega
    obtain ⟨d1, d2⟩ := div_yes hb a
    obtain ⟨d3, _⟩ := mod_yes hb a
    rw [d1, d2] at CD
    rw [d3, d2] at CM
    have r1 := Int.emod_nonneg a (show b ≠ 0 by omega)
    have r2 := Int.emod_lt_of_pos a (show 0 < b by omega)
    have r3 := Int.ediv_mul_add_emod a b
    have hw : (wrap64 (wrap64 (a / b * b) + a % b) == a) = true := by
      rw [beq_iff_eq]; unfold wrap64; omega
    clear d1 d2 d3 r3
    have hw' : wrap64 (wrap64 (a / b * b) + a % b) = a := by rw [beq_iff_eq] at hw; exact hw
    generalize a / b = q at *
    generalize a % b = r at *
    go_enter Try.func7, Try.ntmps7
    go_wp2_with fail
    refine (CD.out _).mono ?_
    rintro e w1 ⟨rfl, rfl⟩
    go_wp2_with fail
    refine (CM.out _).mono ?_
    rintro e w1 ⟨rfl, rfl⟩
    go_wp2_with fail
    refine (alive_any _).mono ?_
    rintro e w1 ⟨rfl, hb1⟩
    go_wp2
    go_ret
    exact ⟨rfl, hb1⟩

end Go.Proofs.Ythpjcchmobekmaa
