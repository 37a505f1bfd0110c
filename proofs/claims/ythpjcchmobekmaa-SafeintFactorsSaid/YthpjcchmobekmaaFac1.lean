/- The law on divisors and multiples, case by case: the first half of the cases. -/
import Derived.Test.YthpjcchmobekmaaLawA
namespace Go.Proofs.Ythpjcchmobekmaa
open Go.RowKit

/-- what is known of the divisor, the multiple and the product, as the operations give them -/
theorem gcd_facts (a b : Int) : fits (Nat.gcd a.natAbs b.natAbs : Nat) = true →
    0 ≤ fitV (Nat.gcd a.natAbs b.natAbs : Nat) ∧ a.tmod (fitV (Nat.gcd a.natAbs b.natAbs : Nat)) = 0 ∧ b.tmod (fitV (Nat.gcd a.natAbs b.natAbs : Nat)) = 0 ∧
      (fitV (Nat.gcd a.natAbs b.natAbs : Nat) = 0 → a = 0 ∧ b = 0) := by
  intro h
  have e : fitV (Nat.gcd a.natAbs b.natAbs : Nat) = (Nat.gcd a.natAbs b.natAbs : Nat) := by unfold fitV; rw [if_pos h]
  rw [e]
  refine ⟨by omega, ?_, ?_, ?_⟩
  · exact Int.tmod_eq_zero_of_dvd (Int.ofNat_dvd_left.2 (Nat.gcd_dvd_left _ _))
  · exact Int.tmod_eq_zero_of_dvd (Int.ofNat_dvd_left.2 (Nat.gcd_dvd_right _ _))
  · intro k
    have k' : Nat.gcd a.natAbs b.natAbs = 0 := by omega
    have ka := Nat.eq_zero_of_gcd_eq_zero_left k'
    have kb := Nat.eq_zero_of_gcd_eq_zero_right k'
    omega
theorem lcm_facts (a b : Int) : fits (Nat.lcm a.natAbs b.natAbs : Nat) = true →
    0 ≤ fitV (Nat.lcm a.natAbs b.natAbs : Nat) ∧ (fitV (Nat.lcm a.natAbs b.natAbs : Nat)).tmod a = 0 ∧ (fitV (Nat.lcm a.natAbs b.natAbs : Nat)).tmod b = 0 := by
  intro h
  have e : fitV (Nat.lcm a.natAbs b.natAbs : Nat) = (Nat.lcm a.natAbs b.natAbs : Nat) := by unfold fitV; rw [if_pos h]
  rw [e]
  refine ⟨by omega, ?_, ?_⟩
  · exact Int.tmod_eq_zero_of_dvd (Int.ofNat_dvd_right.2 (Nat.dvd_lcm_left _ _))
  · exact Int.tmod_eq_zero_of_dvd (Int.ofNat_dvd_right.2 (Nat.dvd_lcm_right _ _))
theorem mul_facts (a b : Int) : fits (Nat.gcd a.natAbs b.natAbs : Nat) = true → fits (Nat.lcm a.natAbs b.natAbs : Nat) = true → fits (a * b) = true → -9223372036854775808 < fitV (a * b) →
    fits (fitV (Nat.gcd a.natAbs b.natAbs : Nat) * fitV (Nat.lcm a.natAbs b.natAbs : Nat)) = true ∧
      (fitV (fitV (Nat.gcd a.natAbs b.natAbs : Nat) * fitV (Nat.lcm a.natAbs b.natAbs : Nat)) = fitV (a * b) ∨
        fitV (fitV (Nat.gcd a.natAbs b.natAbs : Nat) * fitV (Nat.lcm a.natAbs b.natAbs : Nat)) = -fitV (a * b)) := by
  intro hg hl hp hn
  have e1 : fitV (Nat.gcd a.natAbs b.natAbs : Nat) = (Nat.gcd a.natAbs b.natAbs : Nat) := by unfold fitV; rw [if_pos hg]
  have e2 : fitV (Nat.lcm a.natAbs b.natAbs : Nat) = (Nat.lcm a.natAbs b.natAbs : Nat) := by unfold fitV; rw [if_pos hl]
  have e3 : fitV (a * b) = a * b := by unfold fitV; rw [if_pos hp]
  rw [e3] at hn
  rw [e1, e2, e3]
  have m : ((Nat.gcd a.natAbs b.natAbs : Nat) : Int) * ((Nat.lcm a.natAbs b.natAbs : Nat) : Int) = ((a * b).natAbs : Nat) := by
    rw [← Int.natCast_mul, Nat.gcd_mul_lcm, Int.natAbs_mul]
  rw [m]
  have hp' := (fits_iff _).1 hp
  have k : fits ((a * b).natAbs : Nat) = true := fits_yes (by omega) (by omega)
  refine ⟨k, ?_⟩
  unfold fitV
  rw [if_pos k]
  omega

set_option maxHeartbeats 2000000 in
theorem fac_ff (pi : Bool) (a b g l p : Int) (w : World)
    (CG : Hid (∀ W, Calls Try.prog 21 #[.int .i64 a, .int .i64 b] W fun e w' => e = .returned (.tuple #[.int .i64 g, .bool false]) ∧ ∃ n, w' = W.drewN n))
    (CL : Hid (∀ W, Calls Try.prog 23 #[.int .i64 a, .int .i64 b] W fun e w' => e = .returned (.tuple #[.int .i64 l, .bool false]) ∧ ∃ n, w' = W.drewN n))
    (CP : Hid (∀ W, Calls Try.prog 14 #[.int .i64 a, .int .i64 b] W fun e w' => e = .returned (.tuple #[.int .i64 p, .bool pi]) ∧ Below W.heap.size W w')) :
    Calls Try.prog 8 #[.int .i64 a, .int .i64 b] w fun e w' => e = .returned (.bool true) ∧ Below w.heap.size w w' := by
  skip
  all_goals
    go_enter Try.func8, Try.ntmps8
    go_wp2_with fail
    refine (CG.out _).mono ?_
    rintro e w1 ⟨rfl, n1, rfl⟩
    go_wp2_with fail
    refine (CL.out _).mono ?_
    rintro e w1 ⟨rfl, n2, rfl⟩
    go_wp2_with fail
    refine (CP.out _).mono ?_
    rintro e w1 ⟨rfl, hb1⟩
    go_wp2_with fail
    refine (alive_any _).mono ?_
    rintro e w3 ⟨rfl, hb3⟩
    go_wp2
    go_ret
    exact ⟨rfl, ((below_drewN (Below.refl _ _) _).trans hb1).trans (hb3.mono hb1.size)⟩

set_option maxHeartbeats 4000000 in
theorem fac_ft (pi : Bool) (a b g l p : Int) (w : World)
    (CG : Hid (∀ W, Calls Try.prog 21 #[.int .i64 a, .int .i64 b] W fun e w' => e = .returned (.tuple #[.int .i64 g, .bool false]) ∧ ∃ n, w' = W.drewN n))
    (CL : Hid (∀ W, Calls Try.prog 23 #[.int .i64 a, .int .i64 b] W fun e w' => e = .returned (.tuple #[.int .i64 l, .bool true]) ∧ ∃ n, w' = W.drewN n))
    (CP : Hid (∀ W, Calls Try.prog 14 #[.int .i64 a, .int .i64 b] W fun e w' => e = .returned (.tuple #[.int .i64 p, .bool pi]) ∧ Below W.heap.size W w'))
    (f1 : 0 ≤ l) (f2 : l % a = 0) (f3 : l % b = 0) :
    Calls Try.prog 8 #[.int .i64 a, .int .i64 b] w fun e w' => e = .returned (.bool true) ∧ Below w.heap.size w w' := by
  by_cases az : a = 0 <;> by_cases bz : b = 0
  all_goals (try subst az)
  all_goals (try subst bz)
  all_goals
    go_enter Try.func8, Try.ntmps8
    go_wp2_with fail
    refine (CG.out _).mono ?_
    rintro e w1 ⟨rfl, n1, rfl⟩
    go_wp2_with fail
    refine (CL.out _).mono ?_
    rintro e w1 ⟨rfl, n2, rfl⟩
    go_wp2_with fail
    refine (CP.out _).mono ?_
    rintro e w1 ⟨rfl, hb1⟩
    go_wp2_with fail
    refine (alive_any _).mono ?_
    rintro e w3 ⟨rfl, hb3⟩
    go_wp2
    go_ret
    exact ⟨rfl, ((below_drewN (Below.refl _ _) _).trans hb1).trans (hb3.mono hb1.size)⟩

set_option maxHeartbeats 4000000 in
theorem fac_tf (pi : Bool) (a b g l p : Int) (w : World)
    (CG : Hid (∀ W, Calls Try.prog 21 #[.int .i64 a, .int .i64 b] W fun e w' => e = .returned (.tuple #[.int .i64 g, .bool true]) ∧ ∃ n, w' = W.drewN n))
    (CL : Hid (∀ W, Calls Try.prog 23 #[.int .i64 a, .int .i64 b] W fun e w' => e = .returned (.tuple #[.int .i64 l, .bool false]) ∧ ∃ n, w' = W.drewN n))
    (CP : Hid (∀ W, Calls Try.prog 14 #[.int .i64 a, .int .i64 b] W fun e w' => e = .returned (.tuple #[.int .i64 p, .bool pi]) ∧ Below W.heap.size W w'))
    (f1 : 0 < g) (f2 : a.tmod g = 0) (f3 : b.tmod g = 0) :
    Calls Try.prog 8 #[.int .i64 a, .int .i64 b] w fun e w' => e = .returned (.bool true) ∧ Below w.heap.size w w' := by
  skip
  all_goals
    go_enter Try.func8, Try.ntmps8
    go_wp2_with fail
    refine (CG.out _).mono ?_
    rintro e w1 ⟨rfl, n1, rfl⟩
    go_wp2_with fail
    refine (CL.out _).mono ?_
    rintro e w1 ⟨rfl, n2, rfl⟩
    go_wp2_with fail
    refine (CP.out _).mono ?_
    rintro e w1 ⟨rfl, hb1⟩
    go_wp2_with fail
    refine (alive_any _).mono ?_
    rintro e w3 ⟨rfl, hb3⟩
    go_wp2
    go_ret
    exact ⟨rfl, ((below_drewN (Below.refl _ _) _).trans hb1).trans (hb3.mono hb1.size)⟩

set_option maxHeartbeats 4000000 in
theorem fac_zf (pi : Bool) (l p : Int) (w : World)
    (CG : Hid (∀ W, Calls Try.prog 21 #[.int .i64 0, .int .i64 0] W fun e w' => e = .returned (.tuple #[.int .i64 0, .bool true]) ∧ ∃ n, w' = W.drewN n))
    (CL : Hid (∀ W, Calls Try.prog 23 #[.int .i64 0, .int .i64 0] W fun e w' => e = .returned (.tuple #[.int .i64 l, .bool false]) ∧ ∃ n, w' = W.drewN n))
    (CP : Hid (∀ W, Calls Try.prog 14 #[.int .i64 0, .int .i64 0] W fun e w' => e = .returned (.tuple #[.int .i64 p, .bool pi]) ∧ Below W.heap.size W w')) :
    Calls Try.prog 8 #[.int .i64 0, .int .i64 0] w fun e w' => e = .returned (.bool true) ∧ Below w.heap.size w w' := by
  skip
  all_goals
    go_enter Try.func8, Try.ntmps8
    go_wp2_with fail
    refine (CG.out _).mono ?_
    rintro e w1 ⟨rfl, n1, rfl⟩
    go_wp2_with fail
    refine (CL.out _).mono ?_
    rintro e w1 ⟨rfl, n2, rfl⟩
    go_wp2_with fail
    refine (CP.out _).mono ?_
    rintro e w1 ⟨rfl, hb1⟩
    go_wp2_with fail
    refine (alive_any _).mono ?_
    rintro e w3 ⟨rfl, hb3⟩
    go_wp2
    go_ret
    exact ⟨rfl, ((below_drewN (Below.refl _ _) _).trans hb1).trans (hb3.mono hb1.size)⟩

end Go.Proofs.Ythpjcchmobekmaa
