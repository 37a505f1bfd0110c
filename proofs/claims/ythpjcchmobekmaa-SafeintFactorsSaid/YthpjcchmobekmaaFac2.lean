/- The law on divisors and multiples: the cases where the product is no int64, or the least one. -/
import Derived.Test.YthpjcchmobekmaaLawA
namespace Go.Proofs.Ythpjcchmobekmaa
open Go.RowKit

set_option maxHeartbeats 4000000 in
theorem fac_no (a b g l p : Int) (w : World)
    (CG : Hid (∀ W, Calls Try.prog 21 #[.int .i64 a, .int .i64 b] W fun e w' => e = .returned (.tuple #[.int .i64 g, .bool true]) ∧ ∃ n, w' = W.drewN n))
    (CL : Hid (∀ W, Calls Try.prog 23 #[.int .i64 a, .int .i64 b] W fun e w' => e = .returned (.tuple #[.int .i64 l, .bool true]) ∧ ∃ n, w' = W.drewN n))
    (CP : Hid (∀ W, Calls Try.prog 14 #[.int .i64 a, .int .i64 b] W fun e w' => e = .returned (.tuple #[.int .i64 p, .bool false]) ∧ Below W.heap.size W w'))
    (f1 : 0 < g) (f2 : a.tmod g = 0) (f3 : b.tmod g = 0) (f4 : 0 ≤ l) (f5 : l % a = 0) (f6 : l % b = 0) :
    Calls Try.prog 8 #[.int .i64 a, .int .i64 b] w fun e w' => e = .returned (.bool true) ∧ Below w.heap.size w w' := by
  by_cases az : a = 0 <;> by_cases bz : b = 0
  all_goals (try subst az)
  all_goals (try subst bz)
  all_goals
    go_enter Try.func8, Try.ntmps8
    go_wp2_with fail
    refine (CG.out _).mono ?_
    rintro e w1 ⟨rfl, n1, rfl⟩
    go_wp2_with fail
    refine (CL.out _).mono ?_
    rintro e w1 ⟨rfl, n2, rfl⟩
    go_wp2_with fail
    refine (CP.out _).mono ?_
    rintro e w1 ⟨rfl, hb1⟩
    go_wp2_with fail
    refine (alive_any _).mono ?_
    rintro e w3 ⟨rfl, hb3⟩
    go_wp2
    go_ret
    exact ⟨rfl, ((below_drewN (Below.refl _ _) _).trans hb1).trans (hb3.mono hb1.size)⟩

set_option maxHeartbeats 4000000 in
theorem fac_low (a b g l p : Int) (w : World)
    (CG : Hid (∀ W, Calls Try.prog 21 #[.int .i64 a, .int .i64 b] W fun e w' => e = .returned (.tuple #[.int .i64 g, .bool true]) ∧ ∃ n, w' = W.drewN n))
    (CL : Hid (∀ W, Calls Try.prog 23 #[.int .i64 a, .int .i64 b] W fun e w' => e = .returned (.tuple #[.int .i64 l, .bool true]) ∧ ∃ n, w' = W.drewN n))
    (CP : Hid (∀ W, Calls Try.prog 14 #[.int .i64 a, .int .i64 b] W fun e w' => e = .returned (.tuple #[.int .i64 p, .bool true]) ∧ Below W.heap.size W w'))
    (f1 : 0 < g) (f2 : a.tmod g = 0) (f3 : b.tmod g = 0) (f4 : 0 ≤ l) (f5 : l % a = 0) (f6 : l % b = 0) (f7 : ¬ -9223372036854775808 < p) :
    Calls Try.prog 8 #[.int .i64 a, .int .i64 b] w fun e w' => e = .returned (.bool true) ∧ Below w.heap.size w w' := by
  by_cases az : a = 0 <;> by_cases bz : b = 0
  all_goals (try subst az)
  all_goals (try subst bz)
  all_goals
    go_enter Try.func8, Try.ntmps8
    go_wp2_with fail
    refine (CG.out _).mono ?_
    rintro e w1 ⟨rfl, n1, rfl⟩
    go_wp2_with fail
    refine (CL.out _).mono ?_
    rintro e w1 ⟨rfl, n2, rfl⟩
    go_wp2_with fail
    refine (CP.out _).mono ?_
    rintro e w1 ⟨rfl, hb1⟩
    go_wp2_with fail
    refine (alive_any _).mono ?_
    rintro e w3 ⟨rfl, hb3⟩
    go_wp2
    go_ret
    exact ⟨rfl, ((below_drewN (Below.refl _ _) _).trans hb1).trans (hb3.mono hb1.size)⟩

set_option maxHeartbeats 4000000 in
theorem fac_z1 (p : Int) (w : World)
    (CG : Hid (∀ W, Calls Try.prog 21 #[.int .i64 0, .int .i64 0] W fun e w' => e = .returned (.tuple #[.int .i64 0, .bool true]) ∧ ∃ n, w' = W.drewN n))
    (CL : Hid (∀ W, Calls Try.prog 23 #[.int .i64 0, .int .i64 0] W fun e w' => e = .returned (.tuple #[.int .i64 0, .bool true]) ∧ ∃ n, w' = W.drewN n))
    (CP : Hid (∀ W, Calls Try.prog 14 #[.int .i64 0, .int .i64 0] W fun e w' => e = .returned (.tuple #[.int .i64 p, .bool false]) ∧ Below W.heap.size W w')) :
    Calls Try.prog 8 #[.int .i64 0, .int .i64 0] w fun e w' => e = .returned (.bool true) ∧ Below w.heap.size w w' := by
  skip
  all_goals
    go_enter Try.func8, Try.ntmps8
    go_wp2_with fail
    refine (CG.out _).mono ?_
    rintro e w1 ⟨rfl, n1, rfl⟩
    go_wp2_with fail
    refine (CL.out _).mono ?_
    rintro e w1 ⟨rfl, n2, rfl⟩
    go_wp2_with fail
    refine (CP.out _).mono ?_
    rintro e w1 ⟨rfl, hb1⟩
    go_wp2_with fail
    refine (alive_any _).mono ?_
    rintro e w3 ⟨rfl, hb3⟩
    go_wp2
    go_ret
    exact ⟨rfl, ((below_drewN (Below.refl _ _) _).trans hb1).trans (hb3.mono hb1.size)⟩

set_option maxHeartbeats 4000000 in
theorem fac_z2 (p : Int) (w : World)
    (CG : Hid (∀ W, Calls Try.prog 21 #[.int .i64 0, .int .i64 0] W fun e w' => e = .returned (.tuple #[.int .i64 0, .bool true]) ∧ ∃ n, w' = W.drewN n))
    (CL : Hid (∀ W, Calls Try.prog 23 #[.int .i64 0, .int .i64 0] W fun e w' => e = .returned (.tuple #[.int .i64 0, .bool true]) ∧ ∃ n, w' = W.drewN n))
    (CP : Hid (∀ W, Calls Try.prog 14 #[.int .i64 0, .int .i64 0] W fun e w' => e = .returned (.tuple #[.int .i64 p, .bool true]) ∧ Below W.heap.size W w')) (f7 : ¬ -9223372036854775808 < p) :
    Calls Try.prog 8 #[.int .i64 0, .int .i64 0] w fun e w' => e = .returned (.bool true) ∧ Below w.heap.size w w' := by
  skip
  all_goals
    go_enter Try.func8, Try.ntmps8
    go_wp2_with fail
    refine (CG.out _).mono ?_
    rintro e w1 ⟨rfl, n1, rfl⟩
    go_wp2_with fail
    refine (CL.out _).mono ?_
    rintro e w1 ⟨rfl, n2, rfl⟩
    go_wp2_with fail
    refine (CP.out _).mono ?_
    rintro e w1 ⟨rfl, hb1⟩
    go_wp2_with fail
    refine (alive_any _).mono ?_
    rintro e w3 ⟨rfl, hb3⟩
    go_wp2
    go_ret
    exact ⟨rfl, ((below_drewN (Below.refl _ _) _).trans hb1).trans (hb3.mono hb1.size)⟩

end Go.Proofs.Ythpjcchmobekmaa
