/- The walks of the laws on steps, outputs and choices: each returns true, and only new memory is touched. -/
import Derived.Test.YtgdbnpnlejgfgaaWalkB
namespace Go.Proofs.Ytgdbnpnlejgfgaa
open Go.RowKit

theorem nexts_walk (s : Nat) (n : Int) (w : World) :
    Calls Try.prog 3 #[.int .u64 s, .int .i64 n] w fun e w' => e = .returned (.bool true) ∧ Below w.heap.size w w' := by
  have C1 := Lib.hid (next_any s)
  have C2 := Lib.hid (rnext_any s)
  have C3 := Lib.hid (below_any s n)
  have C4 := Lib.hid (rbelow_any s n)
  have ho := outR_lt (stepR s)
  generalize outR (stepR s) = o at *
  generalize stepR s = t at *
  generalize belV s n = v at *
  generalize belS s n = u at *
  go_enter Try.func3, Try.ntmps3
  go_wp2_with fail
  refine (C1.out _).mono ?_
  rintro e w1 ⟨rfl, rfl⟩
  go_wp2_with fail
  refine (C2.out _).mono ?_
  rintro e w1 ⟨rfl, rfl⟩
  go_wp2_with fail
  refine (C3.out _).mono ?_
  rintro e w1 ⟨rfl, rfl⟩
  go_wp2_with fail
  refine (C4.out _).mono ?_
  rintro e w1 ⟨rfl, rfl⟩
  go_wp2_with fail
  refine (alive_any _).mono ?_
  rintro e w1 ⟨rfl, hb⟩
  go_wp2
  go_ret
  exact ⟨rfl, hb⟩

theorem steps_walk (s : Nat) (k : Int) (hk : -9223372036854775808 ≤ k ∧ k ≤ 9223372036854775807) (w : World) :
    Calls Try.prog 4 #[.int .u64 s, .int .i64 k] w fun e w' => e = .returned (.bool true) ∧ Below w.heap.size w w' := by
  have C1 := Lib.hid (steps_any s k hk)
  have C2 := Lib.hid (rsteps_any s k hk)
  generalize iterF stepR (min k 1048576).toNat s = m at *
  by_cases h5 : 5000 < k
  · go_enter Try.func4, Try.ntmps4
    go_wp2_with fail
    refine (alive_any _).mono ?_
    rintro e w1 ⟨rfl, hb⟩
    go_wp2
    go_ret
    exact ⟨rfl, hb⟩
  · go_enter Try.func4, Try.ntmps4
    go_wp2_with fail
    refine (C1.out _).mono ?_
    rintro e w1 ⟨n1, rfl, e1, rfl⟩
    obtain rfl : n1 = m := e1.out
    go_wp2_with fail
    refine (C2.out _).mono ?_
    rintro e w1 ⟨n2, rfl, e2, rfl⟩
    obtain rfl : n2 = n1 := e2.out
    go_wp2_with fail
    refine (alive_any _).mono ?_
    rintro e w1 ⟨rfl, hb⟩
    go_wp2
    go_ret
    exact ⟨rfl, hb⟩

theorem chooses_walk (s : Nat) (A : Option Addr) (zs : List Int) (c : Nat) (w : World) (hr : ReadsI w A zs) (hl : zs.length ≤ 9223372036854775807) :
    Calls Try.prog 5 #[.int .u64 s, .slice A zs.length c] w fun e w' => e = .returned (.bool true) ∧ Below w.heap.size w w' := by
  have C1 := Lib.hid (choose_any s A zs c w hr hl)
  have C2 := Lib.hid (rchoose_any s A zs c w hr hl)
  clear hr
  generalize chV s zs = v at *
  generalize chS s zs = t at *
  generalize zs.length = n at *
  by_cases h80 : (80 : Int) < n
  · go_enter Try.func5, Try.ntmps5
    go_wp2_with fail
    refine (alive_any _).mono ?_
    rintro e w1 ⟨rfl, hb⟩
    go_wp2
    go_ret
    exact ⟨rfl, hb⟩
  · go_enter Try.func5, Try.ntmps5
    go_wp2_with fail
    refine C1.out.mono ?_
    rintro e w1 ⟨rfl, rfl⟩
    go_wp2_with fail
    refine C2.out.mono ?_
    rintro e w1 ⟨rfl, rfl⟩
    go_wp2_with fail
    refine (alive_any _).mono ?_
    rintro e w1 ⟨rfl, hb⟩
    go_wp2
    go_ret
    exact ⟨rfl, hb⟩

theorem composes_walk (s : Nat) (k m : Int) (hk : -9223372036854775808 ≤ k ∧ k ≤ 9223372036854775807) (hm : -9223372036854775808 ≤ m ∧ m ≤ 9223372036854775807) (w : World) :
    Calls Try.prog 7 #[.int .u64 s, .int .i64 k, .int .i64 m] w fun e w' => e = .returned (.bool true) ∧ Below w.heap.size w w' := by
  by_cases hok : 0 ≤ k ∧ 0 ≤ m ∧ k ≤ 3000 ∧ m ≤ 3000
  · obtain ⟨a1, a2, a3, a4⟩ := hok
    have C1 := Lib.hid (steps_any s k hk)
    have HA : Hid (∀ n : Nat, n = iterF stepR (min k 1048576).toNat s → iterF stepR (min m 1048576).toNat n = iterF stepR (min (k + m) 1048576).toNat s ∧ stepR n = iterF stepR (min (k + 1) 1048576).toNat s) := by
      intro n h
      rw [h, ← iterF_add, ← iterF_succ stepR]
      have e1 : (min k 1048576).toNat + (min m 1048576).toNat = (min (k + m) 1048576).toNat := by omega
      have e2 : (min k 1048576).toNat + 1 = (min (k + 1) 1048576).toNat := by omega
      rw [e1, e2]
      exact ⟨rfl, rfl⟩
    have C4 := Lib.hid (steps_any s (k + m) (by omega))
    have C5 := Lib.hid (steps_any s (k + 1) (by omega))
    generalize iterF stepR (min k 1048576).toNat s = r1 at *
    generalize iterF stepR (min (k + m) 1048576).toNat s = r4 at *
    generalize iterF stepR (min (k + 1) 1048576).toNat s = r5 at *
    go_enter Try.func7, Try.ntmps7
    go_wp2_with fail
    refine (C1.out _).mono ?_
    rintro e w1 ⟨n1, rfl, e1, rfl⟩
    obtain ⟨q1, q2⟩ := HA.out n1 e1.out
    have C2 := Lib.hid (next_any n1)
    have C3 := below_any n1 (m + 1)
    rw [(belV_yes (s := n1) (n := m + 1) (by omega) (by omega)).2] at C3
    have C3 := Lib.hid C3
    have C6 := Lib.hid (steps_any n1 m hm)
    rw [q1] at C6
    rw [q2] at C2 C3
    generalize belV n1 (m + 1) = bv at *
    generalize outR r5 = o at *
    clear q1 q2 HA
    go_wp2_with fail
    refine (C2.out _).mono ?_
    rintro e w1 ⟨rfl, rfl⟩
    go_wp2_with fail
    refine (C3.out _).mono ?_
    rintro e w1 ⟨rfl, rfl⟩
    go_wp2_with fail
    refine (C6.out _).mono ?_
    rintro e w1 ⟨n6, rfl, e6, rfl⟩
    obtain rfl : n6 = r4 := e6.out
    go_wp2_with fail
    refine (C4.out _).mono ?_
    rintro e w1 ⟨n4, rfl, e4, rfl⟩
    obtain rfl : n4 = n6 := e4.out
    go_wp2_with fail
    refine (C5.out _).mono ?_
    rintro e w1 ⟨n5, rfl, e5, rfl⟩
    obtain rfl : n5 = r5 := e5.out
    go_wp2_with fail
    refine (alive_any _).mono ?_
    rintro e w1 ⟨rfl, hb⟩
    go_wp2
    go_ret
    exact ⟨rfl, hb⟩
  · have hcase : k < 0 ∨ (¬ k < 0 ∧ m < 0) ∨ (¬ k < 0 ∧ ¬ m < 0 ∧ 3000 < k) ∨ (¬ k < 0 ∧ ¬ m < 0 ∧ ¬ 3000 < k ∧ 3000 < m) := by omega
    clear hok
    rcases hcase with h1 | ⟨h1, h2⟩ | ⟨h1, h2, h3⟩ | ⟨h1, h2, h3, h4⟩
    all_goals
      go_enter Try.func7, Try.ntmps7
      go_wp2_with fail
      refine (alive_any _).mono ?_
      rintro e w1 ⟨rfl, hb⟩
      go_wp2
      go_ret
      exact ⟨rfl, hb⟩
end Go.Proofs.Ytgdbnpnlejgfgaa
