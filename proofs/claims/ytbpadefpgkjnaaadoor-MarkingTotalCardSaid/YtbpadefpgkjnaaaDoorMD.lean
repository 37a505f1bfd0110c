/- Contracts: totals, the lexicographic order, unit markings, by the program and by the reference. -/
import Derived.Test.YtbpadefpgkjnaaaDoorMC
namespace Go.Proofs.YtbpadefpgkjnaaaDoor
open Go.RowKit

theorem total_len {a : List Int} (h : ¬ a.length ≤ 24) : totalL a = -1 := if_neg fun e => h e.1
theorem total_nat {a : List Int} (h : natL a = false) : totalL a = -1 := if_neg fun e => by rw [h] at e; exact absurd e.2 (by decide)
theorem total_sum {a : List Int} (h1 : a.length ≤ 24) (h2 : natL a = true) : totalL a = sumTo a a.length := if_pos ⟨h1, h2⟩
set_option maxHeartbeats 1000000 in
theorem total_law (A : Option Addr) (a : List Int) (ca : Nat) (w : World) (ra : ReadsV w A a) (hl : a.length * 8 ≤ 140737488351232) :
    Calls Tryd.prog 22 #[.slice A a.length ca] w fun e w' => e = .returned (.int .i64 (totalL a)) ∧ w = w' := by
  have V := Lib.hid (valid_law A a ca w ra hl)
  by_cases h1 : a.length ≤ 24
  · cases h2 : natL a
    · rw [total_nat h2]
      rw [h2] at V
      clear ra h2
      generalize a.length = n at *
      have g1 : ¬ (24 : Int) < n := by omega
      have g2 : (n : Int) ≤ 24 := by omega
      go_enter Tryd.func22, Tryd.ntmps22
      go_wp2_with fail
      refine V.out.mono ?_
      rintro e w' ⟨rfl, rfl⟩
      go_wp2
      go_ret
      exact ⟨rfl, rfl⟩
    · rw [total_sum h1 h2]
      rw [h2] at V
      have SB := Lib.hid (sumTo_bound a h2)
      have RA := Lib.hid ra
      have NB := Lib.hid (allB_iff.1 h2)
      clear ra h2
      generalize hn : a.length = n at *
      have HN := Lib.hid hn
      clear hn
      have g1 : ¬ (24 : Int) < n := by omega
      have g2 : (n : Int) ≤ 24 := by omega
      go_enter Tryd.func22, Tryd.ntmps22
      go_wp2_with fail
      refine V.out.mono ?_
      rintro e w' ⟨rfl, rfl⟩
      go_wp2_with fail
      go_loop [3, 17] (fun s q => ∃ k : Nat, k ≤ n ∧ q = .int .i64 k ∧ s = .int .i64 (sumTo a k)) (fun _ q => n - (intOf q).toNat)
      case atStart => exact ⟨0, by omega, rfl, rfl⟩
      case round =>
        obtain ⟨k, hk, rfl, rfl⟩ := hrel
        by_cases hlt : k < n
        · obtain ⟨b, off, rfl, hcx⟩ := at_of_reads RA.out k (by rw [HN.out]; exact hlt)
          have s1 := SB.out k (by omega)
          have s2 := SB.out (k + 1) (by omega)
          have E : Hid (sumTo a (k + 1) = sumTo a k + at0 a k) := rfl
          rw [E.out] at s2
          generalize at0 a k = z at *
          generalize sumTo a k = s at *
          have b5 : wrap64 (s + z) = s + z := by unfold wrap64; omega
          go_wp2
          go_round
          case rel => exact ⟨k + 1, by omega, by go_num, by rw [E.out]⟩
          case measure => simp [intOf]; omega
        · obtain rfl : k = n := by omega
          go_wp2
          go_ret
          exact ⟨rfl, rfl⟩
  · rw [total_len h1]
    clear ra V
    generalize a.length = n at *
    have g1 : (24 : Int) < n := by omega
    go_enter Tryd.func22, Tryd.ntmps22
    go_wp2
    go_ret
    exact ⟨rfl, rfl⟩
set_option maxHeartbeats 1000000 in
theorem rtotal_law (A : Option Addr) (a : List Int) (ca : Nat) (w : World) (ra : ReadsV w A a) (hl : a.length * 8 ≤ 140737488351232) :
    Calls Tryd.prog 23 #[.slice A a.length ca] w fun e w' => e = .returned (.int .i64 (totalL a)) ∧ w = w' := by
  have V := Lib.hid (rvalid_law A a ca w ra hl)
  by_cases h1 : a.length ≤ 24
  · cases h2 : natL a
    · rw [total_nat h2]
      rw [h2] at V
      clear ra h2
      generalize a.length = n at *
      have g1 : ¬ (24 : Int) < n := by omega
      have g2 : (n : Int) ≤ 24 := by omega
      go_enter Tryd.func23, Tryd.ntmps23
      go_wp2_with fail
      refine V.out.mono ?_
      rintro e w' ⟨rfl, rfl⟩
      go_wp2
      go_ret
      exact ⟨rfl, rfl⟩
    · rw [total_sum h1 h2]
      rw [h2] at V
      have SB := Lib.hid (sumTo_bound a h2)
      have RA := Lib.hid ra
      have NB := Lib.hid (allB_iff.1 h2)
      clear ra h2
      generalize hn : a.length = n at *
      have HN := Lib.hid hn
      clear hn
      have g1 : ¬ (24 : Int) < n := by omega
      have g2 : (n : Int) ≤ 24 := by omega
      go_enter Tryd.func23, Tryd.ntmps23
      go_wp2_with fail
      refine V.out.mono ?_
      rintro e w' ⟨rfl, rfl⟩
      go_wp2_with fail
      go_loop [3, 4] (fun s q => ∃ k : Nat, k ≤ n ∧ q = .int .i64 k ∧ s = .int .i64 (sumTo a k)) (fun _ q => n - (intOf q).toNat)
      case atStart => exact ⟨0, by omega, rfl, rfl⟩
      case round =>
        obtain ⟨k, hk, rfl, rfl⟩ := hrel
        by_cases hlt : k < n
        · obtain ⟨b, off, rfl, hcx⟩ := at_of_reads RA.out k (by rw [HN.out]; exact hlt)
          have s1 := SB.out k (by omega)
          have s2 := SB.out (k + 1) (by omega)
          have E : Hid (sumTo a (k + 1) = sumTo a k + at0 a k) := rfl
          rw [E.out] at s2
          generalize at0 a k = z at *
          generalize sumTo a k = s at *
          have b5 : wrap64 (s + z) = s + z := by unfold wrap64; omega
          go_wp2
          go_round
          case rel => exact ⟨k + 1, by omega, by go_num, by rw [E.out]⟩
          case measure => simp [intOf]; omega
        · obtain rfl : k = n := by omega
          go_wp2
          go_ret
          exact ⟨rfl, rfl⟩
  · rw [total_len h1]
    clear ra
    generalize natL a = v at *
    generalize a.length = n at *
    have g1 : (24 : Int) < n := by omega
    cases v
    all_goals
      go_enter Tryd.func23, Tryd.ntmps23
      go_wp2_with fail
      refine V.out.mono ?_
      rintro e w' ⟨rfl, rfl⟩
      go_wp2
      go_ret
      exact ⟨rfl, rfl⟩
end Go.Proofs.YtbpadefpgkjnaaaDoor
