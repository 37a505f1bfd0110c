/- Contracts of the steps and outputs of the random numbers and of their references. -/
import Derived.Test.YtgdbnpnlejgfgaaRows
import Derived.Test.YtgdbnpnlejgfgaaMath
import Derived.WalkKit
import Derived.WalkLawsBesides
import Derived.Lib.Hide
import Derived.Laws.BitsAllLaws
import Derived.Laws.Bits64b
namespace Go.Proofs.Ytgdbnpnlejgfgaa
open Go.RowKit

theorem ret_i {a b : Int} (h : a = b) : Ending.returned (.int .i64 a) = .returned (.int .i64 b) := by rw [h]
theorem ret_u {a b : Int} (h : a = b) : Ending.returned (.int .u64 a) = .returned (.int .u64 b) := by rw [h]
theorem ret_uu {a b c d : Int} (h : a = b) (k : c = d) : Ending.returned (.tuple #[.int .u64 a, .int .u64 c]) = .returned (.tuple #[.int .u64 b, .int .u64 d]) := by rw [h, k]
theorem ret_iu {a b c d : Int} (h : a = b) (k : c = d) : Ending.returned (.tuple #[.int .i64 a, .int .u64 c]) = .returned (.tuple #[.int .i64 b, .int .u64 d]) := by rw [h, k]

theorem step_val (s : Nat) : IntKind.u64.wrap (IntKind.u64.wrap ((s : Int) * 6364136223846793005) + 1442695040888963407) = (stepR s : Int) := by
  rw [IntKind.wrap_u64, IntKind.wrap_u64]; unfold stepR; omega

theorem step_any (s : Nat) (w : World) :
    Calls Try.prog 21 #[.int .u64 s] w fun e w' => e = .returned (.int .u64 (stepR s)) ∧ w = w' := by
  go_enter Try.func21, Try.ntmps21
  go_wp2
  go_ret
  exact ⟨ret_u (step_val s), rfl⟩
theorem rstep_any (s : Nat) (w : World) :
    Calls Try.prog 23 #[.int .u64 s] w fun e w' => e = .returned (.int .u64 (stepR s)) ∧ w = w' := by
  go_enter Try.func23, Try.ntmps23
  go_wp2
  go_ret
  exact ⟨ret_u (step_val s), rfl⟩

theorem out_val (s : Nat) (hs : s < 18446744073709551616) :
    bits .and .u64 (bits .xor .u64 ((s : Int) / 8589934592) ((s : Int) / 32768)) 2147483647 = (outR s : Int) := by
  have e1 : (s : Int) / 8589934592 = ((s / 8589934592 : Nat) : Int) := by omega
  have e2 : (s : Int) / 32768 = ((s / 32768 : Nat) : Int) := by omega
  have b1 : s / 8589934592 < 2 ^ 49 := by omega
  have b2 : s / 32768 < 2 ^ 49 := by omega
  rw [e1, e2, bits_xor_u64_nat _ _ (by omega) (by omega)]
  have hx : s / 8589934592 ^^^ s / 32768 < 2 ^ 49 := Nat.xor_lt_two_pow b1 b2
  have h := bits_and_u64_nat (s / 8589934592 ^^^ s / 32768) 2147483647 (by omega) (by omega)
  have m : (s / 8589934592 ^^^ s / 32768) &&& 2147483647 = (s / 8589934592 ^^^ s / 32768) % 2 ^ 31 := Nat.and_two_pow_sub_one_eq_mod _ 31
  rw [m, Nat.xor_mod_two_pow] at h
  exact h

theorem next_any (s : Nat) (w : World) :
    Calls Try.prog 9 #[.int .u64 s] w fun e w' => e = .returned (.tuple #[.int .u64 (outR (stepR s)), .int .u64 (stepR s)]) ∧ w = w' := by
  have hs := stepR_lt s
  go_enter Try.func9, Try.ntmps9
  go_wp2_with fail
  refine (step_any s _).mono ?_
  rintro e w1 ⟨rfl, rfl⟩
  go_wp2
  go_ret2
  exact ⟨ret_uu (out_val _ hs) rfl, rfl⟩

theorem output_any (s : Nat) (hs : s < 18446744073709551616) (w : World) :
    Calls Try.prog 22 #[.int .u64 s] w fun e w' => e = .returned (.int .i64 (outR s)) ∧ w = w' := by
  have ha : s / 8589934592 % 2147483648 < 2147483648 := Nat.mod_lt _ (by decide)
  have hb : s / 32768 % 2147483648 < 2147483648 := Nat.mod_lt _ (by decide)
  have HO : Hid (outR s = xorR (s / 8589934592 % 2147483648) (s / 32768 % 2147483648)) := rfl
  have HA : Hid (((s / 8589934592 % 2147483648 : Nat) : Int) = (s : Int) / 8589934592 % 2147483648) := by show _ = _; omega
  have HB : Hid (((s / 32768 % 2147483648 : Nat) : Int) = (s : Int) / 32768 % 2147483648) := by show _ = _; omega
  generalize s / 8589934592 % 2147483648 = a at *
  generalize s / 32768 % 2147483648 = b at *
  go_enter Try.func22, Try.ntmps22
  go_wp2
  go_loop [3, 4, 5, 6, 7] (fun x y m v c => ∃ i p q n u : Nat, i ≤ 31 ∧ x = .int .u64 p ∧ y = .int .u64 q ∧ m = .int .i64 n ∧ v = .int .i64 u ∧ c = .int .i64 i ∧ OutInv a b i p q n u)
    (fun _ _ _ _ c => 31 - (intOf c).toNat)
  case atStart =>
    have h1 := HA.out
    have h2 := HB.out
    exact ⟨0, a, b, 0, 1, by omega, by rw [h1], by rw [h2], rfl, rfl, rfl, OutInv.start a b⟩
  case round =>
    obtain ⟨i, p, q, n, u, hi, rfl, rfl, rfl, rfl, rfl, hinv⟩ := hrel
    obtain ⟨l1, l2, l3, l4⟩ := hinv.le hi ha hb
    have HI := Lib.hid hinv
    clear hinv
    by_cases hlt : i < 31
    · have l5 : 2 * u ≤ 2147483648 := by
        have h3 : 2 ^ (i + 1) ≤ 2 ^ 31 := Nat.pow_le_pow_right (by decide) hlt
        have h4 : (2 : Nat) ^ 31 = 2147483648 := by decide
        have h5 := HI.out.2.2.2
        rw [Nat.pow_succ] at h3
        omega
      go_wp2
      · have ne : ¬ p % 2 = q % 2 := by have := WalkArith.int_ne' (by assumption : ((p : Int) % 2 != (q : Int) % 2) = true); omega
        go_round
        case rel => exact ⟨i + 1, p / 2, q / 2, n + u, 2 * u, by omega, by go_num, by go_num, by go_num, by go_num, by go_num, HI.out.other ne⟩
        case measure => simp [intOf]; omega
      · have eq : p % 2 = q % 2 := by have := WalkArith.int_eq' (by assumption : ((p : Int) % 2 != (q : Int) % 2) = false); omega
        go_round
        case rel => exact ⟨i + 1, p / 2, q / 2, n, 2 * u, by omega, by go_num, by go_num, rfl, by go_num, by go_num, HI.out.same eq⟩
        case measure => simp [intOf]; omega
    · go_wp2
      go_ret
      obtain rfl : i = 31 := by omega
      refine ⟨ret_i ?_, rfl⟩
      rw [HO.out, HI.out.done ha hb]

theorem step_ex (s : Nat) (w : World) :
    Calls Try.prog 21 #[.int .u64 s] w fun e w' => ∃ n : Nat, e = .returned (.int .u64 n) ∧ Hid (n = stepR s) ∧ w = w' :=
  (step_any s w).mono fun _ _ ⟨he, hw⟩ => ⟨_, he, rfl, hw⟩
theorem rstep_ex (s : Nat) (w : World) :
    Calls Try.prog 23 #[.int .u64 s] w fun e w' => ∃ n : Nat, e = .returned (.int .u64 n) ∧ Hid (n = stepR s) ∧ w = w' :=
  (rstep_any s w).mono fun _ _ ⟨he, hw⟩ => ⟨_, he, rfl, hw⟩

theorem steps_any (s : Nat) (k : Int) (hk : -9223372036854775808 ≤ k ∧ k ≤ 9223372036854775807) (w : World) :
    Calls Try.prog 14 #[.int .u64 s, .int .i64 k] w fun e w' => ∃ n : Nat, e = .returned (.int .u64 n) ∧ Hid (n = iterF stepR (min k 1048576).toNat s) ∧ w = w' := by
  have HM : Hid ((min k 1048576).toNat = if k ≤ 1048576 then k.toNat else 1048576) := by show _ = _; split <;> omega
  generalize (min k 1048576).toNat = m at *
  by_cases hc : k ≤ 1048576
  · by_cases h0 : 0 ≤ k
    · obtain ⟨j, rfl⟩ : ∃ j : Nat, k = j := ⟨k.toNat, by omega⟩
      have hm : m = j := by have := HM.out; rw [if_pos hc] at this; omega
      have HJ := Lib.hid hm
      clear hm HM
      go_enter Try.func14, Try.ntmps14
      go_wp2
      go_loop [5, 9] (fun x c => ∃ i n : Nat, i ≤ j ∧ x = .int .u64 n ∧ c = .int .i64 i ∧ Hid (n = iterF stepR i s)) (fun _ c => j - (intOf c).toNat)
      case atStart => exact ⟨0, s, by omega, rfl, rfl, (iterF_zero _ _).symm⟩
      case round =>
        obtain ⟨i, n, hi, rfl, rfl, hn⟩ := hrel
        by_cases hlt : i < j
        · go_wp2_with (go_at_call 21; refine (step_ex _ _).mono ?_; rintro e w1 ⟨n1, rfl, hn1, rfl⟩)
          go_round
          case rel => exact ⟨i + 1, n1, by omega, rfl, by go_num, by show _ = _; rw [iterF_succ, ← hn.out, hn1.out]⟩
          case measure => simp [intOf]; omega
        · go_wp2
          go_ret
          obtain rfl : i = j := by omega
          exact ⟨n, rfl, by rw [HJ.out]; exact hn, rfl⟩
    · have hm : m = 0 := by have := HM.out; rw [if_pos hc] at this; omega
      subst hm
      clear HM
      go_enter Try.func14, Try.ntmps14
      go_wp2
      refine wp_loop_rounds 1 ?_
      rw [rounds_succ]
      go_wp2
      go_ret
      exact ⟨s, rfl, (iterF_zero _ _).symm, rfl⟩
  · obtain ⟨B, hB1, hB2⟩ : ∃ B : Nat, (B : Int) ≤ 1048576 ∧ 1048576 ≤ (B : Int) := ⟨1048576, by omega, by omega⟩
    have hm : m = B := by have := HM.out; rw [if_neg hc] at this; omega
    have HJ := Lib.hid hm
    clear hm HM
    go_enter Try.func14, Try.ntmps14
    go_wp2
    go_loop [5, 9] (fun x c => ∃ i n : Nat, i ≤ B ∧ x = .int .u64 n ∧ c = .int .i64 i ∧ Hid (n = iterF stepR i s)) (fun _ c => B - (intOf c).toNat)
    case atStart => exact ⟨0, s, by omega, rfl, rfl, (iterF_zero _ _).symm⟩
    case round =>
      obtain ⟨i, n, hi, rfl, rfl, hn⟩ := hrel
      by_cases hlt : i < B
      · have t1 : (i : Int) < 1048576 := by omega
        go_wp2_with (go_at_call 21; refine (step_ex _ _).mono ?_; rintro e w1 ⟨n1, rfl, hn1, rfl⟩)
        go_round
        case rel => exact ⟨i + 1, n1, by omega, rfl, by go_num, by show _ = _; rw [iterF_succ, ← hn.out, hn1.out]⟩
        case measure => simp [intOf]; omega
      · have t1 : ¬ (i : Int) < 1048576 := by omega
        go_wp2
        go_ret
        obtain rfl : i = B := by omega
        exact ⟨n, rfl, by rw [HJ.out]; exact hn, rfl⟩

theorem rsteps_any (s : Nat) (k : Int) (hk : -9223372036854775808 ≤ k ∧ k ≤ 9223372036854775807) (w : World) :
    Calls Try.prog 15 #[.int .u64 s, .int .i64 k] w fun e w' => ∃ n : Nat, e = .returned (.int .u64 n) ∧ Hid (n = iterF stepR (min k 1048576).toNat s) ∧ w = w' := by
  have HM : Hid ((min k 1048576).toNat = if k ≤ 1048576 then k.toNat else 1048576) := by show _ = _; split <;> omega
  generalize (min k 1048576).toNat = m at *
  go_enter Try.func15, Try.ntmps15
  go_wp2
  go_loop [0, 5] (fun x c => ∃ i n : Nat, i ≤ m ∧ x = .int .u64 n ∧ c = .int .i64 i ∧ Hid (n = iterF stepR i s)) (fun _ c => m - (intOf c).toNat)
  case atStart => exact ⟨0, s, by omega, rfl, rfl, (iterF_zero _ _).symm⟩
  case round =>
    obtain ⟨i, n, hi, rfl, rfl, hn⟩ := hrel
    have hm := HM.out
    have hm' : (m : Int) ≤ 1048576 := by rw [hm]; split <;> omega
    by_cases hlt : i < m
    · have t1 : (i : Int) < k := by rw [hm] at hlt; split at hlt <;> omega
      have t2 : (i : Int) < 1048576 := by omega
      clear hm
      go_wp2_with (go_at_call 23; refine (rstep_ex _ _).mono ?_; rintro e w1 ⟨n1, rfl, hn1, rfl⟩)
      go_round
      case rel => exact ⟨i + 1, n1, by omega, rfl, by go_num, by show _ = _; rw [iterF_succ, ← hn.out, hn1.out]⟩
      case measure => simp [intOf]; omega
    · obtain rfl : i = m := by omega
      have t1 : ¬ ((i : Int) < k ∧ (i : Int) < 1048576) := by rw [hm]; split <;> omega
      clear hm hlt HM
      by_cases t2 : (i : Int) < k
      · have t3 : ¬ (i : Int) < 1048576 := by omega
        clear t1
        go_wp2
        go_ret
        exact ⟨n, rfl, hn, rfl⟩
      · clear t1
        go_wp2
        go_ret
        exact ⟨n, rfl, hn, rfl⟩

theorem rnext_any (s : Nat) (w : World) :
    Calls Try.prog 10 #[.int .u64 s] w fun e w' => e = .returned (.tuple #[.int .i64 (outR (stepR s)), .int .u64 (stepR s)]) ∧ w = w' := by
  have hs := stepR_lt s
  go_enter Try.func10, Try.ntmps10
  go_wp2_with fail
  refine (rstep_any s _).mono ?_
  rintro e w1 ⟨rfl, rfl⟩
  go_wp2_with fail
  refine (output_any _ hs _).mono ?_
  rintro e w1 ⟨rfl, rfl⟩
  go_wp2_with fail
  refine (rstep_any s _).mono ?_
  rintro e w1 ⟨rfl, rfl⟩
  go_wp2
  go_ret2
  exact ⟨rfl, rfl⟩

theorem belV_yes {s : Nat} {n : Int} (h1 : 1 ≤ n) (h2 : n ≤ 2147483647) : belV s n = (outR (stepR s) : Int) % n ∧ belS s n = stepR s := by
  unfold belV belS; rw [if_pos ⟨h1, h2⟩, if_pos ⟨h1, h2⟩]; exact ⟨rfl, rfl⟩
theorem belV_no {s : Nat} {n : Int} (h : n < 1 ∨ 2147483647 < n) : belV s n = -1 ∧ belS s n = s := by
  have k : ¬ (1 ≤ n ∧ n ≤ 2147483647) := by omega
  unfold belV belS; rw [if_neg k, if_neg k]; exact ⟨rfl, rfl⟩

theorem below_any (s : Nat) (n : Int) (w : World) :
    Calls Try.prog 11 #[.int .u64 s, .int .i64 n] w fun e w' => e = .returned (.tuple #[.int .i64 (belV s n), .int .u64 (belS s n)]) ∧ w = w' := by
  have C := Lib.hid (next_any s)
  by_cases h1 : n < 1
  · obtain ⟨e1, e2⟩ := belV_no (s := s) (.inl h1)
    rw [e1, e2]; clear e1 e2
    go_enter Try.func11, Try.ntmps11
    go_wp2
    go_ret2
    exact ⟨rfl, rfl⟩
  by_cases h2 : 2147483647 < n
  · obtain ⟨e1, e2⟩ := belV_no (s := s) (.inr h2)
    rw [e1, e2]; clear e1 e2
    go_enter Try.func11, Try.ntmps11
    go_wp2
    go_ret2
    exact ⟨rfl, rfl⟩
  · have h3 : 1 ≤ n := by omega
    obtain ⟨e1, e2⟩ := belV_yes (s := s) h3 (by omega : n ≤ 2147483647)
    rw [e1, e2]; clear e1 e2
    have ho := outR_lt (stepR s)
    have hs := stepR_lt s
    generalize outR (stepR s) = o at *
    generalize stepR s = t at *
    have m1 := Int.emod_nonneg (o : Int) (show n ≠ 0 by omega)
    have m2 := Int.emod_lt_of_pos (o : Int) (show 0 < n by omega)
    go_enter Try.func11, Try.ntmps11
    go_wp2_with fail
    refine (C.out _).mono ?_
    rintro e w1 ⟨rfl, rfl⟩
    go_wp2
    go_ret2
    exact ⟨rfl, rfl⟩
theorem rbelow_any (s : Nat) (n : Int) (w : World) :
    Calls Try.prog 12 #[.int .u64 s, .int .i64 n] w fun e w' => e = .returned (.tuple #[.int .i64 (belV s n), .int .u64 (belS s n)]) ∧ w = w' := by
  have C := Lib.hid (rnext_any s)
  by_cases h1 : n < 1
  · obtain ⟨e1, e2⟩ := belV_no (s := s) (.inl h1)
    rw [e1, e2]; clear e1 e2
    go_enter Try.func12, Try.ntmps12
    go_wp2
    go_ret2
    exact ⟨rfl, rfl⟩
  by_cases h2 : 2147483647 < n
  · obtain ⟨e1, e2⟩ := belV_no (s := s) (.inr h2)
    rw [e1, e2]; clear e1 e2
    go_enter Try.func12, Try.ntmps12
    go_wp2
    go_ret2
    exact ⟨rfl, rfl⟩
  · have h3 : 1 ≤ n := by omega
    obtain ⟨e1, e2⟩ := belV_yes (s := s) h3 (by omega : n ≤ 2147483647)
    rw [e1, e2]; clear e1 e2
    have ho := outR_lt (stepR s)
    generalize outR (stepR s) = o at *
    generalize stepR s = t at *
    have m1 := Int.emod_nonneg (o : Int) (show n ≠ 0 by omega)
    have m2 := Int.emod_lt_of_pos (o : Int) (show 0 < n by omega)
    go_enter Try.func12, Try.ntmps12
    go_wp2_with fail
    refine (C.out _).mono ?_
    rintro e w1 ⟨rfl, rfl⟩
    go_wp2
    go_ret2
    exact ⟨rfl, rfl⟩
end Go.Proofs.Ytgdbnpnlejgfgaa
