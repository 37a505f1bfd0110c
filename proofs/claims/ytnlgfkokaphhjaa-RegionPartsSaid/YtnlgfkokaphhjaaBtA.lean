/- Contracts of the operations on one number: single, Has, With, Without, Len, Subset, All, Next; the reference's bit, Has, With, Without, All. -/
import Derived.Test.YtnlgfkokaphhjaaChecked
import Derived.Test.YtnlgfkokaphhjaaBtM2
import Derived.WalkKit
import Derived.IntWalk
import Derived.Lib.Hide
import Derived.Below
import Derived.Laws.ShiftsVar
import Derived.Outline
namespace Go.Proofs.Ytnlgfkokaphhjaa.Bt
open Go.RowKit

theorem ret_u {a b : Int} (h : a = b) : Ending.returned (.int .u64 a) = Ending.returned (.int .u64 b) := by rw [h]
theorem ret_i {a b : Int} (h : a = b) : Ending.returned (.int .i64 a) = Ending.returned (.int .i64 b) := by rw [h]
theorem ret_b {a b : Bool} (h : a = b) : Ending.returned (.bool a) = Ending.returned (.bool b) := by rw [h]
theorem ret_ub {a b : Int} {c d : Bool} (h : a = b) (k : c = d) : Ending.returned (.tuple #[.int .u64 a, .bool c]) = Ending.returned (.tuple #[.int .u64 b, .bool d]) := by rw [h, k]

theorem and127 (y : Nat) (h : y ≤ 4000000000000000000) : bits .and .i64 (y : Int) 127 = ((y % 128 : Nat) : Int) := by
  have h1 : (BitVec.ofInt 64 (y : Int)).toNat = y := by
    rw [BitVec.ofInt_natCast, BitVec.toNat_ofNat]; exact Nat.mod_eq_of_lt (by omega)
  have h2 : (BitVec.ofInt 64 (127 : Int)).toNat = 127 := rfl
  have h3 : y &&& 127 = y % 128 := Nat.and_two_pow_sub_one_eq_mod y 7
  show IntKind.i64.wrap ((BitVec.ofInt 64 (y : Int) &&& BitVec.ofInt 64 (127 : Int)).toNat : Int) = _
  rw [BitVec.toNat_and, h1, h2, h3, IntKind.wrap_i64]
  omega

theorem single_no (i : Int) (w : World) (h : i < 0 ∨ 63 < i) :
    Calls Try.prog 81 #[.int .i64 i] w fun e w' => e = .returned (.int .u64 0) ∧ w = w' := by
  rcases h with h | h
  · go_enter Try.func81, Try.ntmps81
    go_wp2
    go_ret
    exact ⟨rfl, rfl⟩
  · have h' : ¬ i < 0 := by omega
    go_enter Try.func81, Try.ntmps81
    go_wp2
    go_ret
    exact ⟨rfl, rfl⟩
theorem single_yes (n : Nat) (w : World) (h : n ≤ 63) :
    Calls Try.prog 81 #[.int .i64 n] w fun e w' => e = .returned (.int .u64 ((2 ^ n : Nat) : Int)) ∧ w = w' := by
  have hp := Lib.hid (pow_lt64 h)
  go_enter Try.func81, Try.ntmps81
  go_wp2
  go_ret
  refine ⟨ret_u ?_, rfl⟩
  have := wrap_nat _ hp.out
  rw [Int.natCast_pow] at this ⊢
  exact this
theorem single_any (i : Int) (w : World) :
    Calls Try.prog 81 #[.int .i64 i] w fun e w' => e = .returned (.int .u64 (sgl i : Int)) ∧ w = w' := by
  by_cases h : 0 ≤ i ∧ i ≤ 63
  · obtain ⟨n, rfl⟩ : ∃ n : Nat, i = n := ⟨i.toNat, by omega⟩
    have := single_yes n w (by omega)
    unfold sgl
    rw [if_pos h, Int.toNat_natCast]
    exact this
  · unfold sgl
    rw [if_neg h]
    exact single_no i w (by omega)
theorem has_any (s : Nat) (i : Int) (w : World) (hs : s < 18446744073709551616) :
    Calls Try.prog 65 #[.int .u64 s, .int .i64 i] w fun e w' => e = .returned (.bool (hasV s i)) ∧ w = w' := by
  have C := Lib.hid (single_any i w)
  have hg := sgl_lt i
  have E := Lib.hid (hasV_sgl s i)
  generalize sgl i = g at *
  have K := Lib.hid (bits_and_u64_nat s g hs hg)
  generalize hasV s i = v at *
  go_enter Try.func65, Try.ntmps65
  go_wp2_with fail
  refine C.out.mono ?_
  rintro e w' ⟨rfl, rfl⟩
  go_wp2_with fail
  go_ret
  refine ⟨ret_b ?_, rfl⟩
  rw [K.out, ← E.out, Bool.eq_iff_iff]
  simp
theorem all_any (n : Int) (w : World) :
    Calls Try.prog 42 #[.int .i64 n] w fun e w' => e = .returned (.int .u64 (allV n : Int)) ∧ w = w' := by
  unfold allV
  by_cases h : n < 0
  · have e : min n.toNat 64 = 0 := by omega
    rw [e]
    go_enter Try.func42, Try.ntmps42
    go_wp2
    go_ret
    exact ⟨rfl, rfl⟩
  by_cases h2 : 63 < n
  · have e : min n.toNat 64 = 64 := by omega
    rw [e]
    go_enter Try.func42, Try.ntmps42
    go_wp2
    go_ret
    exact ⟨rfl, rfl⟩
  obtain ⟨k, rfl⟩ : ∃ k : Nat, n = k := ⟨n.toNat, by omega⟩
  have e : min (k : Int).toNat 64 = k := by omega
  rw [e]
  have hk : k ≤ 63 := by omega
  have hp := Lib.hid (pow_lt64 hk)
  have hq := Lib.hid (Nat.two_pow_pos k)
  clear h h2 e
  go_enter Try.func42, Try.ntmps42
  go_wp2
  go_ret
  refine ⟨ret_u ?_, rfl⟩
  have h1 := wrap_nat _ hp.out
  have h2 := hp.out
  have h3 := hq.out
  have h4 : ((2 ^ k : Nat) : Int) = 2 ^ k := by rw [Int.natCast_pow]; rfl
  rw [← h4, h1, IntKind.wrap_u64]
  omega
theorem subset_any (a b : Nat) (w : World) (ha : a < 18446744073709551616) (hb : b < 18446744073709551616) :
    Calls Try.prog 41 #[.int .u64 a, .int .u64 b] w fun e w' => e = .returned (.bool (subV a b)) ∧ w = w' := by
  have K := Lib.hid (bits_andNot_nat a b ha hb)
  have E : Hid (subV a b = (mB a b == 0)) := rfl
  generalize subV a b = v at *
  go_enter Try.func41, Try.ntmps41
  go_wp2_with fail
  go_ret
  refine ⟨ret_b ?_, rfl⟩
  rw [K.out, E.out, Bool.eq_iff_iff]
  simp
set_option maxHeartbeats 1000000 in
theorem next_any (s b : Nat) (w : World) (hs : s < 18446744073709551616) (hb : b < 18446744073709551616) :
    Calls Try.prog 51 #[.int .u64 s, .int .u64 b] w fun e w' => e = .returned (.tuple #[.int .u64 ((if subV s b = true ∧ s ≠ b then nextV s b else 0 : Nat) : Int), .bool (decide (subV s b = true ∧ s ≠ b))]) ∧ w = w' := by
  have C := Lib.hid (subset_any s b w hs hb)
  by_cases h : subV s b = true ∧ s ≠ b
  · rw [if_pos h, decide_eq_true h]
    rw [h.1] at C
    have e1 : ((s : Int) == (b : Int)) = false := by rw [beq_eq_false_iff_ne]; intro h'; exact h.2 (by omega)
    have K1 := Lib.hid (bits_xor_max b hb)
    have hn : 18446744073709551615 - b < 18446744073709551616 := by omega
    have K2 := Lib.hid (bits_or_u64_nat s (18446744073709551615 - b) hs hn)
    have K3 : Hid (∀ t : Nat, IntKind.u64.wrap ((t : Int) + 1) = (((t + 1) % 18446744073709551616 : Nat) : Int)) := fun t => by rw [IntKind.wrap_u64]; omega
    have K4 : Hid (∀ t : Nat, bits .and .u64 (((t + 1) % 18446744073709551616 : Nat) : Int) (b : Int) = (((t + 1) % 18446744073709551616 &&& b : Nat) : Int)) := fun t => bits_and_u64_nat _ _ (by omega) hb
    clear h
    unfold nextV
    go_enter Try.func51, Try.ntmps51
    go_wp2_with fail
    refine C.out.mono ?_
    rintro e w' ⟨rfl, rfl⟩
    go_wp2
    go_ret2
    refine ⟨ret_ub ?_ rfl, rfl⟩
    rw [K1.out, K2.out, K3.out, K4.out]
  · rw [if_neg h, decide_eq_false h]
    cases hv : subV s b
    · rw [hv] at C
      clear h hv
      go_enter Try.func51, Try.ntmps51
      go_wp2_with fail
      refine C.out.mono ?_
      rintro e w' ⟨rfl, rfl⟩
      go_wp2
      go_ret2
      exact ⟨rfl, rfl⟩
    · rw [hv] at C h
      have e : s = b := Classical.byContradiction fun hne => h ⟨rfl, hne⟩
      clear h hv
      subst e
      go_enter Try.func51, Try.ntmps51
      go_wp2_with fail
      refine C.out.mono ?_
      rintro e w' ⟨rfl, rfl⟩
      go_wp2
      go_ret2
      exact ⟨rfl, rfl⟩
set_option maxHeartbeats 2000000 in
set_option maxRecDepth 100000 in
theorem ones_any (s : Nat) (w : World) (hs : s < 18446744073709551616) :
    Calls Try.prog 77 #[.int .u64 s] w fun e w' => e = .returned (.int .i64 (card s : Int)) ∧ w = w' := by
  have hc := card_le s
  have E := Lib.hid (pop_card s)
  generalize card s = c at *
  have d1 : ((s : Int) / 2) = ((s / 2 : Nat) : Int) := by omega
  have l1 := x1_le s
  have l2 := x2_le s
  have l3 := x3_le s
  have k1 : IntKind.u64.wrap (bits .and .u64 ((s : Int) / 2) 6148914691236517205 + bits .and .u64 (s : Int) 6148914691236517205) = ((x1 s : Nat) : Int) := by
    have a1 := bits_and_u64_nat (s / 2) 6148914691236517205 (by omega) (by decide)
    have a2 := bits_and_u64_nat s 6148914691236517205 hs (by decide)
    have e : ((6148914691236517205 : Nat) : Int) = 6148914691236517205 := rfl
    rw [e] at a1 a2
    rw [d1, a1, a2, ← Int.natCast_add]
    exact wrap_nat _ (by show x1 s < _; omega)
  have k2 : IntKind.u64.wrap (bits .and .u64 (((x1 s : Nat) : Int) / 4) 3689348814741910323 + bits .and .u64 ((x1 s : Nat) : Int) 3689348814741910323) = ((x2 s : Nat) : Int) := by
    have a1 := bits_and_u64_nat (x1 s / 4) 3689348814741910323 (by omega) (by decide)
    have a2 := bits_and_u64_nat (x1 s) 3689348814741910323 (by omega) (by decide)
    have e : ((3689348814741910323 : Nat) : Int) = 3689348814741910323 := rfl
    have d : (((x1 s : Nat) : Int) / 4) = ((x1 s / 4 : Nat) : Int) := by omega
    rw [e] at a1 a2
    rw [d, a1, a2, ← Int.natCast_add]
    exact wrap_nat _ (by show x2 s < _; omega)
  have k3 : bits .and .u64 (IntKind.u64.wrap (((x2 s : Nat) : Int) / 16 + ((x2 s : Nat) : Int))) 1085102592571150095 = ((x3 s : Nat) : Int) := by
    have d : (((x2 s : Nat) : Int) / 16 + ((x2 s : Nat) : Int)) = ((x2 s / 16 + x2 s : Nat) : Int) := by omega
    have a1 := bits_and_u64_nat (x2 s / 16 + x2 s) 1085102592571150095 (by omega) (by decide)
    have e : ((1085102592571150095 : Nat) : Int) = 1085102592571150095 := rfl
    rw [e] at a1
    rw [d, wrap_nat _ (by omega), a1]
    rfl
  have k4 : IntKind.u64.wrap (((x3 s : Nat) : Int) + ((x3 s : Nat) : Int) / 256) = ((x4 s : Nat) : Int) := by
    rw [IntKind.wrap_u64]; unfold x4; omega
  have l4 : x4 s ≤ 2000000000000000000 := by unfold x4; omega
  have k5 : IntKind.u64.wrap (((x4 s : Nat) : Int) + ((x4 s : Nat) : Int) / 65536) = ((x5 s : Nat) : Int) := by
    rw [IntKind.wrap_u64]; unfold x5; omega
  have l5 : x5 s ≤ 3000000000000000000 := by unfold x5; omega
  have k6 : IntKind.u64.wrap (((x5 s : Nat) : Int) + ((x5 s : Nat) : Int) / 4294967296) = ((x6 s : Nat) : Int) := by
    rw [IntKind.wrap_u64]; unfold x6; omega
  have l6 : x6 s ≤ 4000000000000000000 := by unfold x6; omega
  generalize x6 s = y6 at *
  generalize x5 s = y5 at *
  generalize x4 s = y4 at *
  generalize x3 s = y3 at *
  generalize x2 s = y2 at *
  generalize x1 s = y1 at *
  have HK := Lib.hid (And.intro k1 (And.intro k2 (And.intro k3 (And.intro k4 (And.intro k5 k6)))))
  have HL := Lib.hid l6
  clear k1 k2 k3 k4 k5 k6 l1 l2 l3 l4 l5 l6 d1
  go_enter Try.func77, Try.ntmps77
  go_wp2
  go_ret
  refine ⟨ret_i ?_, rfl⟩
  obtain ⟨k1, k2, k3, k4, k5, k6⟩ := HK.out
  have l6 := HL.out
  have hE := E.out
  have hw : wrap64 (y6 : Int) = (y6 : Int) := by unfold wrap64; omega
  rw [k1, k2, k3, k4, k5, k6, hw, and127 y6 l6, hE]
theorem bit_any (n : Nat) (w : World) (h : n ≤ 63) :
    Calls Try.prog 40 #[.int .i64 n] w fun e w' => e = .returned (.int .u64 ((2 ^ n : Nat) : Int)) ∧ w = w' := by
  have hpow : Hid (∀ k, k ≤ 63 → (2 : Nat) ^ k < 18446744073709551616) := fun k hk => pow_lt64 hk
  have hsucc : Hid (∀ k : Nat, (2 : Nat) ^ (k + 1) = 2 ^ k * 2) := fun k => Nat.pow_succ ..
  go_enter Try.func40, Try.ntmps40
  go_wp2
  go_loop [3, 4] (fun x i => ∃ k p : Nat, k ≤ n ∧ i = .int .i64 k ∧ x = .int .u64 p ∧ Hid (p = 2 ^ k)) (fun _ i => n - (intOf i).toNat)
  case atStart => exact ⟨0, 1, by omega, rfl, rfl, rfl⟩
  case round =>
    obtain ⟨k, p, hk, rfl, rfl, HP⟩ := hrel
    by_cases hlt : k < n
    · have hb : p * 2 < 18446744073709551616 := by rw [HP.out, ← hsucc.out]; exact hpow.out _ (by omega)
      have e : IntKind.u64.wrap ((p : Int) * 2) = ((p * 2 : Nat) : Int) := by rw [IntKind.wrap_u64]; omega
      have HE := Lib.hid e
      clear e
      go_wp2
      go_round
      case rel => exact ⟨k + 1, p * 2, by omega, by go_num, by first | rw [HE.out] | go_num, by show _ = _; rw [HP.out, hsucc.out]⟩
      case measure => simp [intOf]; omega
    · obtain rfl : k = n := by omega
      go_wp2
      go_ret
      exact ⟨ret_u (by rw [HP.out, Int.natCast_pow]; rfl), rfl⟩
theorem rhas_any (s : Nat) (i : Int) (w : World) (hs : s < 18446744073709551616) :
    Calls Try.prog 67 #[.int .u64 s, .int .i64 i] w fun e w' => e = .returned (.bool (hasV s i)) ∧ w = w' := by
  by_cases h : 0 ≤ i ∧ i ≤ 63
  · obtain ⟨n, rfl⟩ : ∃ n : Nat, i = n := ⟨i.toNat, by omega⟩
    have hn : n ≤ 63 := by omega
    have C := Lib.hid (bit_any n w hn)
    have E := Lib.hid (has_div s n)
    rw [hasV_nat s n hn]
    have hp := pow_lt64 hn
    have hq := Nat.two_pow_pos n
    generalize 2 ^ n = p at *
    generalize s.testBit n = v at *
    clear h
    have g1 : ((p : Int) == 0) = false := by simp; omega
    go_enter Try.func67, Try.ntmps67
    go_wp2_with fail
    refine C.out.mono ?_
    rintro e w' ⟨rfl, rfl⟩
    go_wp2
    go_ret
    refine ⟨ret_b ?_, rfl⟩
    have hd : IntKind.u64.wrap ((s : Int) / (p : Int)) = ((s / p : Nat) : Int) := by
      rw [← Int.natCast_ediv]
      exact wrap_nat _ (Nat.lt_of_le_of_lt (Nat.div_le_self _ _) hs)
    rw [hd, ← E.out, show ((2 : Int)) = ((2 : Nat) : Int) from rfl, ← Int.ofNat_tmod, Bool.eq_iff_iff]
    simp
    omega
  · have e : hasV s i = false := by unfold hasV; simp [h]
    rw [e]
    have : i < 0 ∨ 63 < i := by omega
    clear h e
    rcases this with h | h
    · go_enter Try.func67, Try.ntmps67
      go_wp2
      go_ret
      exact ⟨rfl, rfl⟩
    · have h' : 0 ≤ i := by omega
      go_enter Try.func67, Try.ntmps67
      go_wp2
      go_ret
      exact ⟨rfl, rfl⟩
end Go.Proofs.Ytnlgfkokaphhjaa.Bt
