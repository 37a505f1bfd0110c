/- Contracts of the reference's numbers below 2^128: plus, minus, less, bit, size. -/
import Derived.Test.YtdmcpnpiepmnkaaDoorWalk
import Derived.Below
import Derived.IntWalk
import Derived.Outline
import Derived.Laws.ShiftsVar
import Derived.Deep.QuietTactic
import Derived.BigQuiet
import Derived.Deep.RegionWith
import Derived.Deep.RegionHeld3
namespace Go.Proofs.YtdmcpnpiepmnkaaDoor
open Go.RowKit

def B64 : Nat := 18446744073709551616
/-- a natural number below 2^128 -/
def wv (n : Nat) : Value := .agg #[.int .u64 ((n / 18446744073709551616 : Nat) : Int), .int .u64 ((n % 18446744073709551616 : Nat) : Int)]
theorem ret_w {a b : Int} {n : Nat} (h : a = ((n / 18446744073709551616 : Nat) : Int)) (k : b = ((n % 18446744073709551616 : Nat) : Int)) : Ending.returned (.agg #[.int .u64 a, .int .u64 b]) = Ending.returned (wv n) := by rw [h, k]; rfl
theorem ret_bb {a b : Bool} (h : a = b) : Ending.returned (.bool a) = Ending.returned (.bool b) := by rw [h]

set_option maxHeartbeats 1000000 in
theorem less_any (a b : Nat) (w : World) (ha : a < 340282366920938463463374607431768211456) (hb : b < 340282366920938463463374607431768211456) :
    Calls Tryd.prog 25 #[wv a, wv b] w fun e w' => e = .returned (.bool (decide (a < b))) ∧ Below w.heap.size w w' := by
  unfold wv
  have H : Hid (decide (a < b) = if a / 18446744073709551616 = b / 18446744073709551616 then decide (a % 18446744073709551616 < b % 18446744073709551616) else decide (a / 18446744073709551616 < b / 18446744073709551616)) := by
    show _ = _
    rw [Bool.eq_iff_iff]
    split <;> simp only [decide_eq_true_iff] <;> omega
  generalize decide (a < b) = v at *
  generalize a / 18446744073709551616 = h1 at *
  generalize b / 18446744073709551616 = h2 at *
  generalize a % 18446744073709551616 = l1 at *
  generalize b % 18446744073709551616 = l2 at *
  clear ha hb
  by_cases h : h1 = h2
  · have E : Hid (v = decide (l1 < l2)) := by show _ = _; rw [H.out, if_pos h]
    clear H
    subst h
    go_enter Tryd.func25, Tryd.ntmps25
    go_wp2
    go_ret
    exact ⟨ret_bb (by rw [E.out]; first | done | simp), ((Below.refl _ _).alloc (Nat.le_refl _) _).alloc (by simp) _⟩
  · have E : Hid (v = decide (h1 < h2)) := by show _ = _; rw [H.out, if_neg h]
    have h' : ((h1 : Int) != (h2 : Int)) = true := by simp; omega
    have h'' : ((h1 : Int) == (h2 : Int)) = false := by simp; omega
    clear H h
    go_enter Tryd.func25, Tryd.ntmps25
    go_wp2
    go_ret
    exact ⟨ret_bb (by rw [E.out]; first | done | simp), ((Below.refl _ _).alloc (Nat.le_refl _) _).alloc (by simp) _⟩
set_option maxHeartbeats 1000000 in
theorem plus_any (a b : Nat) (w : World) (h : a + b < 340282366920938463463374607431768211456) :
    Calls Tryd.prog 23 #[wv a, wv b] w fun e w' => e = .returned (wv (a + b)) ∧ Below w.heap.size w w' := by
  have H1 : Hid ((a + b) / 18446744073709551616 = if a % 18446744073709551616 + b % 18446744073709551616 < 18446744073709551616 then a / 18446744073709551616 + b / 18446744073709551616 else a / 18446744073709551616 + b / 18446744073709551616 + 1) := by
    show _ = _; split <;> omega
  have H2 : Hid ((a + b) % 18446744073709551616 = (a % 18446744073709551616 + b % 18446744073709551616) % 18446744073709551616) := by
    show _ = _; omega
  have b1 : a / 18446744073709551616 + b / 18446744073709551616 + 1 ≤ 18446744073709551616 := by omega
  have b2 : a % 18446744073709551616 < 18446744073709551616 := by omega
  have b3 : b % 18446744073709551616 < 18446744073709551616 := by omega
  have b4 : ¬ (a % 18446744073709551616 + b % 18446744073709551616 < 18446744073709551616) → a / 18446744073709551616 + b / 18446744073709551616 + 1 < 18446744073709551616 := by omega
  unfold wv
  generalize (a + b) / 18446744073709551616 = hh at *
  generalize (a + b) % 18446744073709551616 = ll at *
  generalize a / 18446744073709551616 = h1 at *
  generalize b / 18446744073709551616 = h2 at *
  generalize a % 18446744073709551616 = l1 at *
  generalize b % 18446744073709551616 = l2 at *
  clear h
  have k1 : IntKind.u64.wrap ((h1 : Int) + (h2 : Int)) = (h1 : Int) + (h2 : Int) := by rw [IntKind.wrap_u64]; omega
  by_cases hc : l1 + l2 < 18446744073709551616
  · have k2 : IntKind.u64.wrap ((l1 : Int) + (l2 : Int)) = (l1 : Int) + (l2 : Int) := by rw [IntKind.wrap_u64]; omega
    have e1 : hh = h1 + h2 := by rw [H1.out, if_pos hc]
    have e2 : ll = l1 + l2 := by rw [H2.out]; omega
    subst e1 e2
    have t : ¬ (l1 : Int) + (l2 : Int) < (l1 : Int) := by omega
    clear H1 H2 b1 b2 b3 b4 hc
    go_enter Tryd.func23, Tryd.ntmps23
    go_wp2
    refine bodyPost_ret (v := .agg #[.int .u64 ((h1 : Int) + (h2 : Int)), .int .u64 ((l1 : Int) + (l2 : Int))]) (by simp [results, Tryd.results23, go_sem]) rfl ⟨by first | rfl | (rw [Int.natCast_add, Int.natCast_add]), ?_⟩
    exact (((Below.refl _ _).alloc (Nat.le_refl _) _).alloc (by simp) _).alloc (by simp; omega) _
  · have k2 : IntKind.u64.wrap ((l1 : Int) + (l2 : Int)) = (l1 : Int) + (l2 : Int) - 18446744073709551616 := by rw [IntKind.wrap_u64]; omega
    have k3 : IntKind.u64.wrap ((h1 : Int) + (h2 : Int) + 1) = (h1 : Int) + (h2 : Int) + 1 := by have := b4 hc; rw [IntKind.wrap_u64]; omega
    have e1 : hh = h1 + h2 + 1 := by rw [H1.out, if_neg hc]
    have e2 : ((ll : Nat) : Int) = (l1 : Int) + (l2 : Int) - 18446744073709551616 := by rw [H2.out]; omega
    have E2 := Lib.hid e2
    subst e1
    have t : (l1 : Int) + (l2 : Int) - 18446744073709551616 < (l1 : Int) := by omega
    clear H1 H2 b1 b2 b3 b4 hc e2
    go_enter Tryd.func23, Tryd.ntmps23
    go_wp2
    refine bodyPost_ret (v := .agg #[.int .u64 ((h1 : Int) + (h2 : Int) + 1), .int .u64 ((l1 : Int) + (l2 : Int) - 18446744073709551616)]) (by simp [results, Tryd.results23, go_sem]) rfl ⟨by rw [← E2.out]; first | rfl | (rw [Int.natCast_add, Int.natCast_add]; rfl), ?_⟩
    exact (((Below.refl _ _).alloc (Nat.le_refl _) _).alloc (by simp) _).alloc (by simp; omega) _
set_option maxHeartbeats 1000000 in
theorem minus_any (a b : Nat) (w : World) (h : b ≤ a) (ha : a < 340282366920938463463374607431768211456) :
    Calls Tryd.prog 26 #[wv a, wv b] w fun e w' => e = .returned (wv (a - b)) ∧ Below w.heap.size w w' := by
  have H1 : Hid ((a - b) / 18446744073709551616 = if a % 18446744073709551616 < b % 18446744073709551616 then a / 18446744073709551616 - b / 18446744073709551616 - 1 else a / 18446744073709551616 - b / 18446744073709551616) := by
    show _ = _; split <;> omega
  have H2 : Hid ((((a - b) % 18446744073709551616 : Nat) : Int) = IntKind.u64.wrap (((a % 18446744073709551616 : Nat) : Int) - ((b % 18446744073709551616 : Nat) : Int))) := by
    show _ = _; rw [IntKind.wrap_u64]; omega
  have b1 : b / 18446744073709551616 ≤ a / 18446744073709551616 := by omega
  have b2 : a % 18446744073709551616 < b % 18446744073709551616 → b / 18446744073709551616 < a / 18446744073709551616 := by omega
  have b3 : a / 18446744073709551616 < 18446744073709551616 := by omega
  unfold wv
  generalize (a - b) / 18446744073709551616 = hh at *
  generalize (a - b) % 18446744073709551616 = ll at *
  generalize a / 18446744073709551616 = h1 at *
  generalize b / 18446744073709551616 = h2 at *
  generalize a % 18446744073709551616 = l1 at *
  generalize b % 18446744073709551616 = l2 at *
  clear h ha
  have k1 : IntKind.u64.wrap ((h1 : Int) - (h2 : Int)) = (h1 : Int) - (h2 : Int) := by rw [IntKind.wrap_u64]; omega
  by_cases hc : l1 < l2
  · have k2 : IntKind.u64.wrap ((h1 : Int) - (h2 : Int) - 1) = (h1 : Int) - (h2 : Int) - 1 := by have := b2 hc; rw [IntKind.wrap_u64]; omega
    have e1 : ((hh : Nat) : Int) = (h1 : Int) - (h2 : Int) - 1 := by have := b2 hc; rw [H1.out, if_pos hc]; omega
    have E1 := Lib.hid e1
    have t : (l1 : Int) < (l2 : Int) := by omega
    clear H1 b1 b2 b3 hc e1
    go_enter Tryd.func26, Tryd.ntmps26
    go_wp2
    refine bodyPost_ret (v := .agg #[.int .u64 ((h1 : Int) - (h2 : Int) - 1), .int .u64 (IntKind.u64.wrap ((l1 : Int) - (l2 : Int)))]) (by simp [results, Tryd.results26, go_sem]) rfl ⟨by rw [← E1.out, ← H2.out], ?_⟩
    exact (((Below.refl _ _).alloc (Nat.le_refl _) _).alloc (by simp) _).alloc (by simp; omega) _
  · have k2 : IntKind.u64.wrap ((l1 : Int) - (l2 : Int)) = (l1 : Int) - (l2 : Int) ∨ True := .inr trivial
    have e1 : ((hh : Nat) : Int) = (h1 : Int) - (h2 : Int) := by rw [H1.out, if_neg hc]; omega
    have E1 := Lib.hid e1
    have t : ¬ (l1 : Int) < (l2 : Int) := by omega
    clear H1 b1 b2 b3 e1 k2
    have hc' : (l2 : Int) ≤ (l1 : Int) := by omega
    go_enter Tryd.func26, Tryd.ntmps26
    go_wp2
    refine bodyPost_ret (v := .agg #[.int .u64 ((h1 : Int) - (h2 : Int)), .int .u64 (IntKind.u64.wrap ((l1 : Int) - (l2 : Int)))]) (by simp [results, Tryd.results26, go_sem]) rfl ⟨by rw [← E1.out, ← H2.out], ?_⟩
    exact (((Below.refl _ _).alloc (Nat.le_refl _) _).alloc (by simp) _).alloc (by simp; omega) _
theorem tmod_bit (x i : Nat) : ((x : Int) / 2 ^ i).tmod 2 = ((x / 2 ^ i % 2 : Nat) : Int) := by
  have h : (x : Int) / 2 ^ i = ((x / 2 ^ i : Nat) : Int) := by rw [Int.natCast_ediv, Int.natCast_pow]; rfl
  rw [h, Int.ofNat_tmod]
  rfl
theorem low_bits (a i : Nat) (hi : i < 64) : a / 2 ^ i % 2 = a % 18446744073709551616 / 2 ^ i % 2 := by
  have h := Nat.testBit_mod_two_pow a 64 i
  rw [Nat.testBit_eq_decide_div_mod_eq, Nat.testBit_eq_decide_div_mod_eq] at h
  have e : (2 : Nat) ^ 64 = 18446744073709551616 := by decide
  rw [e] at h
  simp only [hi, decide_true, Bool.true_and, decide_eq_decide] at h
  have h1 := Nat.mod_two_eq_zero_or_one (a / 2 ^ i)
  have h2 := Nat.mod_two_eq_zero_or_one (a % 18446744073709551616 / 2 ^ i)
  omega
theorem high_bits (a i : Nat) (hi : 64 ≤ i) : a / 2 ^ i % 2 = a / 18446744073709551616 / 2 ^ (i - 64) % 2 := by
  have e : (2 : Nat) ^ 64 = 18446744073709551616 := by decide
  rw [← e, Nat.div_div_eq_div_mul, ← Nat.pow_add, show 64 + (i - 64) = i by omega]
set_option maxHeartbeats 1000000 in
theorem bit_any (a i : Nat) (w : World) (hi : i < 128) :
    Calls Tryd.prog 24 #[wv a, .int .i64 i] w fun e w' => e = .returned (.int .u64 ((a / 2 ^ i % 2 : Nat) : Int)) ∧ Below w.heap.size w w' := by
  by_cases h64 : i < 64
  · have HE := Lib.hid (low_bits a i h64)
    unfold wv
    generalize a / 2 ^ i % 2 = r at *
    generalize a / 18446744073709551616 = h1 at *
    have hl : a % 18446744073709551616 < 18446744073709551616 := by omega
    have HL := Lib.hid hl
    clear hl
    generalize a % 18446744073709551616 = l1 at *
    have t : ¬ (64 : Int) ≤ (i : Int) := by omega
    clear hi
    go_enter Tryd.func24, Tryd.ntmps24
    go_wp2
    go_ret
    exact ⟨ret_u (by rw [HE.out]; exact tmod_bit l1 i), (Below.refl _ _).alloc (Nat.le_refl _) _⟩
  · have HE := Lib.hid (high_bits a i (by omega))
    obtain ⟨j, rfl⟩ : ∃ j, i = j + 64 := ⟨i - 64, by omega⟩
    have ej : j + 64 - 64 = j := by omega
    rw [ej] at HE
    unfold wv
    generalize a / 2 ^ (j + 64) % 2 = r at *
    generalize a % 18446744073709551616 = l1 at *
    generalize a / 18446744073709551616 = h1 at *
    have t : (64 : Int) ≤ (j : Int) + 64 := by omega
    have e1 : (j : Int) + 64 - 64 = (j : Int) := by omega
    have ec : ((j + 64 : Nat) : Int) = (j : Int) + 64 := by omega
    rw [ec]
    clear ec ej h64
    go_enter Tryd.func24, Tryd.ntmps24
    go_wp2
    go_ret
    refine ⟨ret_u ?_, (Below.refl _ _).alloc (Nat.le_refl _) _⟩
    rw [HE.out]
    first | exact tmod_bit h1 j | (trace_state; sorry)
theorem size_any (a : Int) (w : World) (h1 : -9223372036854775808 ≤ a) (h2 : a ≤ 9223372036854775807) :
    Calls Tryd.prog 14 #[.int .i64 a] w fun e w' => e = .returned (.int .u64 (a.natAbs : Int)) ∧ w = w' := by
  by_cases h : a < 0
  · go_enter Tryd.func14, Tryd.ntmps14
    go_wp2
    go_ret
    refine ⟨ret_u ?_, rfl⟩
    first | omega | (simp only [IntKind.wrap_u64]; omega)
  · go_enter Tryd.func14, Tryd.ntmps14
    go_wp2
    go_ret
    refine ⟨ret_u ?_, rfl⟩
    first | omega | (simp only [IntKind.wrap_u64]; omega)
end Go.Proofs.YtdmcpnpiepmnkaaDoor
