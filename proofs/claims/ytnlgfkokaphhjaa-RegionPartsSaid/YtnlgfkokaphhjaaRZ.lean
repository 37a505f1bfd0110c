/- The laws on regions: unions and differences. -/
import Derived.Test.YtnlgfkokaphhjaaRY
namespace Go.Proofs.Ytnlgfkokaphhjaa
open Go.RowKit

theorem bits_and_nat (a b : Nat) (ha : a < 18446744073709551616) (hb : b < 18446744073709551616) : bits .and .u64 (a : Int) (b : Int) = ((a &&& b : Nat) : Int) := by
  have hx : a &&& b < 18446744073709551616 := Bt.and_lt ha
  have h1 : (BitVec.ofInt 64 (a : Int)).toNat = a := by
    rw [BitVec.ofInt_natCast, BitVec.toNat_ofNat]; exact Nat.mod_eq_of_lt (by omega)
  have h2 : (BitVec.ofInt 64 (b : Int)).toNat = b := by
    rw [BitVec.ofInt_natCast, BitVec.toNat_ofNat]; exact Nat.mod_eq_of_lt (by omega)
  show IntKind.u64.wrap ((BitVec.ofInt 64 (a : Int) &&& BitVec.ofInt 64 (b : Int)).toNat : Int) = _
  rw [BitVec.toNat_and, h1, h2, IntKind.wrap_u64]
  generalize a &&& b = c at *
  omega
theorem bits_or_nat (a b : Nat) (ha : a < 18446744073709551616) (hb : b < 18446744073709551616) : bits .or .u64 (a : Int) (b : Int) = ((a ||| b : Nat) : Int) := by
  have hx : a ||| b < 18446744073709551616 := Bt.or_lt ha hb
  have h1 : (BitVec.ofInt 64 (a : Int)).toNat = a := by
    rw [BitVec.ofInt_natCast, BitVec.toNat_ofNat]; exact Nat.mod_eq_of_lt (by omega)
  have h2 : (BitVec.ofInt 64 (b : Int)).toNat = b := by
    rw [BitVec.ofInt_natCast, BitVec.toNat_ofNat]; exact Nat.mod_eq_of_lt (by omega)
  show IntKind.u64.wrap ((BitVec.ofInt 64 (a : Int) ||| BitVec.ofInt 64 (b : Int)).toNat : Int) = _
  rw [BitVec.toNat_or, h1, h2, IntKind.wrap_u64]
  generalize a ||| b = c at *
  omega
theorem beqI {a b : Int} (h : a = b) : (a == b) = true := by rw [h]; simp
theorem nbeqI {a b : Int} (h : ¬ a = b) : (a == b) = false := by simpa using h
set_option maxHeartbeats 8000000 in
set_option maxRecDepth 100000 in
theorem unions_law (s : SysV) (a b : Nat) (w : World) (hr : SysW w s) (ha : a < 18446744073709551616) (hb : b < 18446744073709551616) :
    Calls Try.prog 8 #[.agg #[.int .i64 s.st, .slice s.EA s.el s.ec, .slice s.AA s.ar.length s.ac], .int .u64 (a : Nat), .int .u64 (b : Nat)] w fun e w' => e = .returned (.bool true) ∧ Below w.heap.size w w' := by
  have CL : Hid (∀ W, Calls Try.prog 10 #[.agg #[.int .i64 s.st, .slice s.EA s.el s.ec, .slice s.AA s.ar.length s.ac]] W (VPost W.heap.size W (.bool (largeS s)))) := large_any s
  have CX : Hid (∀ W, Calls Try.prog 11 #[] W (VPost W.heap.size W (.bool true))) := example_any
  have B0 : Hid (Below w.heap.size w (w.alloc (.cells #[.int .i64 s.st, .slice s.EA s.el s.ec, .slice s.AA s.ar.length s.ac] 25))) := (Below.refl _ _).alloc (Nat.le_refl _) _
  have q0 : (w.alloc (.cells #[.int .i64 s.st, .slice s.EA s.el s.ec, .slice s.AA s.ar.length s.ac] 25)).cell? ⟨w.heap.size, 0, none⟩ = some (.int .i64 s.st) := by simp
  have q1 : (w.alloc (.cells #[.int .i64 s.st, .slice s.EA s.el s.ec, .slice s.AA s.ar.length s.ac] 25)).cell? ⟨w.heap.size, 1, none⟩ = some (.slice s.EA s.el s.ec) := by simp
  have q2 : (w.alloc (.cells #[.int .i64 s.st, .slice s.EA s.el s.ec, .slice s.AA s.ar.length s.ac] 25)).cell? ⟨w.heap.size, 2, none⟩ = some (.slice s.AA s.ar.length s.ac) := by simp
  cases hl : largeS s
  rotate_left
  · rw [hl] at CL
    clear hl q0 q1 q2 hr ha hb
    go_enter Try.func8, Try.ntmps8
    go_wp2_with fail
    refine (CL.out _).mono ?_
    rintro e x1 ⟨rfl, K⟩
    have D1 := Lib.hid (B0.out.trans (K.mono B0.out.size))
    clear K
    go_wp2_with fail
    refine (CX.out _).mono ?_
    rintro e x2 ⟨rfl, K⟩
    have D2 := Lib.hid (D1.out.trans (K.mono D1.out.size))
    clear K
    go_wp2
    go_ret
    exact ⟨rfl, D2.out⟩
  have hs := small_of hr hl
  rw [hl] at CL
  clear hl hr
  have CIa : Hid (∀ W, Below w.heap.size w W → Calls Try.prog 14 #[.agg #[.int .i64 s.st, .slice s.EA s.el s.ec, .slice s.AA s.ar.length s.ac], .int .u64 (a : Nat)] W (VPost W.heap.size W (.bool (isRg s a)))) := fun W hW => Is_any s a W (hs.below hW (Nat.le_refl _)) ha
  have CIb : Hid (∀ W, Below w.heap.size w W → Calls Try.prog 14 #[.agg #[.int .i64 s.st, .slice s.EA s.el s.ec, .slice s.AA s.ar.length s.ac], .int .u64 (b : Nat)] W (VPost W.heap.size W (.bool (isRg s b)))) := fun W hW => Is_any s b W (hs.below hW (Nat.le_refl _)) hb
  cases h1 : isRg s a
  · rw [h1] at CIa
    clear h1 CIb hs ha hb
    go_enter Try.func8, Try.ntmps8
    go_wp2_with fail
    refine (CL.out _).mono ?_
    rintro e x1 ⟨rfl, K⟩
    have q0 := keepc q0 K
    have q1 := keepc q1 K
    have q2 := keepc q2 K
    have D1 := Lib.hid (B0.out.trans (K.mono B0.out.size))
    clear K B0
    go_wp2_with fail
    refine (CIa.out _ D1.out).mono ?_
    rintro e x2 ⟨rfl, K⟩
    have D2 := Lib.hid (D1.out.trans (K.mono D1.out.size))
    clear K D1
    go_wp2_with fail
    refine (CX.out _).mono ?_
    rintro e x3 ⟨rfl, K⟩
    have D9 := Lib.hid (D2.out.trans (K.mono D2.out.size))
    clear K
    go_wp2
    go_ret
    exact ⟨rfl, D9.out⟩
  rw [h1] at CIa
  cases h2 : isRg s b
  · rw [h2] at CIb
    clear h1 h2 hs ha hb
    go_enter Try.func8, Try.ntmps8
    go_wp2_with fail
    refine (CL.out _).mono ?_
    rintro e x1 ⟨rfl, K⟩
    have q0 := keepc q0 K
    have q1 := keepc q1 K
    have q2 := keepc q2 K
    have D1 := Lib.hid (B0.out.trans (K.mono B0.out.size))
    clear K B0
    go_wp2_with fail
    refine (CIa.out _ D1.out).mono ?_
    rintro e x2 ⟨rfl, K⟩
    have q0 := keepc q0 K
    have q1 := keepc q1 K
    have q2 := keepc q2 K
    have D2 := Lib.hid (D1.out.trans (K.mono D1.out.size))
    clear K D1
    go_wp2_with fail
    refine (CIb.out _ D2.out).mono ?_
    rintro e x3 ⟨rfl, K⟩
    have D3 := Lib.hid (D2.out.trans (K.mono D2.out.size))
    clear K D2
    go_wp2_with fail
    refine (CX.out _).mono ?_
    rintro e x4 ⟨rfl, K⟩
    have D9 := Lib.hid (D3.out.trans (K.mono D3.out.size))
    clear K
    go_wp2
    go_ret
    exact ⟨rfl, D9.out⟩
  rw [h2] at CIb
  have CU : Hid (∀ W, Below w.heap.size w W → Calls Try.prog 14 #[.agg #[.int .i64 s.st, .slice s.EA s.el s.ec, .slice s.AA s.ar.length s.ac], .int .u64 (a ||| b : Nat)] W (VPost W.heap.size W (.bool (isRg s (a ||| b))))) := fun W hW => Is_any s _ W (hs.below hW (Nat.le_refl _)) (Bt.or_lt ha hb)
  have CV : Hid (∀ W, Below w.heap.size w W → Calls Try.prog 14 #[.agg #[.int .i64 s.st, .slice s.EA s.el s.ec, .slice s.AA s.ar.length s.ac], .int .u64 (b - a : Nat)] W (VPost W.heap.size W (.bool (isRg s (b - a))))) := fun W hW => Is_any s _ W (hs.below hW (Nat.le_refl _)) (by omega)
  have CW : Hid (∀ W, Below w.heap.size w W → Calls Try.prog 14 #[.agg #[.int .i64 s.st, .slice s.EA s.el s.ec, .slice s.AA s.ar.length s.ac], .int .u64 (a - b : Nat)] W (VPost W.heap.size W (.bool (isRg s (a - b))))) := fun W hW => Is_any s _ W (hs.below hW (Nat.le_refl _)) (by omega)
  have KO : bits .or .u64 (a : Int) (b : Int) = ((a ||| b : Nat) : Int) := bits_or_nat _ _ ha hb
  have KA : bits .and .u64 (a : Int) (b : Int) = ((a &&& b : Nat) : Int) := bits_and_nat _ _ ha hb
  have U0 := Lib.hid (fun h => union_ok ha hb h1 h2 h)
  have V0 : Hid (a &&& b = a → isRg s (b - a) = true ∧ a ≤ b) := fun h => ⟨diff_ok ha hb h1 h2 (and_sub h), (diff_mB hb ha (and_sub h)).2⟩
  have W0 : Hid (a &&& b = b → isRg s (a - b) = true ∧ b ≤ a) := fun h => ⟨diff_ok hb ha h2 h1 (and_sub (by rw [Nat.and_comm]; exact h)), (diff_mB ha hb (and_sub (by rw [Nat.and_comm]; exact h))).2⟩
  have KV : Hid (a ≤ b → IntKind.u64.wrap ((b : Int) - (a : Int)) = ((b - a : Nat) : Int)) := fun h => by rw [← Int.ofNat_sub h]; exact Bt.wrap_nat _ (by omega)
  have KW : Hid (b ≤ a → IntKind.u64.wrap ((a : Int) - (b : Int)) = ((a - b : Nat) : Int)) := fun h => by rw [← Int.ofNat_sub h]; exact Bt.wrap_nat _ (by omega)
  clear h1 h2 hs ha hb
  generalize a ||| b = y at *
  generalize a &&& b = x at *
  generalize b - a = u at *
  generalize a - b = v at *
  by_cases g0 : x = 0
  · by_cases g1 : x = a
    · by_cases g2 : x = b
      · have d0 : (((x : Nat) : Int) == 0) = true := beqI (by omega)
        rw [U0.out g0] at CU
        have d1 : (((x : Nat) : Int) == (a : Int)) = true := beqI (by omega)
        rw [(V0.out g1).1] at CV
        have KV2 := KV.out (V0.out g1).2
        have d2 : (((x : Nat) : Int) == (b : Int)) = true := beqI (by omega)
        rw [(W0.out g2).1] at CW
        have KW2 := KW.out (W0.out g2).2
        clear U0 V0 W0 KV KW g0 g1 g2
        go_enter Try.func8, Try.ntmps8
        go_wp2_with fail
        refine (CL.out _).mono ?_
        rintro e x1 ⟨rfl, K⟩
        have q0 := keepc q0 K
        have q1 := keepc q1 K
        have q2 := keepc q2 K
        have D1 := Lib.hid (B0.out.trans (K.mono B0.out.size))
        clear K B0
        go_wp2_with fail
        refine (CIa.out _ D1.out).mono ?_
        rintro e x2 ⟨rfl, K⟩
        have q0 := keepc q0 K
        have q1 := keepc q1 K
        have q2 := keepc q2 K
        have D2 := Lib.hid (D1.out.trans (K.mono D1.out.size))
        clear K D1
        go_wp2_with fail
        refine (CIb.out _ D2.out).mono ?_
        rintro e x3 ⟨rfl, K⟩
        have q0 := keepc q0 K
        have q1 := keepc q1 K
        have q2 := keepc q2 K
        have D3 := Lib.hid (D2.out.trans (K.mono D2.out.size))
        clear K D2
        go_wp2_with fail
        refine (CU.out _ D3.out).mono ?_
        rintro e x4 ⟨rfl, K⟩
        have q0 := keepc q0 K
        have q1 := keepc q1 K
        have q2 := keepc q2 K
        have D4 := Lib.hid (D3.out.trans (K.mono D3.out.size))
        clear K D3
        go_wp2_with fail
        refine (CV.out _ D4.out).mono ?_
        rintro e x5 ⟨rfl, K⟩
        have q0 := keepc q0 K
        have q1 := keepc q1 K
        have q2 := keepc q2 K
        have D5 := Lib.hid (D4.out.trans (K.mono D4.out.size))
        clear K D4
        go_wp2_with fail
        refine (CW.out _ D5.out).mono ?_
        rintro e x6 ⟨rfl, K⟩
        have q0 := keepc q0 K
        have q1 := keepc q1 K
        have q2 := keepc q2 K
        have D6 := Lib.hid (D5.out.trans (K.mono D5.out.size))
        clear K D5
        go_wp2_with fail
        refine (CX.out _).mono ?_
        rintro e x7 ⟨rfl, K⟩
        have D9 := Lib.hid (D6.out.trans (K.mono D6.out.size))
        clear K
        go_wp2
        go_ret
        exact ⟨rfl, D9.out⟩
      · have d0 : (((x : Nat) : Int) == 0) = true := beqI (by omega)
        rw [U0.out g0] at CU
        have d1 : (((x : Nat) : Int) == (a : Int)) = true := beqI (by omega)
        rw [(V0.out g1).1] at CV
        have KV2 := KV.out (V0.out g1).2
        have d2 : (((x : Nat) : Int) == (b : Int)) = false := nbeqI (by omega)
        clear U0 V0 W0 KV KW g0 g1 g2
        go_enter Try.func8, Try.ntmps8
        go_wp2_with fail
        refine (CL.out _).mono ?_
        rintro e x1 ⟨rfl, K⟩
        have q0 := keepc q0 K
        have q1 := keepc q1 K
        have q2 := keepc q2 K
        have D1 := Lib.hid (B0.out.trans (K.mono B0.out.size))
        clear K B0
        go_wp2_with fail
        refine (CIa.out _ D1.out).mono ?_
        rintro e x2 ⟨rfl, K⟩
        have q0 := keepc q0 K
        have q1 := keepc q1 K
        have q2 := keepc q2 K
        have D2 := Lib.hid (D1.out.trans (K.mono D1.out.size))
        clear K D1
        go_wp2_with fail
        refine (CIb.out _ D2.out).mono ?_
        rintro e x3 ⟨rfl, K⟩
        have q0 := keepc q0 K
        have q1 := keepc q1 K
        have q2 := keepc q2 K
        have D3 := Lib.hid (D2.out.trans (K.mono D2.out.size))
        clear K D2
        go_wp2_with fail
        refine (CU.out _ D3.out).mono ?_
        rintro e x4 ⟨rfl, K⟩
        have q0 := keepc q0 K
        have q1 := keepc q1 K
        have q2 := keepc q2 K
        have D4 := Lib.hid (D3.out.trans (K.mono D3.out.size))
        clear K D3
        go_wp2_with fail
        refine (CV.out _ D4.out).mono ?_
        rintro e x5 ⟨rfl, K⟩
        have q0 := keepc q0 K
        have q1 := keepc q1 K
        have q2 := keepc q2 K
        have D5 := Lib.hid (D4.out.trans (K.mono D4.out.size))
        clear K D4
        go_wp2_with fail
        refine (CX.out _).mono ?_
        rintro e x6 ⟨rfl, K⟩
        have D9 := Lib.hid (D5.out.trans (K.mono D5.out.size))
        clear K
        go_wp2
        go_ret
        exact ⟨rfl, D9.out⟩
    · by_cases g2 : x = b
      · have d0 : (((x : Nat) : Int) == 0) = true := beqI (by omega)
        rw [U0.out g0] at CU
        have d1 : (((x : Nat) : Int) == (a : Int)) = false := nbeqI (by omega)
        have d2 : (((x : Nat) : Int) == (b : Int)) = true := beqI (by omega)
        rw [(W0.out g2).1] at CW
        have KW2 := KW.out (W0.out g2).2
        clear U0 V0 W0 KV KW g0 g1 g2
        go_enter Try.func8, Try.ntmps8
        go_wp2_with fail
        refine (CL.out _).mono ?_
        rintro e x1 ⟨rfl, K⟩
        have q0 := keepc q0 K
        have q1 := keepc q1 K
        have q2 := keepc q2 K
        have D1 := Lib.hid (B0.out.trans (K.mono B0.out.size))
        clear K B0
        go_wp2_with fail
        refine (CIa.out _ D1.out).mono ?_
        rintro e x2 ⟨rfl, K⟩
        have q0 := keepc q0 K
        have q1 := keepc q1 K
        have q2 := keepc q2 K
        have D2 := Lib.hid (D1.out.trans (K.mono D1.out.size))
        clear K D1
        go_wp2_with fail
        refine (CIb.out _ D2.out).mono ?_
        rintro e x3 ⟨rfl, K⟩
        have q0 := keepc q0 K
        have q1 := keepc q1 K
        have q2 := keepc q2 K
        have D3 := Lib.hid (D2.out.trans (K.mono D2.out.size))
        clear K D2
        go_wp2_with fail
        refine (CU.out _ D3.out).mono ?_
        rintro e x4 ⟨rfl, K⟩
        have q0 := keepc q0 K
        have q1 := keepc q1 K
        have q2 := keepc q2 K
        have D4 := Lib.hid (D3.out.trans (K.mono D3.out.size))
        clear K D3
        go_wp2_with fail
        refine (CW.out _ D4.out).mono ?_
        rintro e x5 ⟨rfl, K⟩
        have q0 := keepc q0 K
        have q1 := keepc q1 K
        have q2 := keepc q2 K
        have D5 := Lib.hid (D4.out.trans (K.mono D4.out.size))
        clear K D4
        go_wp2_with fail
        refine (CX.out _).mono ?_
        rintro e x6 ⟨rfl, K⟩
        have D9 := Lib.hid (D5.out.trans (K.mono D5.out.size))
        clear K
        go_wp2
        go_ret
        exact ⟨rfl, D9.out⟩
      · have d0 : (((x : Nat) : Int) == 0) = true := beqI (by omega)
        rw [U0.out g0] at CU
        have d1 : (((x : Nat) : Int) == (a : Int)) = false := nbeqI (by omega)
        have d2 : (((x : Nat) : Int) == (b : Int)) = false := nbeqI (by omega)
        clear U0 V0 W0 KV KW g0 g1 g2
        go_enter Try.func8, Try.ntmps8
        go_wp2_with fail
        refine (CL.out _).mono ?_
        rintro e x1 ⟨rfl, K⟩
        have q0 := keepc q0 K
        have q1 := keepc q1 K
        have q2 := keepc q2 K
        have D1 := Lib.hid (B0.out.trans (K.mono B0.out.size))
        clear K B0
        go_wp2_with fail
        refine (CIa.out _ D1.out).mono ?_
        rintro e x2 ⟨rfl, K⟩
        have q0 := keepc q0 K
        have q1 := keepc q1 K
        have q2 := keepc q2 K
        have D2 := Lib.hid (D1.out.trans (K.mono D1.out.size))
        clear K D1
        go_wp2_with fail
        refine (CIb.out _ D2.out).mono ?_
        rintro e x3 ⟨rfl, K⟩
        have q0 := keepc q0 K
        have q1 := keepc q1 K
        have q2 := keepc q2 K
        have D3 := Lib.hid (D2.out.trans (K.mono D2.out.size))
        clear K D2
        go_wp2_with fail
        refine (CU.out _ D3.out).mono ?_
        rintro e x4 ⟨rfl, K⟩
        have q0 := keepc q0 K
        have q1 := keepc q1 K
        have q2 := keepc q2 K
        have D4 := Lib.hid (D3.out.trans (K.mono D3.out.size))
        clear K D3
        go_wp2_with fail
        refine (CX.out _).mono ?_
        rintro e x5 ⟨rfl, K⟩
        have D9 := Lib.hid (D4.out.trans (K.mono D4.out.size))
        clear K
        go_wp2
        go_ret
        exact ⟨rfl, D9.out⟩
  · by_cases g1 : x = a
    · by_cases g2 : x = b
      · have d0 : (((x : Nat) : Int) == 0) = false := nbeqI (by omega)
        have d1 : (((x : Nat) : Int) == (a : Int)) = true := beqI (by omega)
        rw [(V0.out g1).1] at CV
        have KV2 := KV.out (V0.out g1).2
        have d2 : (((x : Nat) : Int) == (b : Int)) = true := beqI (by omega)
        rw [(W0.out g2).1] at CW
        have KW2 := KW.out (W0.out g2).2
        clear U0 V0 W0 KV KW g0 g1 g2
        go_enter Try.func8, Try.ntmps8
        go_wp2_with fail
        refine (CL.out _).mono ?_
        rintro e x1 ⟨rfl, K⟩
        have q0 := keepc q0 K
        have q1 := keepc q1 K
        have q2 := keepc q2 K
        have D1 := Lib.hid (B0.out.trans (K.mono B0.out.size))
        clear K B0
        go_wp2_with fail
        refine (CIa.out _ D1.out).mono ?_
        rintro e x2 ⟨rfl, K⟩
        have q0 := keepc q0 K
        have q1 := keepc q1 K
        have q2 := keepc q2 K
        have D2 := Lib.hid (D1.out.trans (K.mono D1.out.size))
        clear K D1
        go_wp2_with fail
        refine (CIb.out _ D2.out).mono ?_
        rintro e x3 ⟨rfl, K⟩
        have q0 := keepc q0 K
        have q1 := keepc q1 K
        have q2 := keepc q2 K
        have D3 := Lib.hid (D2.out.trans (K.mono D2.out.size))
        clear K D2
        go_wp2_with fail
        refine (CV.out _ D3.out).mono ?_
        rintro e x4 ⟨rfl, K⟩
        have q0 := keepc q0 K
        have q1 := keepc q1 K
        have q2 := keepc q2 K
        have D4 := Lib.hid (D3.out.trans (K.mono D3.out.size))
        clear K D3
        go_wp2_with fail
        refine (CW.out _ D4.out).mono ?_
        rintro e x5 ⟨rfl, K⟩
        have q0 := keepc q0 K
        have q1 := keepc q1 K
        have q2 := keepc q2 K
        have D5 := Lib.hid (D4.out.trans (K.mono D4.out.size))
        clear K D4
        go_wp2_with fail
        refine (CX.out _).mono ?_
        rintro e x6 ⟨rfl, K⟩
        have D9 := Lib.hid (D5.out.trans (K.mono D5.out.size))
        clear K
        go_wp2
        go_ret
        exact ⟨rfl, D9.out⟩
      · have d0 : (((x : Nat) : Int) == 0) = false := nbeqI (by omega)
        have d1 : (((x : Nat) : Int) == (a : Int)) = true := beqI (by omega)
        rw [(V0.out g1).1] at CV
        have KV2 := KV.out (V0.out g1).2
        have d2 : (((x : Nat) : Int) == (b : Int)) = false := nbeqI (by omega)
        clear U0 V0 W0 KV KW g0 g1 g2
        go_enter Try.func8, Try.ntmps8
        go_wp2_with fail
        refine (CL.out _).mono ?_
        rintro e x1 ⟨rfl, K⟩
        have q0 := keepc q0 K
        have q1 := keepc q1 K
        have q2 := keepc q2 K
        have D1 := Lib.hid (B0.out.trans (K.mono B0.out.size))
        clear K B0
        go_wp2_with fail
        refine (CIa.out _ D1.out).mono ?_
        rintro e x2 ⟨rfl, K⟩
        have q0 := keepc q0 K
        have q1 := keepc q1 K
        have q2 := keepc q2 K
        have D2 := Lib.hid (D1.out.trans (K.mono D1.out.size))
        clear K D1
        go_wp2_with fail
        refine (CIb.out _ D2.out).mono ?_
        rintro e x3 ⟨rfl, K⟩
        have q0 := keepc q0 K
        have q1 := keepc q1 K
        have q2 := keepc q2 K
        have D3 := Lib.hid (D2.out.trans (K.mono D2.out.size))
        clear K D2
        go_wp2_with fail
        refine (CV.out _ D3.out).mono ?_
        rintro e x4 ⟨rfl, K⟩
        have q0 := keepc q0 K
        have q1 := keepc q1 K
        have q2 := keepc q2 K
        have D4 := Lib.hid (D3.out.trans (K.mono D3.out.size))
        clear K D3
        go_wp2_with fail
        refine (CX.out _).mono ?_
        rintro e x5 ⟨rfl, K⟩
        have D9 := Lib.hid (D4.out.trans (K.mono D4.out.size))
        clear K
        go_wp2
        go_ret
        exact ⟨rfl, D9.out⟩
    · by_cases g2 : x = b
      · have d0 : (((x : Nat) : Int) == 0) = false := nbeqI (by omega)
        have d1 : (((x : Nat) : Int) == (a : Int)) = false := nbeqI (by omega)
        have d2 : (((x : Nat) : Int) == (b : Int)) = true := beqI (by omega)
        rw [(W0.out g2).1] at CW
        have KW2 := KW.out (W0.out g2).2
        clear U0 V0 W0 KV KW g0 g1 g2
        go_enter Try.func8, Try.ntmps8
        go_wp2_with fail
        refine (CL.out _).mono ?_
        rintro e x1 ⟨rfl, K⟩
        have q0 := keepc q0 K
        have q1 := keepc q1 K
        have q2 := keepc q2 K
        have D1 := Lib.hid (B0.out.trans (K.mono B0.out.size))
        clear K B0
        go_wp2_with fail
        refine (CIa.out _ D1.out).mono ?_
        rintro e x2 ⟨rfl, K⟩
        have q0 := keepc q0 K
        have q1 := keepc q1 K
        have q2 := keepc q2 K
        have D2 := Lib.hid (D1.out.trans (K.mono D1.out.size))
        clear K D1
        go_wp2_with fail
        refine (CIb.out _ D2.out).mono ?_
        rintro e x3 ⟨rfl, K⟩
        have q0 := keepc q0 K
        have q1 := keepc q1 K
        have q2 := keepc q2 K
        have D3 := Lib.hid (D2.out.trans (K.mono D2.out.size))
        clear K D2
        go_wp2_with fail
        refine (CW.out _ D3.out).mono ?_
        rintro e x4 ⟨rfl, K⟩
        have q0 := keepc q0 K
        have q1 := keepc q1 K
        have q2 := keepc q2 K
        have D4 := Lib.hid (D3.out.trans (K.mono D3.out.size))
        clear K D3
        go_wp2_with fail
        refine (CX.out _).mono ?_
        rintro e x5 ⟨rfl, K⟩
        have D9 := Lib.hid (D4.out.trans (K.mono D4.out.size))
        clear K
        go_wp2
        go_ret
        exact ⟨rfl, D9.out⟩
      · have d0 : (((x : Nat) : Int) == 0) = false := nbeqI (by omega)
        have d1 : (((x : Nat) : Int) == (a : Int)) = false := nbeqI (by omega)
        have d2 : (((x : Nat) : Int) == (b : Int)) = false := nbeqI (by omega)
        clear U0 V0 W0 KV KW g0 g1 g2
        go_enter Try.func8, Try.ntmps8
        go_wp2_with fail
        refine (CL.out _).mono ?_
        rintro e x1 ⟨rfl, K⟩
        have q0 := keepc q0 K
        have q1 := keepc q1 K
        have q2 := keepc q2 K
        have D1 := Lib.hid (B0.out.trans (K.mono B0.out.size))
        clear K B0
        go_wp2_with fail
        refine (CIa.out _ D1.out).mono ?_
        rintro e x2 ⟨rfl, K⟩
        have q0 := keepc q0 K
        have q1 := keepc q1 K
        have q2 := keepc q2 K
        have D2 := Lib.hid (D1.out.trans (K.mono D1.out.size))
        clear K D1
        go_wp2_with fail
        refine (CIb.out _ D2.out).mono ?_
        rintro e x3 ⟨rfl, K⟩
        have q0 := keepc q0 K
        have q1 := keepc q1 K
        have q2 := keepc q2 K
        have D3 := Lib.hid (D2.out.trans (K.mono D2.out.size))
        clear K D2
        go_wp2_with fail
        refine (CX.out _).mono ?_
        rintro e x4 ⟨rfl, K⟩
        have D9 := Lib.hid (D3.out.trans (K.mono D3.out.size))
        clear K
        go_wp2
        go_ret
        exact ⟨rfl, D9.out⟩
end Go.Proofs.Ytnlgfkokaphhjaa
