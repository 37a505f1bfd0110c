/- Regions: Is and Sign, by the program and the reference. -/
import Derived.Test.YtnlgfkokaphhjaaRF
import Derived.Test.YtnlgfkokaphhjaaRD
namespace Go.Proofs.Ytnlgfkokaphhjaa
open Go.RowKit

theorem field_fault (a b : Int) (w : World) : (Instr.field 51 (.agg #[.int .i64 a, .int .i64 b]) 0).run Try.prog w = .ok (.int .i64 a) w := by kernel_rfl

set_option maxHeartbeats 2000000 in
set_option maxRecDepth 100000 in
theorem rvalid_any (s : SysV) (w : World) (hr : SysR w s) :
    Calls Try.prog 37 #[.agg #[.int .i64 s.st, .slice s.EA s.el s.ec, .slice s.AA s.ar.length s.ac]] w (VPost w.heap.size w (.bool (okS s))) := by
  have CK : Hid (∀ W, Below w.heap.size w W → Calls Try.prog 52 #[.agg #[.int .i64 s.st, .slice s.EA s.el s.ec, .slice s.AA s.ar.length s.ac]] W (FPost W.heap.size W (okS s))) := fun W hW => rcheck_any s W (hr.below hW (Nat.le_refl _))
  have hfd := field_fault
  clear hr
  generalize okS s = ok at *
  have q0 : (w.alloc (.cells #[.int .i64 s.st, .slice s.EA s.el s.ec, .slice s.AA s.ar.length s.ac] 25)).cell? ⟨w.heap.size, 0, none⟩ = some (.int .i64 s.st) := by simp
  have q1 : (w.alloc (.cells #[.int .i64 s.st, .slice s.EA s.el s.ec, .slice s.AA s.ar.length s.ac] 25)).cell? ⟨w.heap.size, 1, none⟩ = some (.slice s.EA s.el s.ec) := by simp
  have q2 : (w.alloc (.cells #[.int .i64 s.st, .slice s.EA s.el s.ec, .slice s.AA s.ar.length s.ac] 25)).cell? ⟨w.heap.size, 2, none⟩ = some (.slice s.AA s.ar.length s.ac) := by simp
  have B0 : Hid (Below w.heap.size w (w.alloc (.cells #[.int .i64 s.st, .slice s.EA s.el s.ec, .slice s.AA s.ar.length s.ac] 25))) := (Below.refl _ _).alloc (Nat.le_refl _) _
  go_enter Try.func37, Try.ntmps37
  go_wp2_with fail
  refine (CK.out _ B0.out).mono ?_
  rintro e x1 ⟨E, At, rfl, hE, K⟩
  have hE := Lib.hid hE
  have q0 := keepc q0 K
  have q1 := keepc q1 K
  have q2 := keepc q2 K
  have Dx1 := Lib.hid (B0.out.trans (K.mono B0.out.size))
  clear K
  cases ok
  · have z : (E == 0) = false := by simpa using fun h => by have := hE.out.1 h; cases this
    clear hE
    go_wp2
    go_ret
    exact ⟨by first | rfl | simp [z], Dx1.out⟩
  · have z : E = 0 := hE.out.2 rfl
    subst z
    clear hE
    go_wp2
    go_ret
    exact ⟨by first | rfl | simp, Dx1.out⟩

set_option maxHeartbeats 4000000 in
set_option maxRecDepth 100000 in
theorem hasSet_any (s : SysV) (S : Nat) (w : World) (hr : SysR w s) (hS : S < 18446744073709551616) :
    Calls Try.prog 27 #[.agg #[.int .i64 s.st, .slice s.EA s.el s.ec, .slice s.AA s.ar.length s.ac], .int .u64 (S : Nat)] w (VPost w.heap.size w (.bool (goodS s S))) := by
  have CK : Hid (∀ W, Below w.heap.size w W → Calls Try.prog 35 #[.agg #[.int .i64 s.st, .slice s.EA s.el s.ec, .slice s.AA s.ar.length s.ac]] W (FPost W.heap.size W (okS s))) := fun W hW => check_any s W (hr.below hW (Nat.le_refl _))
  have CA : Hid (okS s = true → ∀ W, Calls Try.prog 42 #[.int .i64 s.st] W (fun e w' => e = .returned (.int .u64 (Bt.allV s.st : Nat)) ∧ W = w')) := fun hok W => Bt.all_any _ W
  have CS : Hid (∀ W, Calls Try.prog 41 #[.int .u64 (S : Nat), .int .u64 (Bt.allV s.st : Nat)] W (fun e w' => e = .returned (.bool (Bt.subV S (Bt.allV s.st))) ∧ W = w')) := fun W => Bt.subset_any S _ W hS (allV_lt _)
  have EG : goodS s S = (okS s && (decide (s.st ≤ 64) && Bt.subV S (Bt.allV s.st))) := rfl
  have hfd := field_fault
  rw [EG]
  clear hr EG
  generalize Bt.subV S (Bt.allV s.st) = sb at *
  generalize Bt.allV s.st = av at *
  generalize okS s = ok at *
  have q0 : (w.alloc (.cells #[.int .i64 s.st, .slice s.EA s.el s.ec, .slice s.AA s.ar.length s.ac] 25)).cell? ⟨w.heap.size, 0, none⟩ = some (.int .i64 s.st) := by simp
  have q1 : (w.alloc (.cells #[.int .i64 s.st, .slice s.EA s.el s.ec, .slice s.AA s.ar.length s.ac] 25)).cell? ⟨w.heap.size, 1, none⟩ = some (.slice s.EA s.el s.ec) := by simp
  have q2 : (w.alloc (.cells #[.int .i64 s.st, .slice s.EA s.el s.ec, .slice s.AA s.ar.length s.ac] 25)).cell? ⟨w.heap.size, 2, none⟩ = some (.slice s.AA s.ar.length s.ac) := by simp
  have B0 : Hid (Below w.heap.size w (w.alloc (.cells #[.int .i64 s.st, .slice s.EA s.el s.ec, .slice s.AA s.ar.length s.ac] 25))) := (Below.refl _ _).alloc (Nat.le_refl _) _
  cases ok
  · clear CA CS
    go_enter Try.func27, Try.ntmps27
    go_wp2_with fail
    refine (CK.out _ B0.out).mono ?_
    rintro e x1 ⟨E, At, rfl, hE, K⟩
    have hE := Lib.hid hE
    have q0 := keepc q0 K
    have q1 := keepc q1 K
    have q2 := keepc q2 K
    have Dx1 := Lib.hid (B0.out.trans (K.mono B0.out.size))
    clear K
    have z : (E == 0) = false := by simpa using fun h => by have := hE.out.1 h; cases this
    clear hE
    go_wp2
    go_ret
    exact ⟨by first | rfl | simp [z], Dx1.out⟩
  · have CA2 := Lib.hid (CA.out rfl)
    clear CA
    by_cases h64 : s.st ≤ 64
    · have z64 : decide (s.st ≤ 64) = true := decide_eq_true h64
      rw [z64]
      go_enter Try.func27, Try.ntmps27
      go_wp2_with fail
      refine (CK.out _ B0.out).mono ?_
      rintro e x1 ⟨E, At, rfl, hE, K⟩
      have hE := Lib.hid hE
      have q0 := keepc q0 K
      have q1 := keepc q1 K
      have q2 := keepc q2 K
      have Dx1 := Lib.hid (B0.out.trans (K.mono B0.out.size))
      clear K
      have z : E = 0 := hE.out.2 rfl
      subst z
      clear hE
      go_wp2_with fail
      refine (CA2.out _).mono ?_
      rintro e w3 ⟨rfl, rfl⟩
      go_wp2_with fail
      refine (CS.out _).mono ?_
      rintro e w4 ⟨rfl, K⟩
      have D4 : Hid (Below w.heap.size w w4) := by first | (subst K; exact Dx1) | exact Dx1.out.trans (K.mono Dx1.out.size)
      clear K
      go_wp2
      go_ret
      exact ⟨by first | rfl | simp, D4.out⟩
    · have z64 : decide (s.st ≤ 64) = false := decide_eq_false h64
      rw [z64]
      clear CA2 CS
      go_enter Try.func27, Try.ntmps27
      go_wp2_with fail
      refine (CK.out _ B0.out).mono ?_
      rintro e x1 ⟨E, At, rfl, hE, K⟩
      have hE := Lib.hid hE
      have q0 := keepc q0 K
      have q1 := keepc q1 K
      have q2 := keepc q2 K
      have Dx1 := Lib.hid (B0.out.trans (K.mono B0.out.size))
      clear K
      have z : E = 0 := hE.out.2 rfl
      subst z
      clear hE
      go_wp2
      go_ret
      exact ⟨by first | rfl | simp [z64], Dx1.out⟩

set_option maxHeartbeats 4000000 in
set_option maxRecDepth 100000 in
theorem rgood_any (s : SysV) (S : Nat) (w : World) (hr : SysR w s) (hS : S < 18446744073709551616) :
    Calls Try.prog 30 #[.agg #[.int .i64 s.st, .slice s.EA s.el s.ec, .slice s.AA s.ar.length s.ac], .int .u64 (S : Nat)] w (VPost w.heap.size w (.bool (goodS s S))) := by
  have CK : Hid (∀ W, Below w.heap.size w W → Calls Try.prog 37 #[.agg #[.int .i64 s.st, .slice s.EA s.el s.ec, .slice s.AA s.ar.length s.ac]] W (VPost W.heap.size W (.bool (okS s)))) := fun W hW => rvalid_any s W (hr.below hW (Nat.le_refl _))
  have CA : Hid (okS s = true → ∀ W, Calls Try.prog 26 #[.int .i64 s.st] W (fun e w' => e = .returned (.int .u64 (Bt.allV s.st : Nat)) ∧ W = w')) := fun hok W => Bt.rall_any _ W (by have := okS_parts hok; omega) (by have := okS_parts hok; omega)
  have CS : Hid (∀ W, Calls Try.prog 44 #[.int .u64 (S : Nat), .int .u64 (Bt.allV s.st : Nat)] W (VPost W.heap.size W (.bool (Bt.subV S (Bt.allV s.st))))) := fun W => Bt.rsubset_any S _ W hS (allV_lt _)
  have EG : goodS s S = (okS s && (decide (s.st ≤ 64) && Bt.subV S (Bt.allV s.st))) := rfl
  have hfd := field_fault
  rw [EG]
  clear hr EG
  generalize Bt.subV S (Bt.allV s.st) = sb at *
  generalize Bt.allV s.st = av at *
  generalize okS s = ok at *
  have q0 : (w.alloc (.cells #[.int .i64 s.st, .slice s.EA s.el s.ec, .slice s.AA s.ar.length s.ac] 25)).cell? ⟨w.heap.size, 0, none⟩ = some (.int .i64 s.st) := by simp
  have q1 : (w.alloc (.cells #[.int .i64 s.st, .slice s.EA s.el s.ec, .slice s.AA s.ar.length s.ac] 25)).cell? ⟨w.heap.size, 1, none⟩ = some (.slice s.EA s.el s.ec) := by simp
  have q2 : (w.alloc (.cells #[.int .i64 s.st, .slice s.EA s.el s.ec, .slice s.AA s.ar.length s.ac] 25)).cell? ⟨w.heap.size, 2, none⟩ = some (.slice s.AA s.ar.length s.ac) := by simp
  have B0 : Hid (Below w.heap.size w (w.alloc (.cells #[.int .i64 s.st, .slice s.EA s.el s.ec, .slice s.AA s.ar.length s.ac] 25))) := (Below.refl _ _).alloc (Nat.le_refl _) _
  cases ok
  · clear CA CS
    go_enter Try.func30, Try.ntmps30
    go_wp2_with fail
    refine (CK.out _ B0.out).mono ?_
    rintro e x1 ⟨rfl, K⟩
    have q0 := keepc q0 K
    have q1 := keepc q1 K
    have q2 := keepc q2 K
    have Dx1 := Lib.hid (B0.out.trans (K.mono B0.out.size))
    clear K
    go_wp2
    go_ret
    exact ⟨by first | rfl | simp [z], Dx1.out⟩
  · have CA2 := Lib.hid (CA.out rfl)
    clear CA
    by_cases h64 : s.st ≤ 64
    · have z64 : decide (s.st ≤ 64) = true := decide_eq_true h64
      rw [z64]
      go_enter Try.func30, Try.ntmps30
      go_wp2_with fail
      refine (CK.out _ B0.out).mono ?_
      rintro e x1 ⟨rfl, K⟩
      have q0 := keepc q0 K
      have q1 := keepc q1 K
      have q2 := keepc q2 K
      have Dx1 := Lib.hid (B0.out.trans (K.mono B0.out.size))
      clear K
      go_wp2_with fail
      refine (CA2.out _).mono ?_
      rintro e w3 ⟨rfl, rfl⟩
      go_wp2_with fail
      refine (CS.out _).mono ?_
      rintro e w4 ⟨rfl, K⟩
      have D4 : Hid (Below w.heap.size w w4) := by first | (subst K; exact Dx1) | exact Dx1.out.trans (K.mono Dx1.out.size)
      clear K
      go_wp2
      go_ret
      exact ⟨by first | rfl | simp, D4.out⟩
    · have z64 : decide (s.st ≤ 64) = false := decide_eq_false h64
      rw [z64]
      clear CA2 CS
      go_enter Try.func30, Try.ntmps30
      go_wp2_with fail
      refine (CK.out _ B0.out).mono ?_
      rintro e x1 ⟨rfl, K⟩
      have q0 := keepc q0 K
      have q1 := keepc q1 K
      have q2 := keepc q2 K
      have Dx1 := Lib.hid (B0.out.trans (K.mono B0.out.size))
      clear K
      go_wp2
      go_ret
      exact ⟨by first | rfl | simp [z64], Dx1.out⟩

set_option maxHeartbeats 4000000 in
set_option maxRecDepth 100000 in
theorem isRegion_any (T c N S : Nat) (f : Nat → List EdgeV) (w : World) (hr : TabE w T N f) (hN : N ≤ 1000) (hf : ∀ e, (f e).length ≤ 1000) (hS : S < 18446744073709551616) :
    Calls Try.prog 32 #[.slice (some ⟨T, 0, none⟩) N c, .int .u64 (S : Nat)] w (VPost w.heap.size w (.bool ((List.range N).all fun e => (signZ S (f e)).2))) := by
  have CC : Hid (∀ A c e W, ReadsE W A (f e) → Calls Try.prog 28 #[.slice A (f e).length c, .int .u64 (S : Nat)] W (fun e' w' => e' = .returned (.tuple #[.int .i64 (signZ S (f e)).1, .bool (signZ S (f e)).2]) ∧ Below W.heap.size W w')) := fun A c e W h => sign_any A (f e) c S W h (hf e) hS
  have GN : Hid (∀ e, e < N → (signZ S (f e)).2 = false → ((List.range N).all fun e => (signZ S (f e)).2) = false) := fun e he h => by
    rw [List.all_eq_false]
    exact ⟨e, List.mem_range.2 he, by rw [h]; decide⟩
  have GY : Hid ((∀ e, e < N → (signZ S (f e)).2 = true) → ((List.range N).all fun e => (signZ S (f e)).2) = true) := fun h => List.all_eq_true.2 fun e he => h e (List.mem_range.1 he)
  have HR := Lib.hid hr
  clear hr hf
  generalize ((List.range N).all fun e => (signZ S (f e)).2) = R at *
  go_enter Try.func32, Try.ntmps32
  go_wp2_with fail
  go_loopw [11] (fun q wr => ∃ k : Nat, k ≤ N ∧ q = .int .i64 k ∧ Hid (∀ j, j < k → (signZ S (f j)).2 = true) ∧ Hid (Below w.heap.size w wr)) (fun q _ => N - (intOf q).toNat)
  case atStart => exact ⟨0, by omega, rfl, fun j hj => absurd hj (by omega), Below.refl _ _⟩
  case round =>
    obtain ⟨k, hk, rfl, HX, BB⟩ := hrel
    by_cases hlt : k < N
    · obtain ⟨A, cc, ht, hre⟩ := (HR.out.below BB.out) k hlt
      have C := CC.out A cc k
      have GNk := Lib.hid (GN.out k hlt)
      have HF : Hid ((signZ S (f k)).2 = true → ∀ j, j < k + 1 → (signZ S (f j)).2 = true) := fun h j hj => by
        by_cases e : j = k
        · rw [e]; exact h
        · exact HX.out j (by omega)
      generalize signZ S (f k) = v at *
      generalize f k = l at *
      obtain ⟨v1, v2⟩ := v
      dsimp only at *
      have C := Lib.hid (C _ hre)
      clear hre CC HX GN
      cases v2
      · have E := Lib.hid (GNk.out rfl)
        clear HF GNk
        go_wp2_with fail
        refine (C.out).mono ?_
        rintro e w2 ⟨rfl, K⟩
        have K3 := Lib.hid (BB.out.trans (K.mono BB.out.size))
        clear K
        go_wp2
        go_ret
        exact ⟨by rw [E.out]; rfl, K3.out⟩
      · have HF2 := Lib.hid (HF.out rfl)
        clear HF GNk
        go_wp2_with fail
        refine (C.out).mono ?_
        rintro e w2 ⟨rfl, K⟩
        have K2 := Lib.hid (BB.out.trans (K.mono BB.out.size))
        clear K
        go_wp2
        go_roundw
        case rel => exact ⟨k + 1, by omega, by go_num, HF2, K2⟩
        case measure => simp [intOf]; omega
    · have E := Lib.hid (GY.out fun j hj => HX.out j (by omega))
      clear HX GN GY CC
      go_wp2
      go_ret
      exact ⟨by rw [E.out]; rfl, BB.out⟩
theorem evL_len (ar : List EdgeV) (e : Int) : (evL ar e).length ≤ ar.length := List.length_filter_le _ _

set_option maxHeartbeats 4000000 in
set_option maxRecDepth 100000 in
theorem Is_any (s : SysV) (S : Nat) (w : World) (hr : SysR w s) (hS : S < 18446744073709551616) :
    Calls Try.prog 14 #[.agg #[.int .i64 s.st, .slice s.EA s.el s.ec, .slice s.AA s.ar.length s.ac], .int .u64 (S : Nat)] w (VPost w.heap.size w (.bool (isRg s S))) := by
  have CG : Hid (∀ W, Below w.heap.size w W → Calls Try.prog 27 #[.agg #[.int .i64 s.st, .slice s.EA s.el s.ec, .slice s.AA s.ar.length s.ac], .int .u64 (S : Nat)] W (VPost W.heap.size W (.bool (goodS s S)))) := fun W hW => hasSet_any s S W (hr.below hW (Nat.le_refl _)) hS
  have CB : Hid (goodS s S = true → ∀ W, Below w.heap.size w W → Calls Try.prog 29 #[.agg #[.int .i64 s.st, .slice s.EA s.el s.ec, .slice s.AA s.ar.length s.ac]] W (fun e w' => ∃ T c, e = .returned (.slice (some ⟨T, 0, none⟩) s.el c) ∧ TabE w' T s.el (fun e => evL s.ar (e : Nat)) ∧ Below W.heap.size W w')) := fun hg W hW => byEvents_any s W (hr.below hW (Nat.le_refl _)) ((good_iff hS).1 hg).1
  have CR : Hid (∀ T c W, TabE W T s.el (fun e => evL s.ar (e : Nat)) → Calls Try.prog 32 #[.slice (some ⟨T, 0, none⟩) s.el c, .int .u64 (S : Nat)] W (VPost W.heap.size W (.bool (regB s.ar s.el S)))) := fun T c W h => isRegion_any T c s.el S _ W h (by have := hr.hel; omega) (fun e => Nat.le_trans (evL_len _ _) (by have := hr.hal; omega)) hS
  have EG : isRg s S = (goodS s S && regB s.ar s.el S) := rfl
  rw [EG]
  clear hr EG
  generalize regB s.ar s.el S = rb at *
  generalize goodS s S = g at *
  have q0 : (w.alloc (.cells #[.int .i64 s.st, .slice s.EA s.el s.ec, .slice s.AA s.ar.length s.ac] 25)).cell? ⟨w.heap.size, 0, none⟩ = some (.int .i64 s.st) := by simp
  have q1 : (w.alloc (.cells #[.int .i64 s.st, .slice s.EA s.el s.ec, .slice s.AA s.ar.length s.ac] 25)).cell? ⟨w.heap.size, 1, none⟩ = some (.slice s.EA s.el s.ec) := by simp
  have q2 : (w.alloc (.cells #[.int .i64 s.st, .slice s.EA s.el s.ec, .slice s.AA s.ar.length s.ac] 25)).cell? ⟨w.heap.size, 2, none⟩ = some (.slice s.AA s.ar.length s.ac) := by simp
  have B0 : Hid (Below w.heap.size w (w.alloc (.cells #[.int .i64 s.st, .slice s.EA s.el s.ec, .slice s.AA s.ar.length s.ac] 25))) := (Below.refl _ _).alloc (Nat.le_refl _) _
  cases g
  · clear CB CR
    go_enter Try.func14, Try.ntmps14
    go_wp2_with fail
    refine (CG.out _ B0.out).mono ?_
    rintro e x1 ⟨rfl, K⟩
    have q0 := keepc q0 K
    have q1 := keepc q1 K
    have q2 := keepc q2 K
    have Dx1 := Lib.hid (B0.out.trans (K.mono B0.out.size))
    clear K
    go_wp2
    go_ret
    exact ⟨by first | rfl | simp, Dx1.out⟩
  · have CB2 := Lib.hid (CB.out rfl)
    clear CB
    go_enter Try.func14, Try.ntmps14
    go_wp2_with fail
    refine (CG.out _ B0.out).mono ?_
    rintro e x1 ⟨rfl, K⟩
    have q0 := keepc q0 K
    have q1 := keepc q1 K
    have q2 := keepc q2 K
    have Dx1 := Lib.hid (B0.out.trans (K.mono B0.out.size))
    clear K
    go_wp2_with fail
    refine (CB2.out _ Dx1.out).mono ?_
    rintro e x2 ⟨T, c, rfl, HT, K⟩
    have HT := Lib.hid HT
    have q0 := keepc q0 K
    have q1 := keepc q1 K
    have q2 := keepc q2 K
    have Dx2 := Lib.hid (Dx1.out.trans (K.mono Dx1.out.size))
    clear K
    go_wp2_with fail
    refine (CR.out T c _ HT.out).mono ?_
    rintro e x3 ⟨rfl, K⟩
    have q0 := keepc q0 K
    have q1 := keepc q1 K
    have q2 := keepc q2 K
    have Dx3 := Lib.hid (Dx2.out.trans (K.mono Dx2.out.size))
    clear K
    go_wp2
    go_ret
    exact ⟨by first | rfl | simp, Dx3.out⟩

set_option maxHeartbeats 4000000 in
set_option maxRecDepth 100000 in
theorem rIs_any (s : SysV) (S : Nat) (w : World) (hr : SysR w s) (hS : S < 18446744073709551616) :
    Calls Try.prog 15 #[.agg #[.int .i64 s.st, .slice s.EA s.el s.ec, .slice s.AA s.ar.length s.ac], .int .u64 (S : Nat)] w (VPost w.heap.size w (.bool (isRg s S))) := by
  have CG : Hid (∀ W, Below w.heap.size w W → Calls Try.prog 30 #[.agg #[.int .i64 s.st, .slice s.EA s.el s.ec, .slice s.AA s.ar.length s.ac], .int .u64 (S : Nat)] W (VPost W.heap.size W (.bool (goodS s S)))) := fun W hW => rgood_any s S W (hr.below hW (Nat.le_refl _)) hS
  have CR : Hid (∀ W, Below w.heap.size w W → Calls Try.prog 33 #[.agg #[.int .i64 s.st, .slice s.EA s.el s.ec, .slice s.AA s.ar.length s.ac], .int .u64 (S : Nat)] W (VPost W.heap.size W (.bool (regB s.ar s.el S)))) := fun W hW => rregion_any s S W (hr.below hW (Nat.le_refl _)) hS
  have EG : isRg s S = (goodS s S && regB s.ar s.el S) := rfl
  rw [EG]
  clear hr EG
  generalize regB s.ar s.el S = rb at *
  generalize goodS s S = g at *
  have q0 : (w.alloc (.cells #[.int .i64 s.st, .slice s.EA s.el s.ec, .slice s.AA s.ar.length s.ac] 25)).cell? ⟨w.heap.size, 0, none⟩ = some (.int .i64 s.st) := by simp
  have q1 : (w.alloc (.cells #[.int .i64 s.st, .slice s.EA s.el s.ec, .slice s.AA s.ar.length s.ac] 25)).cell? ⟨w.heap.size, 1, none⟩ = some (.slice s.EA s.el s.ec) := by simp
  have q2 : (w.alloc (.cells #[.int .i64 s.st, .slice s.EA s.el s.ec, .slice s.AA s.ar.length s.ac] 25)).cell? ⟨w.heap.size, 2, none⟩ = some (.slice s.AA s.ar.length s.ac) := by simp
  have B0 : Hid (Below w.heap.size w (w.alloc (.cells #[.int .i64 s.st, .slice s.EA s.el s.ec, .slice s.AA s.ar.length s.ac] 25))) := (Below.refl _ _).alloc (Nat.le_refl _) _
  cases g
  · clear CR
    go_enter Try.func15, Try.ntmps15
    go_wp2_with fail
    refine (CG.out _ B0.out).mono ?_
    rintro e x1 ⟨rfl, K⟩
    have q0 := keepc q0 K
    have q1 := keepc q1 K
    have q2 := keepc q2 K
    have Dx1 := Lib.hid (B0.out.trans (K.mono B0.out.size))
    clear K
    go_wp2
    go_ret
    exact ⟨by first | rfl | simp, Dx1.out⟩
  · skip
    go_enter Try.func15, Try.ntmps15
    go_wp2_with fail
    refine (CG.out _ B0.out).mono ?_
    rintro e x1 ⟨rfl, K⟩
    have q0 := keepc q0 K
    have q1 := keepc q1 K
    have q2 := keepc q2 K
    have Dx1 := Lib.hid (B0.out.trans (K.mono B0.out.size))
    clear K
    go_wp2_with fail
    refine (CR.out _ Dx1.out).mono ?_
    rintro e x2 ⟨rfl, K⟩
    have q0 := keepc q0 K
    have q1 := keepc q1 K
    have q2 := keepc q2 K
    have Dx2 := Lib.hid (Dx1.out.trans (K.mono Dx1.out.size))
    clear K
    go_wp2
    go_ret
    exact ⟨by first | rfl | simp, Dx2.out⟩

set_option maxHeartbeats 8000000 in
set_option maxRecDepth 100000 in
theorem Sign_any (s : SysV) (S : Nat) (ev : Int) (w : World) (hr : SysR w s) (hS : S < 18446744073709551616) :
    Calls Try.prog 12 #[.agg #[.int .i64 s.st, .slice s.EA s.el s.ec, .slice s.AA s.ar.length s.ac], .int .u64 (S : Nat), .int .i64 ev] w (fun e w' => e = .returned (.tuple #[.int .i64 (sgnV s S ev).1, .bool (sgnV s S ev).2]) ∧ Below w.heap.size w w') := by
  have CG : Hid (∀ W, Below w.heap.size w W → Calls Try.prog 27 #[.agg #[.int .i64 s.st, .slice s.EA s.el s.ec, .slice s.AA s.ar.length s.ac], .int .u64 (S : Nat)] W (VPost W.heap.size W (.bool (goodS s S)))) := fun W hW => hasSet_any s S W (hr.below hW (Nat.le_refl _)) hS
  have CB : Hid (goodS s S = true → ∀ W, Below w.heap.size w W → Calls Try.prog 29 #[.agg #[.int .i64 s.st, .slice s.EA s.el s.ec, .slice s.AA s.ar.length s.ac]] W (fun e w' => ∃ T c, e = .returned (.slice (some ⟨T, 0, none⟩) s.el c) ∧ TabE w' T s.el (fun e => evL s.ar (e : Nat)) ∧ Below W.heap.size W w')) := fun hg W hW => byEvents_any s W (hr.below hW (Nat.le_refl _)) ((good_iff hS).1 hg).1
  have hle : (evL s.ar ev).length ≤ 1000 := by have h1 := evL_len s.ar ev; have h2 := hr.hal; omega
  have CR : Hid (∀ A c W, ReadsE W A (evL s.ar ev) → Calls Try.prog 28 #[.slice A (evL s.ar ev).length c, .int .u64 (S : Nat)] W (fun e' w' => e' = .returned (.tuple #[.int .i64 (signZ S (evL s.ar ev)).1, .bool (signZ S (evL s.ar ev)).2]) ∧ Below W.heap.size W w')) := fun A c W h => sign_any A (evL s.ar ev) c S W h hle hS
  have EN : Hid (¬ (goodS s S = true ∧ 0 ≤ ev ∧ ev < s.el) → sgnV s S ev = (0, false)) := fun h => if_neg fun h2 => h (by
    rw [Bool.and_eq_true] at h2
    refine ⟨h2.1, ?_⟩
    have h3 := h2.2
    unfold inE at h3
    simpa using h3)
  have EY : Hid (goodS s S = true → 0 ≤ ev → ev < s.el → sgnV s S ev = signZ S (evL s.ar ev)) := fun h h0 h1 => if_pos (by
    rw [h]
    unfold inE
    rw [decide_eq_true h0, decide_eq_true h1]
    rfl)
  clear hr
  generalize hg : goodS s S = g at *
  clear hg
  have q0 : (w.alloc (.cells #[.int .i64 s.st, .slice s.EA s.el s.ec, .slice s.AA s.ar.length s.ac] 25)).cell? ⟨w.heap.size, 0, none⟩ = some (.int .i64 s.st) := by simp
  have q1 : (w.alloc (.cells #[.int .i64 s.st, .slice s.EA s.el s.ec, .slice s.AA s.ar.length s.ac] 25)).cell? ⟨w.heap.size, 1, none⟩ = some (.slice s.EA s.el s.ec) := by simp
  have q2 : (w.alloc (.cells #[.int .i64 s.st, .slice s.EA s.el s.ec, .slice s.AA s.ar.length s.ac] 25)).cell? ⟨w.heap.size, 2, none⟩ = some (.slice s.AA s.ar.length s.ac) := by simp
  have B0 : Hid (Below w.heap.size w (w.alloc (.cells #[.int .i64 s.st, .slice s.EA s.el s.ec, .slice s.AA s.ar.length s.ac] 25))) := (Below.refl _ _).alloc (Nat.le_refl _) _
  by_cases hin : g = true ∧ 0 ≤ ev ∧ ev < s.el
  rotate_left
  · rw [EN.out hin]
    clear EN EY CR CB
    cases g
    · clear hin
      go_enter Try.func12, Try.ntmps12
      go_wp2_with fail
      refine (CG.out _ B0.out).mono ?_
      rintro e x1 ⟨rfl, K⟩
      have q0 := keepc q0 K
      have q1 := keepc q1 K
      have q2 := keepc q2 K
      have Dx1 := Lib.hid (B0.out.trans (K.mono B0.out.size))
      clear K
      go_wp2
      go_ret2
      exact ⟨by first | rfl | simp, Dx1.out⟩
    · by_cases h0 : ev < 0
      · clear hin
        go_enter Try.func12, Try.ntmps12
        go_wp2_with fail
        refine (CG.out _ B0.out).mono ?_
        rintro e x1 ⟨rfl, K⟩
        have q0 := keepc q0 K
        have q1 := keepc q1 K
        have q2 := keepc q2 K
        have Dx1 := Lib.hid (B0.out.trans (K.mono B0.out.size))
        clear K
        go_wp2
        go_ret2
        exact ⟨by first | rfl | simp, Dx1.out⟩
      · have h1 : (s.el : Int) ≤ ev := by
          apply Classical.byContradiction
          intro hn
          exact hin ⟨rfl, by omega, by omega⟩
        clear hin
        go_enter Try.func12, Try.ntmps12
        go_wp2_with fail
        refine (CG.out _ B0.out).mono ?_
        rintro e x1 ⟨rfl, K⟩
        have q0 := keepc q0 K
        have q1 := keepc q1 K
        have q2 := keepc q2 K
        have Dx1 := Lib.hid (B0.out.trans (K.mono B0.out.size))
        clear K
        go_wp2
        go_ret2
        exact ⟨by first | rfl | simp, Dx1.out⟩
  obtain ⟨hg, h0, h1⟩ := hin
  rw [EY.out hg h0 h1]
  subst hg
  have h0' : ¬ ev < 0 := by omega
  have h1' : ¬ (s.el : Int) ≤ ev := by omega
  clear EN EY
  have CB2 := Lib.hid (CB.out rfl)
  clear CB
  obtain ⟨e, rfl⟩ : ∃ e : Nat, ev = e := ⟨ev.toNat, by omega⟩
  go_enter Try.func12, Try.ntmps12
  go_wp2_with fail
  refine (CG.out _ B0.out).mono ?_
  rintro e x1 ⟨rfl, K⟩
  have q0 := keepc q0 K
  have q1 := keepc q1 K
  have q2 := keepc q2 K
  have Dx1 := Lib.hid (B0.out.trans (K.mono B0.out.size))
  clear K
  go_wp2_with fail
  refine (CB2.out _ Dx1.out).mono ?_
  rintro e x2 ⟨T, c, rfl, HT, K⟩
  have HT := Lib.hid HT
  have q0 := keepc q0 K
  have q1 := keepc q1 K
  have q2 := keepc q2 K
  have Dx2 := Lib.hid (Dx1.out.trans (K.mono Dx1.out.size))
  clear K
  obtain ⟨A, cc, ht, hre⟩ := HT.out e (by omega)
  dsimp only at ht hre
  have C := Lib.hid (CR.out A cc _ hre)
  clear hre HT CR
  generalize hvv : signZ S (evL s.ar (e : Int)) = v at *
  have HVV := Lib.hid hvv
  clear hvv
  generalize hll : evL s.ar (e : Int) = l at *
  have HLL := Lib.hid hll
  clear hll
  obtain ⟨v1, v2⟩ := v
  dsimp only at *
  go_wp2_with fail
  refine (C.out).mono ?_
  rintro e x3 ⟨rfl, K⟩
  have Dx3 := Lib.hid (Dx2.out.trans (K.mono Dx2.out.size))
  clear K
  go_wp2
  go_ret2
  exact ⟨by rw [HLL.out, HVV.out]; rfl, Dx3.out⟩

set_option maxHeartbeats 8000000 in
set_option maxRecDepth 100000 in
theorem rSign_any (s : SysV) (S : Nat) (ev : Int) (w : World) (hr : SysR w s) (hS : S < 18446744073709551616) :
    Calls Try.prog 13 #[.agg #[.int .i64 s.st, .slice s.EA s.el s.ec, .slice s.AA s.ar.length s.ac], .int .u64 (S : Nat), .int .i64 ev] w (fun e w' => e = .returned (.tuple #[.int .i64 (sgnV s S ev).1, .bool (sgnV s S ev).2]) ∧ Below w.heap.size w w') := by
  have CG : Hid (∀ W, Below w.heap.size w W → Calls Try.prog 30 #[.agg #[.int .i64 s.st, .slice s.EA s.el s.ec, .slice s.AA s.ar.length s.ac], .int .u64 (S : Nat)] W (VPost W.heap.size W (.bool (goodS s S)))) := fun W hW => rgood_any s S W (hr.below hW (Nat.le_refl _)) hS
  have CR : Hid (∀ W, Below w.heap.size w W → Calls Try.prog 31 #[.agg #[.int .i64 s.st, .slice s.EA s.el s.ec, .slice s.AA s.ar.length s.ac], .int .u64 (S : Nat), .int .i64 ev] W (fun e' w' => e' = .returned (.tuple #[.int .i64 (signZ S (evL s.ar ev)).1, .bool (signZ S (evL s.ar ev)).2]) ∧ Below W.heap.size W w')) := fun W hW => rsign_any s S ev W (hr.below hW (Nat.le_refl _)) hS
  have EN : Hid (¬ (goodS s S = true ∧ 0 ≤ ev ∧ ev < s.el) → sgnV s S ev = (0, false)) := fun h => if_neg fun h2 => h (by
    rw [Bool.and_eq_true] at h2
    refine ⟨h2.1, ?_⟩
    have h3 := h2.2
    unfold inE at h3
    simpa using h3)
  have EY : Hid (goodS s S = true → 0 ≤ ev → ev < s.el → sgnV s S ev = signZ S (evL s.ar ev)) := fun h h0 h1 => if_pos (by
    rw [h]
    unfold inE
    rw [decide_eq_true h0, decide_eq_true h1]
    rfl)
  clear hr
  generalize hg : goodS s S = g at *
  clear hg
  have q0 : (w.alloc (.cells #[.int .i64 s.st, .slice s.EA s.el s.ec, .slice s.AA s.ar.length s.ac] 25)).cell? ⟨w.heap.size, 0, none⟩ = some (.int .i64 s.st) := by simp
  have q1 : (w.alloc (.cells #[.int .i64 s.st, .slice s.EA s.el s.ec, .slice s.AA s.ar.length s.ac] 25)).cell? ⟨w.heap.size, 1, none⟩ = some (.slice s.EA s.el s.ec) := by simp
  have q2 : (w.alloc (.cells #[.int .i64 s.st, .slice s.EA s.el s.ec, .slice s.AA s.ar.length s.ac] 25)).cell? ⟨w.heap.size, 2, none⟩ = some (.slice s.AA s.ar.length s.ac) := by simp
  have B0 : Hid (Below w.heap.size w (w.alloc (.cells #[.int .i64 s.st, .slice s.EA s.el s.ec, .slice s.AA s.ar.length s.ac] 25))) := (Below.refl _ _).alloc (Nat.le_refl _) _
  by_cases hin : g = true ∧ 0 ≤ ev ∧ ev < s.el
  rotate_left
  · rw [EN.out hin]
    clear EN EY CR
    cases g
    · clear hin
      go_enter Try.func13, Try.ntmps13
      go_wp2_with fail
      refine (CG.out _ B0.out).mono ?_
      rintro e x1 ⟨rfl, K⟩
      have q0 := keepc q0 K
      have q1 := keepc q1 K
      have q2 := keepc q2 K
      have Dx1 := Lib.hid (B0.out.trans (K.mono B0.out.size))
      clear K
      go_wp2
      go_ret2
      exact ⟨by first | rfl | simp, Dx1.out⟩
    · by_cases h0 : ev < 0
      · clear hin
        go_enter Try.func13, Try.ntmps13
        go_wp2_with fail
        refine (CG.out _ B0.out).mono ?_
        rintro e x1 ⟨rfl, K⟩
        have q0 := keepc q0 K
        have q1 := keepc q1 K
        have q2 := keepc q2 K
        have Dx1 := Lib.hid (B0.out.trans (K.mono B0.out.size))
        clear K
        go_wp2
        go_ret2
        exact ⟨by first | rfl | simp, Dx1.out⟩
      · have h1 : (s.el : Int) ≤ ev := by
          apply Classical.byContradiction
          intro hn
          exact hin ⟨rfl, by omega, by omega⟩
        clear hin
        go_enter Try.func13, Try.ntmps13
        go_wp2_with fail
        refine (CG.out _ B0.out).mono ?_
        rintro e x1 ⟨rfl, K⟩
        have q0 := keepc q0 K
        have q1 := keepc q1 K
        have q2 := keepc q2 K
        have Dx1 := Lib.hid (B0.out.trans (K.mono B0.out.size))
        clear K
        go_wp2
        go_ret2
        exact ⟨by first | rfl | simp, Dx1.out⟩
  obtain ⟨hg, h0, h1⟩ := hin
  rw [EY.out hg h0 h1]
  subst hg
  have h0' : ¬ ev < 0 := by omega
  have h1' : ¬ (s.el : Int) ≤ ev := by omega
  clear EN EY
  generalize signZ S (evL s.ar ev) = v at *
  obtain ⟨v1, v2⟩ := v
  dsimp only at *
  go_enter Try.func13, Try.ntmps13
  go_wp2_with fail
  refine (CG.out _ B0.out).mono ?_
  rintro e x1 ⟨rfl, K⟩
  have q0 := keepc q0 K
  have q1 := keepc q1 K
  have q2 := keepc q2 K
  have Dx1 := Lib.hid (B0.out.trans (K.mono B0.out.size))
  clear K
  go_wp2_with fail
  refine (CR.out _ Dx1.out).mono ?_
  rintro e x2 ⟨rfl, K⟩
  have q0 := keepc q0 K
  have q1 := keepc q1 K
  have q2 := keepc q2 K
  have Dx2 := Lib.hid (Dx1.out.trans (K.mono Dx1.out.size))
  clear K
  go_wp2
  go_ret2
  exact ⟨rfl, Dx2.out⟩
end Go.Proofs.Ytnlgfkokaphhjaa
