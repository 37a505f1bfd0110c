/- Bounded natural solutions: Count of the reference. -/
import Derived.Test.YtneediihponfiaaNVM
namespace Go.Proofs.Ytneediihponfiaa
open Go.RowKit

set_option maxHeartbeats 8000000 in
set_option maxRecDepth 100000 in
theorem rcount_bad (p : PV) (w : World) (hr : PR w p) (hl : lensOk p) (hc : chkP p.L p.b p.u ≠ 0) :
    Calls Try.prog 17 #[.slice p.A p.L.length p.ca, .slice p.B p.b.length p.cb, .slice p.U p.u.length p.cu] w (VPost w.heap.size w (cntE p)) := by
  have CK : Hid (∀ W, Below w.heap.size w W → Calls Try.prog 12 #[.slice p.A p.L.length p.ca, .slice p.B p.b.length p.cb, .slice p.U p.u.length p.cu] W (fun e w' => e = .returned (.int .i64 (chkP p.L p.b p.u)) ∧ W = w')) := fun W hW => rcheck_any _ _ _ _ _ _ _ _ _ W (hr.below hW).rA hl.1 (hr.below hW).rB hl.2.1 (hr.below hW).rU hl.2.2
  rw [cnt_bad hc]
  generalize chkP p.L p.b p.u = E at *
  have hE : (E != 0) = true := by simpa using hc
  clear hr hl
  go_enter Try.func17, Try.ntmps17
  go_wp2_with fail
  refine (CK.out _ (Below.refl _ _)).mono ?_
  rintro e x1 ⟨rfl, rfl⟩
  go_wp2_with fail
  refine (CK.out _ (Below.refl _ _)).mono ?_
  rintro e x1 ⟨rfl, rfl⟩
  go_wp2
  go_ret2
  exact ⟨rfl, Below.refl _ _⟩
set_option maxHeartbeats 8000000 in
set_option maxRecDepth 100000 in
theorem rcount_ok (p : PV) (w : World) (hr : PR w p) (hl : lensOk p) (hc : chkP p.L p.b p.u = 0) :
    Calls Try.prog 17 #[.slice p.A p.L.length p.ca, .slice p.B p.b.length p.cb, .slice p.U p.u.length p.cu] w (VPost w.heap.size w (cntE p)) := by
  have CK : Hid (∀ W, Below w.heap.size w W → Calls Try.prog 12 #[.slice p.A p.L.length p.ca, .slice p.B p.b.length p.cb, .slice p.U p.u.length p.cu] W (fun e w' => e = .returned (.int .i64 (chkP p.L p.b p.u)) ∧ W = w')) := fun W hW => rcheck_any _ _ _ _ _ _ _ _ _ W (hr.below hW).rA hl.1 (hr.below hW).rB hl.2.1 (hr.below hW).rU hl.2.2
  rw [cnt_fine hc]
  rw [hc] at CK
  have D0 := chk0 hc
  have CP : Hid (∀ W, Below w.heap.size w W → Calls Try.prog 21 #[.slice p.U p.u.length p.cu] W (fun e w' => e = .returned (.int .i64 ((prodN p.u : Nat) : Int)) ∧ W = w')) := fun W hW => by
    rw [← prod_prodN p.u (fun k hk => (withB_at D0.ub k hk).1)]
    exact rproduct_any _ _ _ W (hr.below hW).rU hl.2.2 D0.ub D0.lim
  have CV : Hid (∀ W n, Below w.heap.size w W → n ≤ 100000 → Calls Try.prog 28 #[.slice p.U p.u.length p.cu, .int .i64 (n : Nat)] W (fun e w' => ∃ A c, e = .returned (.slice A (vecN p.u n).length c) ∧ FarG w' w.heap.size ⟨A, vecN p.u n, c⟩ ∧ Below W.heap.size W w')) := fun W n hW hn => by
    refine (rvector_any p.U p.u p.cu n W (hr.below hW).rU D0.u64 D0.ub hn).mono ?_
    rintro e w' ⟨A, c, rfl, h1, h2, h3⟩
    rw [vecV_eq] at h1 h2 ⊢
    exact ⟨A, c, rfl, ⟨⟨h1, by rw [vecN_len]; exact hl.2.2⟩, fun hn b off e => ⟨Nat.le_trans hW.size (h2 hn b off e).1, (h2 hn b off e).2⟩⟩, h3⟩
  have CI : Hid (∀ W A c n, Below w.heap.size w W → ReadsV W A (vecN p.u n) → Calls Try.prog 20 #[.slice p.A p.L.length p.ca, .slice p.B p.b.length p.cb, .slice A (vecN p.u n).length c] W (BPost W.heap.size W (isB p.L p.b (vecN p.u n)))) := fun W A c n hW hx =>
    ris_any _ _ _ _ _ _ _ _ _ W (hr.below hW).rA D0.L64 (hr.below hW).rB D0.bl hx (by rw [vecN_len]; exact D0.u64) (fun i hi => by rw [vecN_len]; exact D0.len i hi) D0.row (vecN_small D0.ub n)
  have hN : prodN p.u ≤ 100000 := by
    have h2 := prod_prodN p.u (fun k hk => (withB_at D0.ub k hk).1)
    have h3 := (prod_ok D0.ub D0.lim p.u.length (Nat.le_refl _)).2
    omega
  have FS1 : Hid (∀ n, (firstS (vecN p.u) (isB p.L p.b) (n + 1)).length = (firstS (vecN p.u) (isB p.L p.b) n).length + if isB p.L p.b (vecN p.u n) = true then 1 else 0) := fun n => by
    rw [firstS_succ, List.length_append]
    split <;> rfl
  have FS3 : Hid ((firstS (vecN p.u) (isB p.L p.b) (prodN p.u)).length = (solT p.L p.b p.u).length) := by
    show _ = _
    rw [firstS_all]
  have FS0 : Hid ((firstS (vecN p.u) (isB p.L p.b) 0).length = 0) := rfl
  have FS4 : Hid (∀ n, (firstS (vecN p.u) (isB p.L p.b) n).length ≤ n) := firstS_len _ _
  obtain ⟨fs, hfs⟩ : ∃ fs : Nat → Nat, fs = fun n => (firstS (vecN p.u) (isB p.L p.b) n).length := ⟨_, rfl⟩
  have GS1 : Hid (∀ n, fs (n + 1) = fs n + if isB p.L p.b (vecN p.u n) = true then 1 else 0) := by rw [hfs]; exact FS1
  have GS3 : Hid (fs (prodN p.u) = (solT p.L p.b p.u).length) := by rw [hfs]; exact FS3
  have GS0 : Hid (fs 0 = 0) := by rw [hfs]; exact FS0
  have GS4 : Hid (∀ n, fs n ≤ n) := by rw [hfs]; exact FS4
  clear hfs hc D0 hr hl FS0 FS1 FS3 FS4
  generalize isB p.L p.b = sb at *
  generalize vecN p.u = vf at *
  generalize prodN p.u = N at *
  generalize (solT p.L p.b p.u).length = T at *
  unfold VPost
  go_enter Try.func17, Try.ntmps17
  go_wp2_with fail
  refine (CK.out _ (Below.refl _ _)).mono ?_
  rintro e x1 ⟨rfl, rfl⟩
  clear CK
  go_wp2_with fail
  go_loopw [8, 9] (fun q r wr => ∃ (n k : Nat), n ≤ N ∧ r = .int .i64 n ∧ q = .int .i64 k ∧ Hid (k = fs n) ∧ Hid (Below w.heap.size w wr)) (fun _ r _ => N - (intOf r).toNat)
  case atStart => exact ⟨0, 0, Nat.zero_le _, rfl, rfl, GS0.out.symm, Below.refl _ _⟩
  case round =>
    obtain ⟨n, k, hn, rfl, rfl, HF, HB⟩ := hrel
    by_cases hlt : n < N
    · have z1 : decide ((n : Int) < (N : Int)) = true := decide_eq_true (by omega)
      have V := CV.out
      have V := Lib.hid (fun W hW => V W n hW (by omega))
      have I := CI.out
      have I := Lib.hid (fun W A c hW hx => I W A c n hW hx)
      have FN := GS1.out n
      have k4 := GS4.out n
      rw [← HF.out] at FN k4
      generalize sb (vf n) = z at *
      generalize vf n = x at *
      have FN := Lib.hid FN
      go_wp2_with fail
      refine (CP.out _ HB.out).mono ?_
      rintro e x2 ⟨rfl, rfl⟩
      go_wp2_with fail
      refine (V.out _ HB.out).mono ?_
      rintro e x3 ⟨XA, xc, rfl, X3, K3⟩
      have X3 := Lib.hid X3
      have B3 := Lib.hid (HB.out.trans (K3.mono HB.out.size))
      clear K3 HB
      go_wp2_with fail
      refine (I.out _ XA xc B3.out X3.out.1.1).mono ?_
      rintro e x4 ⟨rfl, K4⟩
      have B4 := Lib.hid (B3.out.trans (K4.mono B3.out.size))
      clear K4 X3 B3
      cases z
      · go_wp2_with fail
        go_roundw
        case rel => exact ⟨n + 1, k, by omega, by go_num, rfl, (by have h := FN.out; rw [if_neg (by simp), Nat.add_zero] at h; exact h.symm), B4⟩
        case measure => simp [intOf]; omega
      · go_wp2_with fail
        go_roundw
        case rel => exact ⟨n + 1, k + 1, by omega, by go_num, by go_num, (by have h := FN.out; simp at h; exact h.symm), B4⟩
        case measure => simp [intOf]; omega
    · have z1 : decide ((n : Int) < (N : Int)) = false := decide_eq_false (by omega)
      have E : Hid (T = k) := by
        show _ = _
        obtain rfl : n = N := by omega
        rw [← GS3.out, HF.out]
      clear HF
      go_wp2_with fail
      refine (CP.out _ HB.out).mono ?_
      rintro e x2 ⟨rfl, rfl⟩
      go_wp2
      go_ret2
      exact ⟨by rw [E.out]; rfl, HB.out⟩
theorem rcount_any (p : PV) (w : World) (hr : PR w p) (hl : lensOk p) :
    Calls Try.prog 17 #[.slice p.A p.L.length p.ca, .slice p.B p.b.length p.cb, .slice p.U p.u.length p.cu] w (VPost w.heap.size w (cntE p)) := by
  by_cases hc : chkP p.L p.b p.u = 0
  · exact rcount_ok p w hr hl hc
  · exact rcount_bad p w hr hl hc
end Go.Proofs.Ytneediihponfiaa
