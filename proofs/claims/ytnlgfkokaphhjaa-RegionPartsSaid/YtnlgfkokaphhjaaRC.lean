/- Regions: signs, by the reference; names in a list; the order of edges. -/
import Derived.Test.YtnlgfkokaphhjaaRB
namespace Go.Proofs.Ytnlgfkokaphhjaa
open Go.RowKit

theorem evL_take {ar : List EdgeV} {k : Nat} (h : k < ar.length) (e : Int) : evL (ar.take (k + 1)) e = if (eA ar k).t = e then evL (ar.take k) e ++ [eA ar k] else evL (ar.take k) e := by
  rw [eA_take h, evL_snoc]
theorem evL_rest (ar : List EdgeV) (k : Nat) (e : Int) : evL ar e = evL (ar.take k) e ++ evL (ar.drop k) e := by
  unfold evL
  rw [← List.filter_append, List.take_append_drop]

set_option maxHeartbeats 4000000 in
set_option maxRecDepth 100000 in
theorem rsign_any (s : SysV) (S : Nat) (ev : Int) (w : World) (hr : SysR w s) (hS : S < 18446744073709551616) :
    Calls Try.prog 31 #[.agg #[.int .i64 s.st, .slice s.EA s.el s.ec, .slice s.AA s.ar.length s.ac], .int .u64 (S : Nat), .int .i64 ev] w (fun e w' => e = .returned (.tuple #[.int .i64 (signZ S (evL s.ar ev)).1, .bool (signZ S (evL s.ar ev)).2]) ∧ Below w.heap.size w w') := by
  have CC : Hid (∀ (a : EdgeV) W, Calls Try.prog 45 #[.int .u64 (S : Nat), .agg #[.int .i64 a.f, .int .i64 a.t, .int .i64 a.o]] W (VPost W.heap.size W (.int .i64 (crossZ S a)))) := fun a W => rcross_any a S W hS
  have G0 : Hid (signZ S (evL (s.ar.take 0) ev) = (0, true) ∧ evL (s.ar.take 0) ev = []) := ⟨rfl, rfl⟩
  have GN : Hid (∀ k, k < s.ar.length → (eA s.ar k).t ≠ ev → evL (s.ar.take (k + 1)) ev = evL (s.ar.take k) ev) := fun k hk h => by rw [evL_take hk, if_neg h]
  have GY : Hid (∀ k, k < s.ar.length → (eA s.ar k).t = ev → evL (s.ar.take (k + 1)) ev = evL (s.ar.take k) ev ++ [eA s.ar k]) := fun k hk h => by rw [evL_take hk, if_pos h]
  have GD : Hid (∀ k, signZ S (evL (s.ar.take k) ev) = (0, false) → signZ S (evL s.ar ev) = (0, false)) := fun k h => by
    rw [evL_rest s.ar k ev]
    exact sign_dead (by rw [h])
  have GE : Hid (signZ S (evL (s.ar.take s.ar.length) ev) = signZ S (evL s.ar ev)) := by show _ = _; rw [List.take_length]
  have HE := Lib.hid hr.re
  have hal := hr.hal
  clear hr
  generalize signZ S (evL s.ar ev) = R at *
  obtain ⟨R1, R2⟩ := R
  dsimp only
  generalize hL : (fun k => evL (s.ar.take k) ev) = L at *
  have hL' : ∀ k, evL (s.ar.take k) ev = L k := fun k => by rw [← hL]
  simp only [hL'] at *
  clear hL hL'
  have B0 : Hid (Below w.heap.size w (w.alloc (.cells #[.int .i64 s.st, .slice s.EA s.el s.ec, .slice s.AA s.ar.length s.ac] 25))) := (Below.refl _ _).alloc (Nat.le_refl _) _
  have q0 : (w.alloc (.cells #[.int .i64 s.st, .slice s.EA s.el s.ec, .slice s.AA s.ar.length s.ac] 25)).cell? ⟨w.heap.size, 0, none⟩ = some (.int .i64 s.st) := by simp
  have q1 : (w.alloc (.cells #[.int .i64 s.st, .slice s.EA s.el s.ec, .slice s.AA s.ar.length s.ac] 25)).cell? ⟨w.heap.size, 1, none⟩ = some (.slice s.EA s.el s.ec) := by simp
  have q2 : (w.alloc (.cells #[.int .i64 s.st, .slice s.EA s.el s.ec, .slice s.AA s.ar.length s.ac] 25)).cell? ⟨w.heap.size, 2, none⟩ = some (.slice s.AA s.ar.length s.ac) := by simp
  go_enter Try.func31, Try.ntmps31
  go_wp2_with fail
  obtain ⟨wx, hwx⟩ : ∃ wx, wx = (w.alloc (.cells #[.int .i64 s.st, .slice s.EA s.el s.ec, .slice s.AA s.ar.length s.ac] 25)) := ⟨_, rfl⟩
  rw [← hwx] at q0 q1 q2 B0 ⊢
  have hwz : wx.heap.size = w.heap.size + 1 := by rw [hwx, World.size_alloc]
  clear hwx
  go_loopw [8, 9, 10] (fun p p2 q wr => ∃ (k : Nat) (fb : Bool) (cm : Int), k ≤ s.ar.length ∧ q = .int .i64 k ∧ p = .bool fb ∧ p2 = .int .i64 cm ∧ Hid (signZ S (L k) = (cm, true)) ∧ Hid (fb = false ↔ L k = []) ∧ Hid (Below wx.heap.size wx wr)) (fun _ _ q _ => s.ar.length - (intOf q).toNat)
  case atStart => exact ⟨0, false, 0, by omega, rfl, rfl, rfl, G0.out.1, ⟨fun _ => G0.out.2, fun _ => rfl⟩, Below.refl _ _⟩
  case round =>
    obtain ⟨k, fb, cm, hk, rfl, rfl, rfl, HG, HB, BJ⟩ := hrel
    have k0 := keepc q0 BJ.out
    have k1 := keepc q1 BJ.out
    have k2 := keepc q2 BJ.out
    have BG := Lib.hid (B0.out.trans (BJ.out.mono B0.out.size))
    clear q0 q1 q2
    by_cases hlt : k < s.ar.length
    · obtain ⟨b, off, eA', hb, c0, c1, c2⟩ := (HE.out.below BG.out (Nat.le_refl _)) k hlt
      rw [eA'] at k2
      clear eA'
      have C := CC.out (eA s.ar k)
      have GNk := Lib.hid (GN.out k hlt)
      have GYk := Lib.hid (GY.out k hlt)
      have GDk := Lib.hid (GD.out (k + 1))
      clear GN GY GD
      generalize eA s.ar k = x at *
      by_cases hx : x.t = ev
      · have z0 : (x.t != ev) = false := by simpa using hx
        have EL := GYk.out hx
        have HS1 : signZ S (L (k + 1)) = if fb = true then (if crossZ S x = cm then (cm, true) else (0, false)) else (crossZ S x, true) := by
          rw [EL]
          cases fb
          · rw [HB.out.1 rfl]; rfl
          · exact sign_snoc (fun e => by have := HB.out.2 e; cases this) HG.out
        have HS2 : L (k + 1) ≠ [] := by rw [EL]; simp
        generalize crossZ S x = v at *
        clear GNk GYk EL
        rw [hx] at C
        have C := Lib.hid C
        go_wp2_with fail
        refine (C.out _).mono ?_
        rintro e w2 ⟨rfl, K⟩
        have K2 := Lib.hid (BJ.out.trans (K.mono BJ.out.size))
        have K3 := Lib.hid (BG.out.trans (K.mono BG.out.size))
        clear K
        cases fb
        · rw [if_neg (by decide)] at HS1
          have E := Lib.hid HS1
          have E2 : Hid (true = false ↔ L (k + 1) = []) := ⟨fun h => (by cases h), fun h => absurd h HS2⟩
          clear HS1 HS2 GDk
          go_wp2
          go_roundw
          case rel => exact ⟨k + 1, true, v, by omega, by go_num, rfl, rfl, E, E2, K2⟩
          case measure => simp [intOf]; omega
        · rw [if_pos rfl] at HS1
          by_cases hv : v = cm
          · have z1 : (v != cm) = false := by simpa using hv
            rw [if_pos hv] at HS1
            have E := Lib.hid HS1
            have E2 : Hid (true = false ↔ L (k + 1) = []) := ⟨fun h => (by cases h), fun h => absurd h HS2⟩
            clear HS1 HS2 GDk
            go_wp2
            go_roundw
            case rel => exact ⟨k + 1, true, cm, by omega, by go_num, rfl, rfl, E, E2, K2⟩
            case measure => simp [intOf]; omega
          · have z1 : (v != cm) = true := by simpa using hv
            rw [if_neg hv] at HS1
            have E := Lib.hid (GDk.out HS1)
            clear HS1 HS2 GDk
            go_wp2
            go_ret2
            have E1 := E.out
            injection E1 with e1 e2
            exact ⟨by rw [e1, e2]; rfl, K3.out⟩
      · have z0 : (x.t != ev) = true := by simpa using hx
        have EL := GNk.out hx
        have E : Hid (signZ S (L (k + 1)) = (cm, true)) := by show _ = _; rw [EL]; exact HG.out
        have E2 : Hid (fb = false ↔ L (k + 1) = []) := by show _ ↔ _; rw [EL]; exact HB.out
        clear EL GNk GYk GDk C
        go_wp2
        go_roundw
        case rel => exact ⟨k + 1, fb, cm, by omega, by go_num, rfl, rfl, E, E2, by first | exact BJ | exact below_drewN BJ.out _⟩
        case measure => simp [intOf]; omega
    · obtain rfl : k = s.ar.length := by omega
      have E := Lib.hid (GE.out.symm.trans HG.out)
      clear HG GN GY GD GE G0
      go_wp2
      go_ret2
      have E1 := E.out
      injection E1 with e1 e2
      exact ⟨by rw [e1, e2]; rfl, BG.out⟩

set_option maxHeartbeats 4000000 in
set_option maxRecDepth 100000 in
theorem rregion_any (s : SysV) (S : Nat) (w : World) (hr : SysR w s) (hS : S < 18446744073709551616) :
    Calls Try.prog 33 #[.agg #[.int .i64 s.st, .slice s.EA s.el s.ec, .slice s.AA s.ar.length s.ac], .int .u64 (S : Nat)] w (VPost w.heap.size w (.bool (regB s.ar s.el S))) := by
  have CC : Hid (∀ (e : Nat) W, Below w.heap.size w W → Calls Try.prog 31 #[.agg #[.int .i64 s.st, .slice s.EA s.el s.ec, .slice s.AA s.ar.length s.ac], .int .u64 (S : Nat), .int .i64 e] W (fun e' w' => e' = .returned (.tuple #[.int .i64 (signZ S (evL s.ar e)).1, .bool (signZ S (evL s.ar e)).2]) ∧ Below W.heap.size W w')) := fun e W hW => rsign_any s S e W (hr.below hW (Nat.le_refl _)) hS
  have GN : Hid (∀ e : Nat, e < s.el → (signZ S (evL s.ar e)).2 = false → regB s.ar s.el S = false) := fun e he h => by
    cases e2 : regB s.ar s.el S
    · rfl
    · rw [reg_iff.1 e2 e he] at h; cases h
  have GY : Hid ((∀ e : Nat, e < s.el → (signZ S (evL s.ar e)).2 = true) → regB s.ar s.el S = true) := fun h => reg_iff.2 h
  have hel := hr.hel
  clear hr
  generalize regB s.ar s.el S = R at *
  generalize hf : (fun e : Nat => signZ S (evL s.ar e)) = f at *
  have hf' : ∀ e : Nat, signZ S (evL s.ar e) = f e := fun e => by rw [← hf]
  simp only [hf'] at *
  clear hf hf'
  have B0 : Hid (Below w.heap.size w (w.alloc (.cells #[.int .i64 s.st, .slice s.EA s.el s.ec, .slice s.AA s.ar.length s.ac] 25))) := (Below.refl _ _).alloc (Nat.le_refl _) _
  have q0 : (w.alloc (.cells #[.int .i64 s.st, .slice s.EA s.el s.ec, .slice s.AA s.ar.length s.ac] 25)).cell? ⟨w.heap.size, 0, none⟩ = some (.int .i64 s.st) := by simp
  have q1 : (w.alloc (.cells #[.int .i64 s.st, .slice s.EA s.el s.ec, .slice s.AA s.ar.length s.ac] 25)).cell? ⟨w.heap.size, 1, none⟩ = some (.slice s.EA s.el s.ec) := by simp
  have q2 : (w.alloc (.cells #[.int .i64 s.st, .slice s.EA s.el s.ec, .slice s.AA s.ar.length s.ac] 25)).cell? ⟨w.heap.size, 2, none⟩ = some (.slice s.AA s.ar.length s.ac) := by simp
  go_enter Try.func33, Try.ntmps33
  go_wp2_with fail
  obtain ⟨wx, hwx⟩ : ∃ wx, wx = (w.alloc (.cells #[.int .i64 s.st, .slice s.EA s.el s.ec, .slice s.AA s.ar.length s.ac] 25)) := ⟨_, rfl⟩
  rw [← hwx] at q0 q1 q2 B0 ⊢
  clear hwx
  go_loopw [5] (fun q wr => ∃ (k : Nat), k ≤ s.el ∧ q = .int .i64 k ∧ Hid (∀ j, j < k → (f j).2 = true) ∧ Hid (Below wx.heap.size wx wr)) (fun q _ => s.el - (intOf q).toNat)
  case atStart => exact ⟨0, by omega, rfl, fun j hj => absurd hj (by omega), Below.refl _ _⟩
  case round =>
    obtain ⟨k, hk, rfl, HX, BJ⟩ := hrel
    have k0 := keepc q0 BJ.out
    have k1 := keepc q1 BJ.out
    have k2 := keepc q2 BJ.out
    have BG := Lib.hid (B0.out.trans (BJ.out.mono B0.out.size))
    clear q0 q1 q2
    by_cases hlt : k < s.el
    · have C := CC.out k _ BG.out
      have GNk := Lib.hid (GN.out k hlt)
      have HF : Hid ((f k).2 = true → ∀ j, j < k + 1 → (f j).2 = true) := fun h j hj => by
        by_cases e : j = k
        · rw [e]; exact h
        · exact HX.out j (by omega)
      generalize f k = v at *
      obtain ⟨v1, v2⟩ := v
      dsimp only at *
      have C := Lib.hid C
      clear HX CC
      cases v2
      · have E := Lib.hid (GNk.out rfl)
        clear HF GNk
        go_wp2_with fail
        refine (C.out).mono ?_
        rintro e w2 ⟨rfl, K⟩
        have K3 := Lib.hid (BG.out.trans (K.mono BG.out.size))
        clear K
        go_wp2
        go_ret
        exact ⟨by rw [E.out]; rfl, K3.out⟩
      · have HF2 := Lib.hid (HF.out rfl)
        clear HF GNk
        go_wp2_with fail
        refine (C.out).mono ?_
        rintro e w2 ⟨rfl, K⟩
        have K2 := Lib.hid (BJ.out.trans (K.mono BJ.out.size))
        clear K
        go_wp2
        go_roundw
        case rel => exact ⟨k + 1, by omega, by go_num, HF2, K2⟩
        case measure => simp [intOf]; omega
    · have E := Lib.hid (GY.out fun j hj => HX.out j (by omega))
      clear HX GN GY CC
      go_wp2
      go_ret
      exact ⟨by rw [E.out]; rfl, BG.out⟩
end Go.Proofs.Ytnlgfkokaphhjaa
