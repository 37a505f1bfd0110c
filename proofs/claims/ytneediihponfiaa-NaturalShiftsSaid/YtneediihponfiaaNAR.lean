/- Bounded natural solutions: All of the reference. -/
import Derived.Test.YtneediihponfiaaNVM
import Derived.Test.YtneediihponfiaaNAL
namespace Go.Proofs.Ytneediihponfiaa
open Go.RowKit

set_option maxHeartbeats 8000000 in
set_option maxRecDepth 100000 in
theorem rall_bad (p : PV) (limit : Int) (w : World) (hr : PR w p) (hl : lensOk p) (hc : chkP p.L p.b p.u ≠ 0) :
    Calls Try.prog 19 #[.slice p.A p.L.length p.ca, .slice p.B p.b.length p.cb, .slice p.U p.u.length p.cu, .int .i64 limit] w (LPost2 w (allV p limit) (allE p limit)) := by
  have CK : Hid (∀ W, Below w.heap.size w W → Calls Try.prog 12 #[.slice p.A p.L.length p.ca, .slice p.B p.b.length p.cb, .slice p.U p.u.length p.cu] W (fun e w' => e = .returned (.int .i64 (chkP p.L p.b p.u)) ∧ W = w')) := fun W hW => rcheck_any _ _ _ _ _ _ _ _ _ W (hr.below hW).rA hl.1 (hr.below hW).rB hl.2.1 (hr.below hW).rU hl.2.2
  have e1 : allE p limit = chkP p.L p.b p.u := if_neg hc
  have e2 : allV p limit = [] := if_neg (by rw [e1]; exact hc)
  rw [e2, e1]
  generalize chkP p.L p.b p.u = E at *
  have hE : (E != 0) = true := by simpa using hc
  clear hr hl e1 e2
  go_enter Try.func19, Try.ntmps19
  go_wp2_with fail
  refine (CK.out _ (Below.refl _ _)).mono ?_
  rintro e x1 ⟨rfl, rfl⟩
  go_wp2_with fail
  refine (CK.out _ (Below.refl _ _)).mono ?_
  rintro e x1 ⟨rfl, rfl⟩
  go_wp2
  go_ret2
  exact ⟨none, 0, [], rfl, rfl, ReadsL.nil _ _, Below.refl _ _⟩
theorem rall_range (p : PV) (limit : Int) (w : World) (hr : PR w p) (hl : lensOk p) (hc : chkP p.L p.b p.u = 0) (hlim : limit < 1 ∨ 1000 < limit) :
    Calls Try.prog 19 #[.slice p.A p.L.length p.ca, .slice p.B p.b.length p.cb, .slice p.U p.u.length p.cu, .int .i64 limit] w (LPost2 w (allV p limit) (allE p limit)) := by
  have CK : Hid (∀ W, Below w.heap.size w W → Calls Try.prog 12 #[.slice p.A p.L.length p.ca, .slice p.B p.b.length p.cb, .slice p.U p.u.length p.cu] W (fun e w' => e = .returned (.int .i64 (chkP p.L p.b p.u)) ∧ W = w')) := fun W hW => rcheck_any _ _ _ _ _ _ _ _ _ W (hr.below hW).rA hl.1 (hr.below hW).rB hl.2.1 (hr.below hW).rU hl.2.2
  have e1 : allE p limit = 1 := by unfold allE; rw [if_pos hc, if_pos hlim]
  have e2 : allV p limit = [] := if_neg (by rw [e1]; decide)
  rw [e2, e1]
  rw [hc] at CK
  clear hr hl e1 e2 hc
  rcases Classical.em (limit < 1) with h1 | h1
  · have d1 : decide (limit < 1) = true := decide_eq_true h1
    clear hlim
    go_enter Try.func19, Try.ntmps19
    go_wp2_with fail
    refine (CK.out _ (Below.refl _ _)).mono ?_
    rintro e x1 ⟨rfl, rfl⟩
    go_wp2
    go_ret2
    exact ⟨none, 0, [], rfl, rfl, ReadsL.nil _ _, Below.refl _ _⟩
  · have d1 : decide (limit < 1) = false := decide_eq_false h1
    have h2 : 1000 < limit := by omega
    have d2 : decide (1000 < limit) = true := decide_eq_true h2
    clear hlim
    go_enter Try.func19, Try.ntmps19
    go_wp2_with fail
    refine (CK.out _ (Below.refl _ _)).mono ?_
    rintro e x1 ⟨rfl, rfl⟩
    go_wp2
    go_ret2
    exact ⟨none, 0, [], rfl, rfl, ReadsL.nil _ _, Below.refl _ _⟩
set_option maxHeartbeats 8000000 in
set_option maxRecDepth 100000 in
theorem rall_ok (p : PV) (lim : Nat) (w : World) (hr : PR w p) (hl : lensOk p) (hc : chkP p.L p.b p.u = 0) (hlim : 1 ≤ lim) (hlim2 : lim ≤ 1000) :
    Calls Try.prog 19 #[.slice p.A p.L.length p.ca, .slice p.B p.b.length p.cb, .slice p.U p.u.length p.cu, .int .i64 (lim : Nat)] w (LPost2 w (allV p (lim : Nat)) (allE p (lim : Nat))) := by
  have CK : Hid (∀ W, Below w.heap.size w W → Calls Try.prog 12 #[.slice p.A p.L.length p.ca, .slice p.B p.b.length p.cb, .slice p.U p.u.length p.cu] W (fun e w' => e = .returned (.int .i64 (chkP p.L p.b p.u)) ∧ W = w')) := fun W hW => rcheck_any _ _ _ _ _ _ _ _ _ W (hr.below hW).rA hl.1 (hr.below hW).rB hl.2.1 (hr.below hW).rU hl.2.2
  have e1 : allE p (lim : Nat) = 0 := by unfold allE; rw [if_pos hc, if_neg (by omega)]
  have e2 : allV p (lim : Nat) = (solT p.L p.b p.u).take lim := by unfold allV; rw [if_pos e1, Int.toNat_natCast]
  rw [e2, e1]
  rw [hc] at CK
  have D0 := chk0 hc
  have CP : Hid (∀ W, Below w.heap.size w W → Calls Try.prog 21 #[.slice p.U p.u.length p.cu] W (fun e w' => e = .returned (.int .i64 ((prodN p.u : Nat) : Int)) ∧ W = w')) := fun W hW => by
    rw [← prod_prodN p.u (fun k hk => (withB_at D0.ub k hk).1)]
    exact rproduct_any _ _ _ W (hr.below hW).rU hl.2.2 D0.ub D0.lim
  have CV : Hid (∀ W n, Below w.heap.size w W → n ≤ 100000 → Calls Try.prog 28 #[.slice p.U p.u.length p.cu, .int .i64 (n : Nat)] W (fun e w' => ∃ A c, e = .returned (.slice A (vecN p.u n).length c) ∧ FarG w' w.heap.size ⟨A, vecN p.u n, c⟩ ∧ Below W.heap.size W w')) := fun W n hW hn => by
    refine (rvector_any p.U p.u p.cu n W (hr.below hW).rU D0.u64 D0.ub hn).mono ?_
    rintro e w' ⟨A, c, rfl, h1, h2, h3⟩
    rw [vecV_eq] at h1 h2 ⊢
    exact ⟨A, c, rfl, ⟨⟨h1, by rw [vecN_len]; exact hl.2.2⟩, fun hn b off e => ⟨Nat.le_trans hW.size (h2 hn b off e).1, (h2 hn b off e).2⟩⟩, h3⟩
  have CI : Hid (∀ W A c n, Below w.heap.size w W → ReadsV W A (vecN p.u n) → Calls Try.prog 20 #[.slice p.A p.L.length p.ca, .slice p.B p.b.length p.cb, .slice A (vecN p.u n).length c] W (BPost W.heap.size W (isB p.L p.b (vecN p.u n)))) := fun W A c n hW hx =>
    ris_any _ _ _ _ _ _ _ _ _ W (hr.below hW).rA D0.L64 (hr.below hW).rB D0.bl hx (by rw [vecN_len]; exact D0.u64) (fun i hi => by rw [vecN_len]; exact D0.len i hi) D0.row (vecN_small D0.ub n)
  have hN : prodN p.u ≤ 100000 := by
    have h2 := prod_prodN p.u (fun k hk => (withB_at D0.ub k hk).1)
    have h3 := (prod_ok D0.ub D0.lim p.u.length (Nat.le_refl _)).2
    omega
  have FS1 : Hid (∀ n, firstS (vecN p.u) (isB p.L p.b) (n + 1) = firstS (vecN p.u) (isB p.L p.b) n ++ if isB p.L p.b (vecN p.u n) = true then [vecN p.u n] else []) := firstS_succ _ _
  have FS2 : Hid (∀ n, n ≤ prodN p.u → firstS (vecN p.u) (isB p.L p.b) n <+: solT p.L p.b p.u) := fun n hn => by
    rw [← firstS_all]
    exact firstS_pre _ _ hn
  have FS3 : Hid (firstS (vecN p.u) (isB p.L p.b) (prodN p.u) = solT p.L p.b p.u) := firstS_all _ _ _
  have FS0 : Hid (firstS (vecN p.u) (isB p.L p.b) 0 = []) := rfl
  have d1 : decide ((lim : Int) < 1) = false := decide_eq_false (by omega)
  have d2 : decide ((1000 : Int) < (lim : Int)) = false := decide_eq_false (by omega)
  clear e1 e2 hc D0 hr hl
  generalize firstS (vecN p.u) (isB p.L p.b) = fs at *
  generalize isB p.L p.b = sb at *
  generalize vecN p.u = vf at *
  generalize prodN p.u = N at *
  generalize solT p.L p.b p.u = T at *
  go_enter Try.func19, Try.ntmps19
  go_wp2_with fail
  refine (CK.out _ (Below.refl _ _)).mono ?_
  rintro e x1 ⟨rfl, rfl⟩
  clear CK
  go_wp2_with fail
  go_loopw [10, 11] (fun q r wr => ∃ (n : Nat) (L : List Row) (A : Option Addr) (c : Nat), n ≤ N ∧ r = .int .i64 n ∧ q = .slice A L.length c ∧ L.length ≤ lim ∧ Hid (rowsL L = fs n) ∧ Hid (OwnG wr w.heap.size (.slice A L.length c) L) ∧ Hid (Below w.heap.size w wr)) (fun _ r _ => N - (intOf r).toNat)
  case atStart => exact ⟨0, [], none, 0, Nat.zero_le _, rfl, rfl, Nat.zero_le _, FS0.out.symm, OwnG.nil _ _, Below.refl _ _⟩
  case round =>
    obtain ⟨n, L, A, c, hn, rfl, rfl, hL, HF, HO, HB⟩ := hrel
    by_cases hlt : n < N
    · have z1 : decide ((n : Int) < (N : Int)) = true := decide_eq_true (by omega)
      by_cases hfull : L.length < lim
      · have z2 : decide ((L.length : Int) < (lim : Int)) = true := decide_eq_true (by omega)
        have V := CV.out
        have V := Lib.hid (fun W hW => V W n hW (by omega))
        have I := CI.out
        have I := Lib.hid (fun W A c hW hx => I W A c n hW hx)
        have FN := FS1.out n
        rw [← HF.out] at FN
        generalize sb (vf n) = z at *
        generalize vf n = x at *
        have FN := Lib.hid FN
        go_wp2_with fail
        refine (CP.out _ HB.out).mono ?_
        rintro e x2 ⟨rfl, rfl⟩
        go_wp2_with fail
        refine (V.out _ HB.out).mono ?_
        rintro e x3 ⟨XA, xc, rfl, X3, K3⟩
        have X3 := Lib.hid X3
        have B3 := Lib.hid (HB.out.trans (K3.mono HB.out.size))
        have O3 := Lib.hid (HO.out.keep (KeepOn.of_below (fun _ => True) K3) (fun _ _ => trivial))
        clear K3 HO HB
        go_wp2_with fail
        refine (I.out _ XA xc B3.out X3.out.1.1).mono ?_
        rintro e x4 ⟨rfl, K4⟩
        have B4 := Lib.hid (B3.out.trans (K4.mono B3.out.size))
        have O4 := Lib.hid (O3.out.keep (KeepOn.of_below (fun _ => True) K4) (fun _ _ => trivial))
        have X4 := Lib.hid (X3.out.keep (KeepOn.of_below (fun _ => True) K4) (fun _ _ => trivial))
        clear K4 O3 X3 B3
        cases z
        · go_wp2_with fail
          go_roundw
          case rel => exact ⟨n + 1, L, A, c, by omega, by go_num, rfl, hL, (by have h := FN.out; rw [if_neg (by simp), List.append_nil] at h; exact h.symm), O4, B4⟩
          case measure => simp [intOf]; omega
        · have f5 : Hid (FarG (x4.alloc (.cells #[.slice XA x.length xc] 23)) w.heap.size ⟨XA, x, xc⟩) := X4.out.keep (KeepOn.alloc (S := fun _ => True) x4 _) (fun _ _ => trivial)
          have o5 : Hid (OwnG (x4.alloc (.cells #[.slice XA x.length xc] 23)) w.heap.size (.slice A L.length c) L) := O4.out.keep (KeepOn.alloc (S := fun _ => True) x4 _) (fun _ _ => trivial)
          have n5 : Hid ((x4.alloc (.cells #[.slice XA x.length xc] 23)).cell? ⟨x4.heap.size, 0, none⟩ = some (Row.v ⟨XA, x, xc⟩)) := (Boxed.new x4 _ _).cell
          have s5 : w.heap.size ≤ (x4.alloc (.cells #[.slice XA x.length xc] 23)).heap.size := by have := B4.out.size; rw [World.size_alloc]; omega
          have b5 := Lib.hid (B4.out.alloc B4.out.size (.cells #[.slice XA x.length xc] 23))
          clear X4 O4
          go_wp2_with (at_builtin; refine wpList_row rfl (.tmp 47) (.tmp 49) rfl w.heap.size (.slice A L.length c) L ⟨XA, x, xc⟩ rfl o5.out x4.heap.size rfl n5.out f5.out (by omega) s5 ?_; intro A6 c6 w6 o6 k6)
          have O6 := Lib.hid o6
          have B6 := Lib.hid (b5.out.trans k6)
          have F6 : Hid (rowsL (L ++ [⟨XA, x, xc⟩]) = fs (n + 1)) := by
            show _ = _
            rw [rowsL_snoc, FN.out]
            simp
          have hl6 : (L ++ [(⟨XA, x, xc⟩ : Row)]).length = L.length + 1 := by simp
          rw [← hl6] at O6
          have HL6 := Lib.hid hl6
          clear o6 k6 f5 o5 n5 s5 b5 B4 FN hl6
          (try go_wp2_with fail)
          go_roundw
          case rel => exact ⟨n + 1, L ++ [⟨XA, x, xc⟩], A6, c6, by omega, by go_num, by rw [HL6.out], by rw [HL6.out]; omega, F6, O6, B6⟩
          case measure => simp [intOf]; omega
      · have z2 : decide ((L.length : Int) < (lim : Int)) = false := decide_eq_false (by omega)
        have E : Hid (T.take lim = rowsL L) := by
          show _ = _
          rw [HF.out]
          exact take_pre (FS2.out n hn) (by rw [← HF.out, rowsL_len]; omega)
        obtain ⟨A9, c9, e9, hrd⟩ := HO.out.reads
        cases e9
        have HR := Lib.hid hrd
        clear HF HO hrd
        go_wp2_with fail
        refine (CP.out _ HB.out).mono ?_
        rintro e x2 ⟨rfl, rfl⟩
        go_wp2
        go_ret2
        exact ⟨A, c, L, rfl, E.out.symm, HR.out, HB.out⟩
    · have z1 : decide ((n : Int) < (N : Int)) = false := decide_eq_false (by omega)
      have E : Hid (T.take lim = rowsL L) := by
        show _ = _
        obtain rfl : n = N := by omega
        rw [← FS3.out, ← HF.out]
        exact List.take_of_length_le (by rw [rowsL_len]; exact hL)
      obtain ⟨A9, c9, e9, hrd⟩ := HO.out.reads
      cases e9
      have HR := Lib.hid hrd
      clear HF HO hrd
      go_wp2_with fail
      refine (CP.out _ HB.out).mono ?_
      rintro e x2 ⟨rfl, rfl⟩
      go_wp2
      go_ret2
      exact ⟨A, c, L, rfl, E.out.symm, HR.out, HB.out⟩
theorem rall_any (p : PV) (limit : Int) (w : World) (hr : PR w p) (hl : lensOk p) :
    Calls Try.prog 19 #[.slice p.A p.L.length p.ca, .slice p.B p.b.length p.cb, .slice p.U p.u.length p.cu, .int .i64 limit] w (LPost2 w (allV p limit) (allE p limit)) := by
  by_cases hc : chkP p.L p.b p.u = 0
  · by_cases h : limit < 1 ∨ 1000 < limit
    · exact rall_range p limit w hr hl hc h
    · obtain ⟨k, rfl⟩ : ∃ k : Nat, limit = k := ⟨limit.toNat, by omega⟩
      exact rall_ok p k w hr hl hc (by omega) (by omega)
  · exact rall_bad p limit w hr hl hc
end Go.Proofs.Ytneediihponfiaa
