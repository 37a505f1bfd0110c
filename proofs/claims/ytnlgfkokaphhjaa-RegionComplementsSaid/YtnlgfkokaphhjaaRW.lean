/- Regions: the events of a sign, by the program and by the reference. -/
import Derived.Test.YtnlgfkokaphhjaaRS
import Derived.Test.YtnlgfkokaphhjaaBtC
namespace Go.Proofs.Ytnlgfkokaphhjaa
open Go.RowKit

def LPost (g : Nat) (w : World) (L : List Int) (e : Ending) (w' : World) : Prop := ∃ A c, e = .returned (.slice A L.length c) ∧ Bt.Reads w' A (Bt.vI L) ∧ Below g w w'
theorem LPost.nil {g : Nat} {w w' : World} (h : Below g w w') : LPost g w [] (.returned (.slice none 0 0)) w' := ⟨none, 0, rfl, Bt.Reads.nil _ _, h⟩
theorem LPost.own {g b : Nat} {w w' : World} {L : List Int} {v : Value} (h : OwnI w' b v L) (hb : Below g w w') : LPost g w L (.returned v) w' := by
  obtain ⟨_, A, c, e, R⟩ := Bt.Reads.own h
  subst e
  exact ⟨A, c, rfl, R, hb⟩
set_option maxHeartbeats 4000000 in
theorem signed_any (s : SysV) (S : Nat) (wt : Int) (w : World) (hr : SysR w s) (hS : S < 18446744073709551616) :
    Calls Try.prog 34 #[.agg #[.int .i64 s.st, .slice s.EA s.el s.ec, .slice s.AA s.ar.length s.ac], .int .u64 (S : Nat), .int .i64 wt] w (LPost w.heap.size w (wthL s S wt)) := by
  have CI : Hid (∀ W, Below w.heap.size w W → Calls Try.prog 14 #[.agg #[.int .i64 s.st, .slice s.EA s.el s.ec, .slice s.AA s.ar.length s.ac], .int .u64 (S : Nat)] W (VPost W.heap.size W (.bool (isRg s S)))) := fun W hW => Is_any s S W (hr.below hW (Nat.le_refl _)) hS
  have CB : Hid (isRg s S = true → ∀ W, Below w.heap.size w W → Calls Try.prog 29 #[.agg #[.int .i64 s.st, .slice s.EA s.el s.ec, .slice s.AA s.ar.length s.ac]] W (fun e w' => ∃ T c, e = .returned (.slice (some ⟨T, 0, none⟩) s.el c) ∧ TabE w' T s.el (fun e => evL s.ar (e : Nat)) ∧ Below W.heap.size W w')) := fun hg W hW => byEvents_any s W (hr.below hW (Nat.le_refl _)) ((good_iff hS).1 (rg_iff.1 hg).1).1
  have CC : Hid (∀ A c (e : Nat) W, ReadsE W A (evL s.ar e) → Calls Try.prog 28 #[.slice A (evL s.ar e).length c, .int .u64 (S : Nat)] W (fun e' w' => e' = .returned (.tuple #[.int .i64 (signZ S (evL s.ar e)).1, .bool (signZ S (evL s.ar e)).2]) ∧ Below W.heap.size W w')) := fun A c e W h => sign_any A (evL s.ar e) c S W h (Nat.le_trans (evL_len _ _) (by have := hr.hal; omega)) hS
  have WN : Hid (isRg s S = false → wthL s S wt = []) := fun h => by show _ = _; unfold wthL; rw [h]; rfl
  have WY : Hid (isRg s S = true → wthL s S wt = pickI (wthF s S wt) s.el) := fun h => by show _ = _; unfold wthL; rw [h, if_pos rfl]
  have WF : Hid (∀ k, wthF s S wt k = decide ((signZ S (evL s.ar (k : Nat))).1 = wt)) := fun k => rfl
  have HN := hr.hel
  have B0 : Hid (Below w.heap.size w (w.alloc (.cells #[.int .i64 s.st, .slice s.EA s.el s.ec, .slice s.AA s.ar.length s.ac] 25))) := (Below.refl _ _).alloc (Nat.le_refl _) _
  have q0 : (w.alloc (.cells #[.int .i64 s.st, .slice s.EA s.el s.ec, .slice s.AA s.ar.length s.ac] 25)).cell? ⟨w.heap.size, 0, none⟩ = some (.int .i64 s.st) := by simp
  have q1 : (w.alloc (.cells #[.int .i64 s.st, .slice s.EA s.el s.ec, .slice s.AA s.ar.length s.ac] 25)).cell? ⟨w.heap.size, 1, none⟩ = some (.slice s.EA s.el s.ec) := by simp
  have q2 : (w.alloc (.cells #[.int .i64 s.st, .slice s.EA s.el s.ec, .slice s.AA s.ar.length s.ac] 25)).cell? ⟨w.heap.size, 2, none⟩ = some (.slice s.AA s.ar.length s.ac) := by simp
  clear hr hS
  cases hg : isRg s S
  · rw [WN.out hg]
    rw [hg] at CI
    clear WN WY WF CC CB hg q0 q1 q2 HN
    go_enter Try.func34, Try.ntmps34
    go_wp2_with fail
    refine (CI.out _ B0.out).mono ?_
    rintro e x1 ⟨rfl, K⟩
    have D1 := Lib.hid (B0.out.trans (K.mono B0.out.size))
    clear K
    go_wp2
    go_ret
    exact LPost.nil D1.out
  · rw [WY.out hg]
    rw [hg] at CI
    have CB := Lib.hid (CB.out hg)
    clear WN WY hg
    generalize wthF s S wt = mf at *
    have PY : Hid (∀ k, mf k = true → pickI mf (k + 1) = pickI mf k ++ [(k : Int)]) := fun k h => pickI_yes mf k h
    have PN : Hid (∀ k, mf k = false → pickI mf (k + 1) = pickI mf k) := fun k h => pickI_no mf k h
    have PL : Hid (∀ k, (pickI mf k).length ≤ k) := pickI_len mf
    have P0 : Hid (pickI mf 0 = []) := by show _ = _; rfl
    generalize pickI mf = pk at *
    generalize hev : (fun e : Nat => evL s.ar (e : Int)) = f at *
    have HEV : ∀ e : Nat, evL s.ar (e : Int) = f e := fun e => by rw [← hev]
    simp only [HEV] at CC WF
    clear HEV hev
    obtain ⟨sst, EA, N, ev, ec, AA, ar, ac⟩ := s
    dsimp only at *
    go_enter Try.func34, Try.ntmps34
    go_wp2_with fail
    refine (CI.out _ B0.out).mono ?_
    rintro e x1 ⟨rfl, K⟩
    have q0 := keepc q0 K
    have q1 := keepc q1 K
    have q2 := keepc q2 K
    have D1 := Lib.hid (B0.out.trans (K.mono B0.out.size))
    clear K B0 CI
    go_wp2_with fail
    refine (CB.out _ D1.out).mono ?_
    rintro e wq ⟨T, c2, rfl, RT, K⟩
    have RT := Lib.hid RT
    have D2 := Lib.hid (D1.out.trans (K.mono D1.out.size))
    clear K D1 CB q0 q1 q2
    obtain ⟨z, hz⟩ : ∃ z, z = wq.heap.size := ⟨_, rfl⟩
    have HZ := Lib.hid hz
    clear hz
    go_wp2_with fail
    go_loopw [7, 19] (fun p q wr => ∃ k : Nat, k ≤ N ∧ q = .int .i64 k ∧ Hid (OwnI wr z p (pk k)) ∧ Hid (Below z wq wr)) (fun _ q _ => N - (intOf q).toNat)
    case atStart => exact ⟨0, by omega, rfl, by show OwnI _ _ _ _; rw [P0.out]; exact OwnI.nil _ _, Below.refl _ _⟩
    case round =>
      obtain ⟨k, hk, rfl, O, HB2⟩ := hrel
      by_cases hlt : k < N
      · obtain ⟨A, cc, ht, hre⟩ := (RT.out.below (HB2.out.mono (by rw [HZ.out]; exact Nat.le_refl _))) k hlt
        have C := Lib.hid (CC.out A cc k _ hre)
        have WFk := Lib.hid (WF.out k)
        have PLk := PL.out k
        have PYk := Lib.hid (PY.out k)
        have PNk := Lib.hid (PN.out k)
        generalize mf k = bf at *
        generalize signZ S (f k) = v at *
        generalize f k = l at *
        obtain ⟨v1, v2⟩ := v
        dsimp only at *
        have hs2 := HB2.out.size
        rw [← HZ.out] at hs2
        clear hre CC WF PL PY PN
        by_cases hp : v1 = wt
        · subst hp
          have G := Lib.hid (PYk.out (by rw [WFk.out]; exact decide_eq_true rfl))
          have z1 : (v1 == v1) = true := by simp
          clear WFk PYk PNk
          go_wp2_with fail
          refine (C.out).mono ?_
          rintro e w4 ⟨rfl, K⟩
          have O3 : Hid (OwnI w4 z _ (pk k)) := O.out.below K (Nat.le_refl _)
          have B4 : Hid (Below z wq w4) := HB2.out.trans (K.mono hs2)
          clear K O HB2 C
          have hs4 := B4.out.size
          rw [← HZ.out] at hs4
          go_wp2_with (at_builtin; refine wpList_int rfl (.tmp 33) (.tmp 35) rfl z _ (pk k) k rfl (O3.out.alloc _) _ rfl (cell_new1 _ _ _) (by omega) (size_le_alloc hs4 _) ?_; intro v' w5 hown' hb')
          have O5 : Hid (OwnI w5 z v' (pk (k + 1))) := by
            show OwnI _ _ _ _
            rw [G.out]
            exact hown'
          have B5 : Hid (Below z wq w5) := (B4.out.alloc hs4 _).trans hb'
          clear hown' hb'
          go_wp2
          go_roundw
          case rel => exact ⟨k + 1, by omega, by go_num, O5, B5⟩
          case measure => simp [intOf]; omega
        · have G := Lib.hid (PNk.out (by rw [WFk.out]; exact decide_eq_false hp))
          have z1 : (v1 == wt) = false := by simpa using hp
          clear WFk PYk PNk hp
          go_wp2_with fail
          refine (C.out).mono ?_
          rintro e w4 ⟨rfl, K⟩
          have O5 := Lib.hid (O.out.below K (Nat.le_refl _))
          rw [← G.out] at O5
          have B5 : Hid (Below z wq w4) := HB2.out.trans (K.mono hs2)
          clear K O HB2 C
          go_wp2
          go_roundw
          case rel => exact ⟨k + 1, by omega, by go_num, O5, B5⟩
          case measure => simp [intOf]; omega
      · obtain rfl : k = N := by omega
        clear PL PY PN WF CC
        go_wp2
        go_ret
        exact LPost.own O.out (D2.out.trans (HB2.out.mono (by have := D2.out.size; rw [HZ.out]; exact this)))
theorem pre_any (s : SysV) (S : Nat) (w : World) (hr : SysR w s) (hS : S < 18446744073709551616) :
    Calls Try.prog 17 #[.agg #[.int .i64 s.st, .slice s.EA s.el s.ec, .slice s.AA s.ar.length s.ac], .int .u64 (S : Nat)] w (LPost w.heap.size w (wthL s S (-1))) := by
  have B0 : Hid (Below w.heap.size w (w.alloc (.cells #[.int .i64 s.st, .slice s.EA s.el s.ec, .slice s.AA s.ar.length s.ac] 25))) := (Below.refl _ _).alloc (Nat.le_refl _) _
  have C : Hid (∀ W, Below w.heap.size w W → Calls Try.prog 34 #[.agg #[.int .i64 s.st, .slice s.EA s.el s.ec, .slice s.AA s.ar.length s.ac], .int .u64 (S : Nat), .int .i64 (-1)] W (LPost W.heap.size W (wthL s S (-1)))) := fun W hW => signed_any s S (-1) W (hr.below hW (Nat.le_refl _)) hS
  clear hr hS
  generalize wthL s S (-1) = L at *
  go_enter Try.func17, Try.ntmps17
  go_wp2_with fail
  refine (C.out _ B0.out).mono ?_
  rintro e w2 ⟨A, c, rfl, R, K⟩
  have R := Lib.hid R
  have D1 := Lib.hid (B0.out.trans (K.mono B0.out.size))
  clear K
  go_wp2
  go_ret
  exact ⟨A, c, rfl, R.out, D1.out⟩
theorem post_any (s : SysV) (S : Nat) (w : World) (hr : SysR w s) (hS : S < 18446744073709551616) :
    Calls Try.prog 19 #[.agg #[.int .i64 s.st, .slice s.EA s.el s.ec, .slice s.AA s.ar.length s.ac], .int .u64 (S : Nat)] w (LPost w.heap.size w (wthL s S (1))) := by
  have B0 : Hid (Below w.heap.size w (w.alloc (.cells #[.int .i64 s.st, .slice s.EA s.el s.ec, .slice s.AA s.ar.length s.ac] 25))) := (Below.refl _ _).alloc (Nat.le_refl _) _
  have C : Hid (∀ W, Below w.heap.size w W → Calls Try.prog 34 #[.agg #[.int .i64 s.st, .slice s.EA s.el s.ec, .slice s.AA s.ar.length s.ac], .int .u64 (S : Nat), .int .i64 (1)] W (LPost W.heap.size W (wthL s S (1)))) := fun W hW => signed_any s S (1) W (hr.below hW (Nat.le_refl _)) hS
  clear hr hS
  generalize wthL s S (1) = L at *
  go_enter Try.func19, Try.ntmps19
  go_wp2_with fail
  refine (C.out _ B0.out).mono ?_
  rintro e w2 ⟨A, c, rfl, R, K⟩
  have R := Lib.hid R
  have D1 := Lib.hid (B0.out.trans (K.mono B0.out.size))
  clear K
  go_wp2
  go_ret
  exact ⟨A, c, rfl, R.out, D1.out⟩
set_option maxHeartbeats 4000000 in
theorem rwith_any (s : SysV) (S : Nat) (wt : Int) (w : World) (hr : SysR w s) (hS : S < 18446744073709551616) :
    Calls Try.prog 18 #[.agg #[.int .i64 s.st, .slice s.EA s.el s.ec, .slice s.AA s.ar.length s.ac], .int .u64 (S : Nat), .int .i64 wt] w (LPost w.heap.size w (wthL s S wt)) := by
  have CI : Hid (∀ W, Below w.heap.size w W → Calls Try.prog 15 #[.agg #[.int .i64 s.st, .slice s.EA s.el s.ec, .slice s.AA s.ar.length s.ac], .int .u64 (S : Nat)] W (VPost W.heap.size W (.bool (isRg s S)))) := fun W hW => rIs_any s S W (hr.below hW (Nat.le_refl _)) hS
  have CC : Hid (∀ (e : Nat) W, Below w.heap.size w W → Calls Try.prog 31 #[.agg #[.int .i64 s.st, .slice s.EA s.el s.ec, .slice s.AA s.ar.length s.ac], .int .u64 (S : Nat), .int .i64 (e : Nat)] W (fun e' w' => e' = .returned (.tuple #[.int .i64 (signZ S (evL s.ar e)).1, .bool (signZ S (evL s.ar e)).2]) ∧ Below W.heap.size W w')) := fun e W hW => rsign_any s S e W (hr.below hW (Nat.le_refl _)) hS
  have WN : Hid (isRg s S = false → wthL s S wt = []) := fun h => by show _ = _; unfold wthL; rw [h]; rfl
  have WY : Hid (isRg s S = true → wthL s S wt = pickI (wthF s S wt) s.el) := fun h => by show _ = _; unfold wthL; rw [h, if_pos rfl]
  have WF : Hid (∀ k, wthF s S wt k = decide ((signZ S (evL s.ar (k : Nat))).1 = wt)) := fun k => rfl
  have HN := hr.hel
  have PZ : Hid (∀ W, Below (w.alloc (.cells #[.int .i64 s.st, .slice s.EA s.el s.ec, .slice s.AA s.ar.length s.ac] 25)).heap.size (w.alloc (.cells #[.int .i64 s.st, .slice s.EA s.el s.ec, .slice s.AA s.ar.length s.ac] 25)) W → W.cell? ⟨w.heap.size, 0, none⟩ = some (.int .i64 s.st) ∧ W.cell? ⟨w.heap.size, 1, none⟩ = some (.slice s.EA s.el s.ec) ∧ W.cell? ⟨w.heap.size, 2, none⟩ = some (.slice s.AA s.ar.length s.ac) ∧ Below w.heap.size w W) := fun W hW => by
    have hB0 : Below w.heap.size w (w.alloc (.cells #[.int .i64 s.st, .slice s.EA s.el s.ec, .slice s.AA s.ar.length s.ac] 25)) := (Below.refl _ _).alloc (Nat.le_refl _) _
    exact ⟨keepc (by simp) hW, keepc (by simp) hW, keepc (by simp) hW, hB0.trans (hW.mono hB0.size)⟩
  clear hr hS
  obtain ⟨z, hz⟩ : ∃ z, z = (w.alloc (.cells #[.int .i64 s.st, .slice s.EA s.el s.ec, .slice s.AA s.ar.length s.ac] 25)).heap.size := ⟨_, rfl⟩
  have HZ := Lib.hid hz
  rw [← hz] at PZ
  clear hz
  cases hg : isRg s S
  · rw [WN.out hg]
    rw [hg] at CI
    clear WN WY WF CC hg HN
    go_enter Try.func18, Try.ntmps18
    go_wp2_with fail
    go_loopw [7, 8] (fun p q wr => q = .int .i64 0 ∧ p = .slice none 0 0 ∧ Hid (Below z (w.alloc (.cells #[.int .i64 s.st, .slice s.EA s.el s.ec, .slice s.AA s.ar.length s.ac] 25)) wr)) (fun _ q _ => 0)
    case atStart => exact ⟨rfl, rfl, Below.refl _ _⟩
    case round =>
      obtain ⟨rfl, rfl, HB2⟩ := hrel
      obtain ⟨q0, q1, q2, HW⟩ := PZ.out _ HB2.out
      have HW := Lib.hid HW
      by_cases hlt : 0 < s.el
      · go_wp2_with fail
        refine (CI.out _ HW.out).mono ?_
        rintro e x1 ⟨rfl, K⟩
        have D1 := Lib.hid (HW.out.trans (K.mono HW.out.size))
        clear K
        go_wp2
        go_ret
        exact LPost.nil D1.out
      · go_wp2
        go_ret
        exact LPost.nil HW.out
  · rw [WY.out hg]
    rw [hg] at CI
    clear WN WY hg
    generalize wthF s S wt = mf at *
    have PY : Hid (∀ k, mf k = true → pickI mf (k + 1) = pickI mf k ++ [(k : Int)]) := fun k h => pickI_yes mf k h
    have PN : Hid (∀ k, mf k = false → pickI mf (k + 1) = pickI mf k) := fun k h => pickI_no mf k h
    have PL : Hid (∀ k, (pickI mf k).length ≤ k) := pickI_len mf
    have P0 : Hid (pickI mf 0 = []) := by show _ = _; rfl
    generalize pickI mf = pk at *
    generalize hev : (fun e : Nat => evL s.ar (e : Int)) = f at *
    have HEV : ∀ e : Nat, evL s.ar (e : Int) = f e := fun e => by rw [← hev]
    simp only [HEV] at CC WF
    clear HEV hev
    obtain ⟨sst, EA, N, ev, ec, AA, ar, ac⟩ := s
    dsimp only at *
    go_enter Try.func18, Try.ntmps18
    go_wp2_with fail
    go_loopw [7, 8] (fun p q wr => ∃ k : Nat, k ≤ N ∧ q = .int .i64 k ∧ Hid (OwnI wr z p (pk k)) ∧ Hid (Below z (w.alloc (.cells #[.int .i64 sst, .slice EA N ec, .slice AA ar.length ac] 25)) wr)) (fun _ q _ => N - (intOf q).toNat)
    case atStart => exact ⟨0, by omega, rfl, by show OwnI _ _ _ _; rw [P0.out]; exact OwnI.nil _ _, Below.refl _ _⟩
    case round =>
      obtain ⟨k, hk, rfl, O, HB2⟩ := hrel
      obtain ⟨q0, q1, q2, HW⟩ := PZ.out _ HB2.out
      have HW := Lib.hid HW
      have hs2 := HB2.out.size
      rw [← HZ.out] at hs2
      by_cases hlt : k < N
      · have C := CC.out k
        have WFk := Lib.hid (WF.out k)
        have PLk := PL.out k
        have PYk := Lib.hid (PY.out k)
        have PNk := Lib.hid (PN.out k)
        generalize mf k = bf at *
        generalize signZ S (f k) = v at *
        obtain ⟨v1, v2⟩ := v
        dsimp only at *
        have C := Lib.hid C
        clear CC WF PL PY PN
        go_wp2_with fail
        refine (CI.out _ HW.out).mono ?_
        rintro e x1 ⟨rfl, K⟩
        have q0 := keepc q0 K
        have q1 := keepc q1 K
        have q2 := keepc q2 K
        have D1 := Lib.hid (HW.out.trans (K.mono HW.out.size))
        have O1 : Hid (OwnI x1 z _ (pk k)) := O.out.below K (Nat.le_refl _)
        have B1 : Hid (Below z _ x1) := HB2.out.trans (K.mono hs2)
        have hs3 := Nat.le_trans hs2 K.size
        clear K HW O HB2 hs2
        by_cases hp : v1 = wt
        · subst hp
          have G := Lib.hid (PYk.out (by rw [WFk.out]; exact decide_eq_true rfl))
          have z1 : (v1 == v1) = true := by simp
          clear WFk PYk PNk
          go_wp2_with fail
          refine (C.out _ D1.out).mono ?_
          rintro e w4 ⟨rfl, K⟩
          have O3 : Hid (OwnI w4 z _ (pk k)) := O1.out.below K (Nat.le_refl _)
          have B4 : Hid (Below z _ w4) := B1.out.trans (K.mono hs3)
          have hs4 := Nat.le_trans hs3 K.size
          clear K O1 B1 C D1
          go_wp2_with (at_builtin; refine wpList_int rfl (.tmp 33) (.tmp 35) rfl z _ (pk k) k rfl (O3.out.alloc _) _ rfl (cell_new1 _ _ _) (by omega) (size_le_alloc hs4 _) ?_; intro v' w5 hown' hb')
          have O5 : Hid (OwnI w5 z v' (pk (k + 1))) := by
            show OwnI _ _ _ _
            rw [G.out]
            exact hown'
          have B5 : Hid (Below z _ w5) := (B4.out.alloc hs4 _).trans hb'
          clear hown' hb'
          go_wp2
          go_roundw
          case rel => exact ⟨k + 1, by omega, by go_num, O5, B5⟩
          case measure => simp [intOf]; omega
        · have G := Lib.hid (PNk.out (by rw [WFk.out]; exact decide_eq_false hp))
          have z1 : (v1 == wt) = false := by simpa using hp
          clear WFk PYk PNk hp
          go_wp2_with fail
          refine (C.out _ D1.out).mono ?_
          rintro e w4 ⟨rfl, K⟩
          have O5 := Lib.hid (O1.out.below K (Nat.le_refl _))
          rw [← G.out] at O5
          have B5 : Hid (Below z _ w4) := B1.out.trans (K.mono hs3)
          clear K O1 B1 C D1
          go_wp2
          go_roundw
          case rel => exact ⟨k + 1, by omega, by go_num, O5, B5⟩
          case measure => simp [intOf]; omega
      · obtain rfl : k = N := by omega
        clear PL PY PN WF CC
        go_wp2
        go_ret
        exact LPost.own O.out HW.out
end Go.Proofs.Ytnlgfkokaphhjaa
