/- Classes of nets: the reference's graphs. -/
import Derived.Test.YtlbcdnobpnllkaaGreatKG
import Derived.Test.YtlbcdnobpnllkaaGreatDgM3
namespace Go.Proofs.YtlbcdnobpnllkaaGreat
open Go.RowKit Go.Deep

set_option maxHeartbeats 1000000 in
theorem rtargets_own (A : Option Addr) (l : List (Int × Int)) (c : Nat) (w : World) (hr : ReadsA w A l) (hl : l.length ≤ 1000) :
    Calls Tryz.prog 38 #[.slice A l.length c] w (OwnPost w.heap.size w (targetsV l)) := by
  obtain ⟨i0, hi, hz0, hz1, hz2⟩ := info_parts infoI
  have HI := Lib.hid hi
  have HZ0 := Lib.hid hz0
  have HZ1 := Lib.hid hz1
  have HZ2 := Lib.hid hz2
  clear hi hz0 hz1 hz2
  have HR := Lib.hid hr
  clear hr
  generalize hg : w.heap.size = g at *
  have HG := Lib.hid hg
  clear hg
  generalize hn : l.length = n at *
  have HN := Lib.hid hn
  clear hn
  go_enter Tryz.func38, Tryz.ntmps38
  go_wp2
  go_loopw [3, 4] (fun v q wr => ∃ k : Nat, k ≤ n ∧ q = .int .i64 k ∧ Hid (wr.ownsRow g 3 1 v k (vI (targetsV (l.take k)))) ∧ Hid (Below g w wr)) (fun _ q _ => n - (intOf q).toNat)
  case atStart => exact ⟨0, by omega, rfl, World.ownsRow_nil _ _ _ _, Below.refl _ _⟩
  case round =>
    obtain ⟨k, hk, rfl, O, HB⟩ := hrel
    have hsz := HB.out.size
    rw [HG.out] at hsz
    by_cases hlt : k < n
    · obtain ⟨b0, off, rfl, hb0, hc0, hc1⟩ := (HR.out.below HB.out (by rw [HG.out]; exact Nat.le_refl _)) k (by rw [HN.out]; exact hlt)
      have HE := Lib.hid (targets_snoc l k (by rw [HN.out]; exact hlt))
      generalize aP l k = x at *
      generalize aW l k = u at *
      have b1 : k + 1 ≤ maxLen := by unfold maxLen; omega
      have b2 : (k + 1) * 8 ≤ 140737488355328 := by omega
      have b3 : g ≤ (wr.alloc (.cells #[.int .i64 x] 3)).heap.size := by simp only [World.size_alloc]; omega
      have b4 : Hid (∀ q, u3.ownBlock = some q → g ≤ q) := fun q e => (O.out.lt q e).1
      have BA : Hid (Below g w (wr.alloc (.cells #[.int .i64 x] 3))) := HB.out.alloc hsz _
      go_wp2_with (at_builtin; (refine wpList_append_own _ rfl (.tmp 11) (.tmp 17) 34 rfl g 3 i0 (.int .i64 0) 1 8 Tryz.underlying34 HI.out HZ0.out HZ1.out HZ2.out rfl (by decide) u3 k _ rfl (O.out.alloc _) ⟨wr.heap.size, 0, none⟩ 1 1 [.int .i64 x] rfl rfl (cell_one_new _ _ _) (one_cellI _) b1 b2 b3 ?_); intro v' w5 hown' hgrow _)
      have O5 : Hid (w5.ownsRow g 3 1 v' (k + 1) (vI (targetsV (l.take (k + 1))))) := by
        show World.ownsRow _ _ _ _ _ _ _
        rw [HE.out, vI_snoc]
        exact hown'
      have B5 : Hid (Below g w w5) := BA.out.grown hgrow b3 b4.out
      clear hown' hgrow
      go_wp2
      go_roundw
      case rel => exact ⟨k + 1, by omega, by go_num, O5, B5⟩
      case measure => simp [intOf]; omega
    · obtain rfl : k = n := by omega
      have e : l.take k = l := List.take_of_length_le (by rw [HN.out]; exact Nat.le_refl _)
      rw [e] at O
      have O2 : Hid (wr.ownsRow g 3 1 u3 (targetsV l).length (vI (targetsV l))) := by
        have hl2 : (targetsV l).length = k := by unfold targetsV; rw [List.length_map, HN.out]
        show World.ownsRow _ _ _ _ _ _ _
        rw [hl2]; exact O.out
      clear O e
      go_wp2
      go_ret
      exact ⟨_, rfl, O2.out, HB.out⟩

def RFlowPost2 (g : Nat) (w : World) (n : NetV) (e : Ending) (w' : World) : Prop :=
  (okN n = false ∧ e = .returned (.slice none 0 0) ∧ Below g w w') ∨ (okN n = true ∧ ∃ s v L, e = .returned v ∧ g ≤ s ∧ L.length = nodN n ∧ Dg.OwnL w' s v L ∧ (∀ j, j < L.length → (Dg.rA L j).zs = flowV n j) ∧ Below g w w')
def RFlowPost (g : Nat) (w : World) (n : NetV) (e : Ending) (w' : World) : Prop :=
  (okN n = false ∧ e = .returned (.slice none 0 0) ∧ Below g w w') ∨ (okN n = true ∧ ∃ A c RA RK, e = .returned (.slice A (nodN n) c) ∧ Dg.GraphR w' A (nodN n) RA (flowV n) RK ∧ Below g w w')
theorem rows_graph {w : World} {s : Nat} {v : Value} {L : List Dg.Row} {R : Nat → List Int} (h : Dg.OwnL w s v L) (hr : ∀ j, j < L.length → (Dg.rA L j).zs = R j) (hn : L.length ≤ 4000) : ∃ A c, v = .slice A L.length c ∧ Dg.GraphR w A L.length (fun i => (Dg.rA L i).A) R (fun i => (Dg.rA L i).cap) := by
  obtain ⟨A, c, e1, R1⟩ := h.reads
  refine ⟨A, c, e1, hn, fun i hi => ?_, fun i hi => ?_, fun i hi => ?_⟩
  · obtain ⟨b, off, e, h1, h2⟩ := R1.1 i hi
    refine ⟨b, off, e, h1, ?_⟩
    rw [h2]
    unfold Dg.Row.v
    rw [hr i hi]
  · have h := (R1.2 _ (Dg.rA_mem hi)).1
    rw [hr i hi] at h
    exact h
  · have h := (R1.2 _ (Dg.rA_mem hi)).2
    rw [hr i hi] at h
    omega
theorem rA_snoc {L : List Dg.Row} {r : Dg.Row} {R : Nat → List Int} (h : ∀ j, j < L.length → (Dg.rA L j).zs = R j) (hr : r.zs = R L.length) : ∀ j, j < (L ++ [r]).length → (Dg.rA (L ++ [r]) j).zs = R j := fun j hj => by
  rw [List.length_append, List.length_singleton] at hj
  by_cases e : j = L.length
  · rw [e, ← hr]
    unfold Dg.rA
    rw [List.getElem?_append_right (Nat.le_refl _), Nat.sub_self]
    rfl
  · have h2 := h j (by omega)
    unfold Dg.rA at h2 ⊢
    rw [List.getElem?_append_left (by omega)]
    exact h2
theorem shP_yes (P t : Nat) (f : Nat → Bool) (h : f t = true) : shP P (pickI f (t + 1)) = shP P (pickI f t) ++ [((P + t : Nat) : Int)] := by
  rw [pickI_yes _ _ h]
  simp [shP]
  omega
theorem shP_no (P t : Nat) (f : Nat → Bool) (h : f t = false) : shP P (pickI f (t + 1)) = shP P (pickI f t) := by rw [pickI_no _ _ h]
set_option maxHeartbeats 8000000 in
set_option maxRecDepth 100000 in
theorem rflow2_any (n : NetV) (w : World) (hr : NetR w n) :
    Calls Tryz.prog 11 #[(.agg #[.string n.nm, .slice n.PA n.ps.length n.pc, .slice n.TA n.ts.length n.tc])] w (RFlowPost2 w.heap.size w n) := by
  have CV := Lib.hid fun W (hW : Below w.heap.size w W) => rvalidN_any n W (hr.below hW (Nat.le_refl _))
  have hpl := hr.okp.1
  have htl := hr.okt.1
  have RT := Lib.hid fun W (hW : Below w.heap.size w W) => (hr.below hW (Nat.le_refl _)).rt
  have OT := Lib.hid hr.okt.2
  have B0 : Hid (Below w.heap.size w (w.alloc (.cells #[.string n.nm, .slice n.PA n.ps.length n.pc, .slice n.TA n.ts.length n.tc] 25))) := (Below.refl _ _).alloc (Nat.le_refl _) _
  have N0 : Hid (NBox (w.alloc (.cells #[.string n.nm, .slice n.PA n.ps.length n.pc, .slice n.TA n.ts.length n.tc] 25)) w.heap.size n) := NBox.new w n
  unfold RFlowPost2
  by_cases hok : okN n = true
  case neg =>
    have hok : okN n = false := by simpa using hok
    have E := Lib.hid hok
    have CV : Hid (∀ W, Below w.heap.size w W → Calls Tryz.prog 36 #[(.agg #[.string n.nm, .slice n.PA n.ps.length n.pc, .slice n.TA n.ts.length n.tc])] W (VPost W.heap.size W (.bool false))) := fun W hW => by have h := CV.out W hW; rw [hok] at h; exact h
    clear hok hr RT OT
    go_enter Tryz.func11, Tryz.ntmps11
    go_wp2_with fail
    refine (CV.out _ B0.out).mono ?_
    rintro e w1 ⟨rfl, K⟩
    have K2 := Lib.hid (B0.out.trans (K.mono (by rw [World.size_alloc]; omega)))
    clear K
    go_wp2
    go_ret
    exact Or.inl ⟨E.out, rfl, K2.out⟩
  · have E := Lib.hid hok
    have CV : Hid (∀ W, Below w.heap.size w W → Calls Tryz.prog 36 #[(.agg #[.string n.nm, .slice n.PA n.ps.length n.pc, .slice n.TA n.ts.length n.tc])] W (VPost W.heap.size W (.bool true))) := fun W hW => by have h := CV.out W hW; rw [hok] at h; exact h
    have FA : Hid (∀ p, p < n.ps.length → flowV n p = shP n.ps.length (pickI (conF n.ts (p : Nat)) n.ts.length)) := fun p hp => by unfold flowV consumersN; rw [if_pos hp, if_pos hok]
    have FB : Hid (∀ t, t < n.ts.length → flowV n (n.ps.length + t) = targetsV (tA n.ts t).post.l) := fun t ht => by
      unfold flowV outputsN
      rw [if_neg (by omega), Nat.add_sub_cancel_left, if_pos (isT_val.2 ⟨by omega, by omega, hok⟩)]
      rfl
    have CD : Hid (∀ (p t : Nat), conF n.ts (p : Nat) t = decide (0 < weightV (tA n.ts t).pre.l (p : Nat))) := fun _ _ => rfl
    have SY : Hid (∀ (p t : Nat), conF n.ts (p : Nat) t = true → shP n.ps.length (pickI (conF n.ts (p : Nat)) (t + 1)) = shP n.ps.length (pickI (conF n.ts (p : Nat)) t) ++ [((n.ps.length + t : Nat) : Int)]) := fun p t h => shP_yes _ _ _ h
    have SN : Hid (∀ (p t : Nat), conF n.ts (p : Nat) t = false → shP n.ps.length (pickI (conF n.ts (p : Nat)) (t + 1)) = shP n.ps.length (pickI (conF n.ts (p : Nat)) t)) := fun p t h => shP_no _ _ _ h
    have S0 : Hid (∀ p : Nat, shP n.ps.length (pickI (conF n.ts (p : Nat)) 0) = []) := fun p => rfl
    have SL : Hid (∀ p t : Nat, (shP n.ps.length (pickI (conF n.ts (p : Nat)) t)).length ≤ t) := fun p t => by unfold shP; rw [List.length_map]; exact pickI_len _ _
    have hgoal : Hid (∀ (L : List Dg.Row) (v : Value) (W : World) (s : Nat), w.heap.size ≤ s → L.length = n.ps.length + n.ts.length → Dg.OwnL W s v L → (∀ j, j < L.length → (Dg.rA L j).zs = flowV n j) → Below w.heap.size w W → (okN n = false ∧ Ending.returned v = .returned (.slice none 0 0) ∧ Below w.heap.size w W) ∨ (okN n = true ∧ ∃ s v' L, Ending.returned v = .returned v' ∧ w.heap.size ≤ s ∧ L.length = nodN n ∧ Dg.OwnL W s v' L ∧ (∀ j, j < L.length → (Dg.rA L j).zs = flowV n j) ∧ Below w.heap.size w W)) := fun L v W s hs h1 h2 h3 h4 => Or.inr ⟨E.out, s, v, L, rfl, hs, h1, h2, h3, h4⟩
    clear hok hr
    generalize flowV n = fv at *
    generalize (fun (p t : Nat) => shP n.ps.length (pickI (conF n.ts (p : Nat)) t)) = zz at *
    go_enter Tryz.func11, Tryz.ntmps11
    go_wp2_with fail
    refine (CV.out _ B0.out).mono ?_
    rintro e w1 ⟨rfl, K⟩
    have B1 := Lib.hid (B0.out.trans (K.mono (by rw [World.size_alloc]; omega)))
    have N1 := Lib.hid (N0.out.below K (by simp))
    have hg1 : w.heap.size < w1.heap.size := by have := K.size; rw [World.size_alloc] at this; omega
    have NBW : Hid (∀ W, Below w1.heap.size w1 W → NBox W w.heap.size n) := fun W hW => N1.out.below hW hg1
    have BW : Hid (∀ W, Below w1.heap.size w1 W → Below w.heap.size w W) := fun W hW => B1.out.trans (hW.mono (by omega))
    have O0 : Hid (Dg.OwnL w1 w1.heap.size (.slice none 0 0) []) := Dg.OwnL.nil _ _
    have R0 : Hid (∀ v, v < ([] : List Dg.Row).length → (Dg.rA [] v).zs = fv v) := fun v hv => absurd hv (by simp)
    have K0 : Hid (Below w1.heap.size w1 w1) := Below.refl _ _
    clear K CV B0 N0 B1 N1
    go_wp2_with fail
    go_loopw [4, 3] (fun q ov wr => ∃ L : List Dg.Row, L.length ≤ n.ps.length ∧ q = .int .i64 (L.length : Nat) ∧ Hid (Dg.OwnL wr w1.heap.size ov L) ∧ Hid (∀ v, v < L.length → (Dg.rA L v).zs = fv v) ∧ Hid (Below w1.heap.size w1 wr)) (fun q _ _ => n.ps.length - (intOf q).toNat)
    case atStart => exact ⟨[], by simp, rfl, O0, R0, K0⟩
    case round =>
      clear O0 K0 R0
      obtain ⟨wo, rfl⟩ : ∃ wo, wo = wr := ⟨_, rfl⟩
      obtain ⟨L, hL, rfl, OW, RR, BB⟩ := hrel
      have hsz := BB.out.size
      obtain ⟨k, hk⟩ : ∃ k, k = L.length := ⟨_, rfl⟩
      have HK := Lib.hid hk
      have hLi : (L.length : Int) = (k : Int) := by omega
      by_cases hlt : k < n.ps.length
      · obtain ⟨c0, c1, c2⟩ := NBW.out _ BB.out
        have FAk := Lib.hid (FA.out k hlt)
        have CDk := Lib.hid (CD.out k)
        have SYk := Lib.hid (SY.out k)
        have SNk := Lib.hid (SN.out k)
        have SLk := Lib.hid (SL.out k)
        have P0 : Hid (Dg.OwnI wo wo.heap.size (.slice none 0 0) (shP n.ps.length (pickI (conF n.ts (k : Nat)) 0))) := by show Dg.OwnI _ _ _ _; rw [S0.out]; exact Dg.OwnI.nil _ _
        have Z0 : Hid (Below wo.heap.size wo wo) := Below.refl _ _
        have NBo : Hid (∀ W, Below wo.heap.size wo W → NBox W w.heap.size n) := fun W hW => NBW.out W (BB.out.trans (hW.mono hsz))
        have RTo : Hid (∀ W, Below wo.heap.size wo W → ReadsT W n.TA n.ts) := fun W hW => RT.out W (BW.out _ (BB.out.trans (hW.mono hsz)))
        clear FA FB CD SY SN S0 SL hgoal hk RT
        rw [hLi]
        generalize hzz : (fun t : Nat => shP n.ps.length (pickI (conF n.ts (k : Nat)) t)) = z at *
        have Zt : ∀ t, shP n.ps.length (pickI (conF n.ts (k : Nat)) t) = z t := fun t => by rw [← hzz]
        simp only [Zt] at P0 SYk SNk SLk FAk
        clear Zt hzz
        generalize conF n.ts (k : Nat) = cf at *
        go_wp2_with fail
        go_loopw [6, 5] (fun q lv wr => ∃ t : Nat, t ≤ n.ts.length ∧ q = .int .i64 (t : Nat) ∧ Hid (Dg.OwnI wr wo.heap.size lv (z t)) ∧ Hid (Below wo.heap.size wo wr)) (fun q _ _ => n.ts.length - (intOf q).toNat)
        case atStart => exact ⟨0, by omega, rfl, P0, Z0⟩
        case round =>
          clear P0 Z0 c0 c1 c2
          obtain ⟨wp, rfl⟩ : ∃ wp, wp = wr := ⟨_, rfl⟩
          obtain ⟨t, ht, rfl, OP, BP⟩ := hrel
          obtain ⟨c0, c1, c2⟩ := NBo.out _ BP.out
          have hsp := BP.out.size
          by_cases hlt2 : t < n.ts.length
          · obtain ⟨b0, off, e0, hb0, d0, d1, d2, d3, d4, r1, r2, r3⟩ := RTo.out wp BP.out t hlt2
            have CW := Lib.hid (rweight_any (tA n.ts t).pre.A (tA n.ts t).pre.l (tA n.ts t).pre.c (k : Int) wp r1 (Nat.le_trans (OT.out t).2.1 (by unfold maxLen; omega)))
            have CDt := Lib.hid (CDk.out t)
            have SYt := Lib.hid (SYk.out t)
            have SNt := Lib.hid (SNk.out t)
            have hzl := SLk.out t
            obtain ⟨nd, hnd⟩ : ∃ nd, nd = n.ps.length + t := ⟨_, rfl⟩
            have hndi : (n.ps.length : Int) + (t : Int) = (nd : Int) := by omega
            rw [← hnd] at SYt
            rw [e0] at c2
            try rw [e0]
            clear hnd r1 r2 r3 CDk SYk SNk FAk SLk e0
            generalize weightV (tA n.ts t).pre.l (k : Int) = wt at *
            generalize (tA n.ts t).pre.l.length = pl at *
            generalize (tA n.ts t).pre.A = pA at *
            generalize (tA n.ts t).pre.c = pc at *
            generalize (tA n.ts t).post = po at *
            generalize (tA n.ts t).inh = pin at *
            generalize (tA n.ts t).nm = pnm at *
            generalize (tA n.ts t).prio = ppr at *
            by_cases hw : 0 < wt
            · have E := Lib.hid (SYt.out (by rw [CDt.out]; exact decide_eq_true hw))
              clear SYt SNt CDt
              go_wp2_with fail
              refine CW.out.mono ?_
              rintro e w3 ⟨rfl, K3⟩
              have O3 := Lib.hid (OP.out.below K3 (Nat.le_refl _))
              have B3 := Lib.hid (BP.out.trans (K3.mono hsp))
              have hs3 := B3.out.size
              obtain ⟨f0, f1, f2⟩ := NBo.out _ B3.out
              clear c0 c1 c2 d0 d1 d2 d3 d4 K3 CW OP BP
              go_wp2_with (at_builtin; go_loud (refine Dg.wpList_int rfl (.tmp 34) (.tmp 40) rfl wo.heap.size u5 (z t) (nd : Int) rfl (O3.out.alloc _) w3.heap.size rfl (Dg.cell_new1 _ _ _) (by omega) (by rw [World.size_alloc]; omega) ?_); intro v' w6 ho6 hb6; have O6 : Hid (Dg.OwnI w6 wo.heap.size v' (z (t + 1))) := (by show Dg.OwnI _ _ _ _; rw [E.out]; exact ho6); have B6 := Lib.hid ((B3.out.alloc hs3 _).trans hb6); clear ho6 hb6)
              go_roundw
              case rel => exact ⟨t + 1, by omega, by go_num, O6, B6⟩
              case measure => simp [intOf]; omega
            · have E := Lib.hid (SNt.out (by rw [CDt.out]; exact decide_eq_false hw))
              clear SYt SNt CDt
              go_wp2_with fail
              refine CW.out.mono ?_
              rintro e w3 ⟨rfl, K3⟩
              have O3 : Hid (Dg.OwnI w3 wo.heap.size u5 (z (t + 1))) := by show Dg.OwnI _ _ _ _; rw [E.out]; exact OP.out.below K3 (Nat.le_refl _)
              have B3 := Lib.hid (BP.out.trans (K3.mono hsp))
              clear c0 c1 c2 d0 d1 d2 d3 d4 K3 CW OP BP
              go_wp2
              go_roundw
              case rel => exact ⟨t + 1, by omega, by go_num, O3, B3⟩
              case measure => simp [intOf]; omega
          · have htT : t = n.ts.length := by omega
            have ho := OP.out
            rw [htT, ← FAk.out] at ho
            unfold Dg.OwnI at ho
            obtain ⟨pA, pc, ep, -⟩ := Dg.ReadsV.own ho
            have hpl2 : (fv k).length ≤ 1000 := by
              rw [FAk.out]
              have := SLk.out n.ts.length
              omega
            subst ep
            have FR : Hid (Dg.FarR wp w1.heap.size ⟨pA, fv k, pc⟩) := Dg.FarR.ofOwn ho hpl2
            have O2 := Lib.hid (OW.out.below BP.out (Nat.le_refl _))
            have B2 := Lib.hid (BB.out.trans (BP.out.mono hsz))
            have hs2 := B2.out.size
            have RN : Hid (∀ v, v < (L ++ [(⟨pA, fv k, pc⟩ : Dg.Row)]).length → (Dg.rA (L ++ [⟨pA, fv k, pc⟩]) v).zs = fv v) := rA_snoc RR.out (by show fv k = _; rw [← HK.out])
            have hll : L.length ≤ 100000 := by omega
            clear ho OP OW BP BB RR FAk SYk SNk SLk CDk
            generalize fv k = PL at *
            go_wp2_with (at_builtin; go_loud (refine Dg.wpList_row rfl (.tmp 42) (.tmp 44) rfl w1.heap.size u3 L ⟨pA, PL, pc⟩ rfl (O2.out.alloc _) wp.heap.size rfl (Dg.cell_new1 _ _ _) (FR.out.alloc _) hll (by rw [World.size_alloc]; omega) ?_); intro v' w6 ho6 hb6; have O6 := Lib.hid ho6; have B6 := Lib.hid ((B2.out.alloc hs2 _).trans hb6); clear ho6 hb6)
            go_roundw
            case rel => exact ⟨L ++ [⟨pA, PL, pc⟩], by rw [List.length_append, List.length_singleton]; omega, by rw [List.length_append, List.length_singleton, ← HK.out]; go_num, O6, RN, B6⟩
            case measure => simp [intOf]; omega
      · have hkP : L.length = n.ps.length := by omega
        have hnk : ¬ (k : Int) < (n.ps.length : Int) := by omega
        obtain ⟨c0, c1, c2⟩ := NBW.out _ BB.out
        rw [hLi]
        clear FA CD SY SN S0 SL hk HK hLi hL hlt
        go_wp2_with fail
        have OW0 := OW
        have RR0 := RR
        have BB0 := BB
        clear OW RR BB
        go_loopw [7, 3] (fun q ov wr => ∃ (t : Nat) (L : List Dg.Row), t ≤ n.ts.length ∧ q = .int .i64 (t : Nat) ∧ L.length = n.ps.length + t ∧ Hid (Dg.OwnL wr w1.heap.size ov L) ∧ Hid (∀ v, v < L.length → (Dg.rA L v).zs = fv v) ∧ Hid (Below w1.heap.size w1 wr)) (fun q _ _ => n.ts.length - (intOf q).toNat)
        case atStart => exact ⟨0, L, by omega, rfl, by omega, OW0, RR0, BB0⟩
        case round =>
          clear OW0 BB0 RR0 c0 c1 c2 hsz
          obtain ⟨wp, rfl⟩ : ∃ wp, wp = wr := ⟨_, rfl⟩
          obtain ⟨t, L2, ht, rfl, hL2, OW, RR, BB⟩ := hrel
          have HL2 := Lib.hid hL2
          have hsz := BB.out.size
          obtain ⟨c0, c1, c2⟩ := NBW.out _ BB.out
          by_cases hlt2 : t < n.ts.length
          · obtain ⟨b0, off, e0, hb0, d0, d1, d2, d3, d4, r1, r2, r3⟩ := RT.out wp (BW.out _ BB.out) t hlt2
            have hp2 := (OT.out t).2.2.1
            have CT := Lib.hid (rtargets_own (tA n.ts t).post.A (tA n.ts t).post.l (tA n.ts t).post.c wp r2 hp2)
            have FBt : Hid (fv L2.length = targetsV (tA n.ts t).post.l) := by show _ = _; rw [hL2]; exact FB.out t hlt2
            have htl3 : (targetsV (tA n.ts t).post.l).length ≤ 1000 := by unfold targetsV; rw [List.length_map]; exact hp2
            rw [e0] at c2
            try rw [e0]
            clear r1 r2 r3 e0 FB hL2
            unfold OwnPost at CT
            generalize targetsV (tA n.ts t).post.l = TL at *
            generalize (tA n.ts t).post.l.length = pl at *
            generalize (tA n.ts t).post.A = pA at *
            generalize (tA n.ts t).post.c = pc at *
            generalize (tA n.ts t).pre = pr at *
            generalize (tA n.ts t).inh = pin at *
            generalize (tA n.ts t).nm = pnm at *
            generalize (tA n.ts t).prio = ppr at *
            go_wp2_with fail
            refine CT.out.mono ?_
            rintro e w3 ⟨v3, rfl, O3, K3⟩
            obtain ⟨qA, qc, ev, -⟩ := ReadsV.own O3
            subst ev
            have FR : Hid (Dg.FarR w3 w1.heap.size ⟨qA, TL, qc⟩) := Dg.FarR.ofOwn O3 htl3
            have O2 := Lib.hid (OW.out.below K3 (Nat.le_refl _))
            have B2 := Lib.hid (BB.out.trans (K3.mono hsz))
            have hs2 := B2.out.size
            have RN : Hid (∀ v, v < (L2 ++ [(⟨qA, TL, qc⟩ : Dg.Row)]).length → (Dg.rA (L2 ++ [⟨qA, TL, qc⟩]) v).zs = fv v) := rA_snoc RR.out FBt.out.symm
            have hll : L2.length ≤ 100000 := by rw [HL2.out]; omega
            clear O3 K3 CT OW BB RR FBt c0 c1 c2 d0 d1 d2 d3 d4
            go_wp2_with (at_builtin; go_loud (refine Dg.wpList_row rfl (.tmp 53) (.tmp 61) rfl w1.heap.size u3 L2 ⟨qA, TL, qc⟩ rfl (O2.out.alloc _) w3.heap.size rfl (Dg.cell_new1 _ _ _) (FR.out.alloc _) hll (by rw [World.size_alloc]; omega) ?_); intro v' w6 ho6 hb6; have O6 := Lib.hid ho6; have B6 := Lib.hid ((B2.out.alloc hs2 _).trans hb6); clear ho6 hb6)
            go_roundw
            case rel => exact ⟨t + 1, L2 ++ [⟨qA, TL, qc⟩], by omega, by go_num, by rw [List.length_append, List.length_singleton, HL2.out]; omega, O6, RN, B6⟩
            case measure => simp [intOf]; omega
          · have htT : t = n.ts.length := by omega
            have FIN := Lib.hid (hgoal.out L2 u3 wp w1.heap.size (Nat.le_of_lt hg1) (by rw [hL2, htT]) OW.out RR.out (BW.out _ BB.out))
            clear hgoal OW RR BB RT FB
            go_wp2
            go_ret
            exact FIN.out
theorem rflow_any (n : NetV) (w : World) (hr : NetR w n) :
    Calls Tryz.prog 11 #[(.agg #[.string n.nm, .slice n.PA n.ps.length n.pc, .slice n.TA n.ts.length n.tc])] w (RFlowPost w.heap.size w n) :=
  (rflow2_any n w hr).mono fun e w' h => by
    rcases h with h | ⟨h0, s, v, L, h1, h2, h3, h4, h5, h6⟩
    · exact Or.inl h
    · obtain ⟨A, c, e1, G⟩ := rows_graph h4 h5 (by rw [h3]; unfold nodN; have := okN_parts h0; omega)
      rw [h3] at e1 G
      exact Or.inr ⟨h0, A, c, _, _, by rw [h1, e1], G, h6⟩
def bothV (R : Nat → List Int) (n v : Nat) : List Int := R v ++ Dg.revV R n v
theorem take_snocL {l : List Int} {k : Nat} (h : k < l.length) : l.take (k + 1) = l.take k ++ [Dg.at0 l k] := by
  rw [List.take_succ_eq_append_getElem h]
  unfold Dg.at0
  rw [List.getElem?_eq_getElem h]
  rfl
set_option maxHeartbeats 8000000 in
set_option maxRecDepth 100000 in
theorem rboth_any (gA : Option Addr) (N gc : Nat) (RA : Nat → Option Addr) (R : Nat → List Int) (RK : Nat → Nat) (w : World) (GR : Dg.GraphR w gA N RA R RK) (hN : N ≤ 500) (hR : ∀ v, v < N → (R v).length ≤ 400) :
    Calls Tryz.prog 45 #[.slice gA N gc] w fun e w' => ∃ A c RA' RK', e = .returned (.slice A N c) ∧ Dg.GraphR w' A N RA' (bothV R N) RK' ∧ Below w.heap.size w w' := by
  have CR := Lib.hid (Dg.rreverse_any gA N gc RA R RK w GR (by omega))
  have GW : Hid (∀ W, Below w.heap.size w W → Dg.GraphR W gA N RA R RK) := fun W hW => GR.below hW
  have BV : Hid (∀ v, bothV R N v = R v ++ Dg.revV R N v) := fun _ => rfl
  have RL : Hid (∀ v, (Dg.revV R N v).length ≤ N) := fun v => Dg.pickI_len _ _
  have HR := Lib.hid hR
  clear GR hR
  generalize bothV R N = bv at *
  generalize Dg.revV R N = rv at *
  go_enter Tryz.func45, Tryz.ntmps45
  go_wp2_with fail
  refine CR.out.mono ?_
  rintro e w1 ⟨bA, bc, BA, BK, rfl, G1, K1⟩
  have GB : Hid (∀ W, Below w1.heap.size w1 W → Dg.GraphR W bA N BA rv BK) := fun W hW => G1.below hW
  have GG : Hid (∀ W, Below w1.heap.size w1 W → Dg.GraphR W gA N RA R RK) := fun W hW => GW.out W (K1.trans (hW.mono K1.size))
  have K1 := Lib.hid K1
  have O0 : Hid (Dg.OwnL w1 w1.heap.size (.slice none 0 0) []) := Dg.OwnL.nil _ _
  have R0 : Hid (∀ v, v < ([] : List Dg.Row).length → (Dg.rA [] v).zs = bv v) := fun v hv => absurd hv (by simp)
  have K0 : Hid (Below w1.heap.size w1 w1) := Below.refl _ _
  clear CR GW G1
  go_wp2_with fail
  go_loopw [5, 4] (fun q ov wr => ∃ (k : Nat) (L : List Dg.Row), k ≤ N ∧ q = .int .i64 (k : Nat) ∧ L.length = k ∧ Hid (Dg.OwnL wr w1.heap.size ov L) ∧ Hid (∀ v, v < L.length → (Dg.rA L v).zs = bv v) ∧ Hid (Below w1.heap.size w1 wr)) (fun q _ _ => N - (intOf q).toNat)
  case atStart => exact ⟨0, [], by omega, rfl, rfl, O0, R0, K0⟩
  case round =>
    clear O0 R0 K0
    obtain ⟨wo, rfl⟩ : ∃ wo, wo = wr := ⟨_, rfl⟩
    obtain ⟨k, L, hk, rfl, hL, OW, RR, BB⟩ := hrel
    have HL := Lib.hid hL
    have hsz := BB.out.size
    clear hL
    by_cases hlt : k < N
    · have GGo : Hid (∀ W, Below wo.heap.size wo W → ∃ b off, gA = some ⟨b, off, none⟩ ∧ W.cell? ⟨b, off + k, none⟩ = some (.slice (RA k) (R k).length (RK k)) ∧ Dg.ReadsV W (RA k) (R k)) := fun W hW => by
        have h := GG.out W (BB.out.trans (hW.mono hsz))
        obtain ⟨b, off, e, _, h2⟩ := h.row k hlt
        exact ⟨b, off, e, h2, h.rd k hlt⟩
      have GBo : Hid (∀ W, Below wo.heap.size wo W → ∃ b off, bA = some ⟨b, off, none⟩ ∧ W.cell? ⟨b, off + k, none⟩ = some (.slice (BA k) (rv k).length (BK k)) ∧ Dg.ReadsV W (BA k) (rv k)) := fun W hW => by
        have h := GB.out W (BB.out.trans (hW.mono hsz))
        obtain ⟨b, off, e, _, h2⟩ := h.row k hlt
        exact ⟨b, off, e, h2, h.rd k hlt⟩
      have BVk := Lib.hid (BV.out k)
      have hrk := HR.out k hlt
      have hvk := RL.out k
      have P0 : Hid (Dg.OwnI wo wo.heap.size (.slice none 0 0) ((R k).take 0)) := Dg.OwnI.nil _ _
      have Z0 : Hid (Below wo.heap.size wo wo) := Below.refl _ _
      clear GG GB BV HR RL
      generalize R k = Rk at *
      generalize rv k = Bk at *
      generalize RA k = RAk at *
      generalize RK k = RKk at *
      generalize BA k = BAk at *
      generalize BK k = BKk at *
      go_wp2_with fail
      go_loopw [7, 6] (fun q lv wr => ∃ t : Nat, t ≤ Rk.length ∧ q = .int .i64 (t : Nat) ∧ Hid (Dg.OwnI wr wo.heap.size lv (Rk.take t)) ∧ Hid (Below wo.heap.size wo wr)) (fun q _ _ => Rk.length - (intOf q).toNat)
      case atStart => exact ⟨0, by omega, rfl, P0, Z0⟩
      case round =>
        clear P0 Z0
        obtain ⟨wp, rfl⟩ : ∃ wp, wp = wr := ⟨_, rfl⟩
        obtain ⟨t, ht, rfl, OP, BP⟩ := hrel
        have hsp := BP.out.size
        obtain ⟨gb, go, eg, d0, d1⟩ := GGo.out _ BP.out
        by_cases hlt2 : t < Rk.length
        · obtain ⟨b2, off2, e2, _, d2⟩ := d1 t hlt2
          have E := Lib.hid (take_snocL hlt2)
          have hpl : (Rk.take t).length ≤ 2000 := by rw [List.length_take]; omega
          subst eg
          subst e2
          clear d1 BVk OW RR BB GBo GGo
          generalize Dg.at0 Rk t = x at *
          generalize Rk.take t = PT at *
          go_wp2_with (at_builtin; go_loud (refine Dg.wpList_int rfl (.tmp 26) (.tmp 34) rfl wo.heap.size u6 PT x rfl (OP.out.alloc _) wp.heap.size rfl (Dg.cell_new1 _ _ _) (by omega) (by rw [World.size_alloc]; omega) ?_); intro v' w6 ho6 hb6; have O6 : Hid (Dg.OwnI w6 wo.heap.size v' (Rk.take (t + 1))) := (by show Dg.OwnI _ _ _ _; rw [E.out]; exact ho6); have B6 := Lib.hid ((BP.out.alloc hsp _).trans hb6); clear ho6 hb6)
          go_roundw
          case rel => exact ⟨t + 1, by omega, by go_num, O6, B6⟩
          case measure => simp [intOf]; omega
        · have htR : t = Rk.length := by omega
          have P1 : Hid (Dg.OwnI wp wo.heap.size u6 (Rk ++ Bk.take 0)) := by
            have h := OP.out
            rw [htR, List.take_length] at h
            show Dg.OwnI _ _ _ _
            rw [List.take_zero, List.append_nil]
            exact h
          have Z1 := BP
          have hnt : ¬ (t : Int) < (Rk.length : Int) := by omega
          subst eg
          clear OP BP d1 GGo htR hlt2
          go_wp2_with fail
          go_loopw [8, 6] (fun q lv wr => ∃ t : Nat, t ≤ Bk.length ∧ q = .int .i64 (t : Nat) ∧ Hid (Dg.OwnI wr wo.heap.size lv (Rk ++ Bk.take t)) ∧ Hid (Below wo.heap.size wo wr)) (fun q _ _ => Bk.length - (intOf q).toNat)
          case atStart => exact ⟨0, by omega, rfl, P1, Z1⟩
          case round =>
            clear P1 Z1 d0 hsp
            obtain ⟨wq, rfl⟩ : ∃ wq, wq = wr := ⟨_, rfl⟩
            obtain ⟨t, ht, rfl, OP, BP⟩ := hrel
            have hsp := BP.out.size
            obtain ⟨gb, go, eg, d0, d1⟩ := GBo.out _ BP.out
            by_cases hlt2 : t < Bk.length
            · obtain ⟨b2, off2, e2, _, d2⟩ := d1 t hlt2
              have E : Hid (Rk ++ Bk.take (t + 1) = (Rk ++ Bk.take t) ++ [Dg.at0 Bk t]) := by show _ = _; rw [take_snocL hlt2, List.append_assoc]
              have hpl : (Rk ++ Bk.take t).length ≤ 2000 := by rw [List.length_append, List.length_take]; omega
              subst eg
              subst e2
              clear d1 BVk OW RR BB GBo
              generalize Dg.at0 Bk t = x at *
              generalize Rk ++ Bk.take t = PT at *
              go_wp2_with (at_builtin; go_loud (refine Dg.wpList_int rfl (.tmp 45) (.tmp 53) rfl wo.heap.size u6 PT x rfl (OP.out.alloc _) wq.heap.size rfl (Dg.cell_new1 _ _ _) (by omega) (by rw [World.size_alloc]; omega) ?_); intro v' w6 ho6 hb6; have O6 : Hid (Dg.OwnI w6 wo.heap.size v' (Rk ++ Bk.take (t + 1))) := (by show Dg.OwnI _ _ _ _; rw [E.out]; exact ho6); have B6 := Lib.hid ((BP.out.alloc hsp _).trans hb6); clear ho6 hb6)
              go_roundw
              case rel => exact ⟨t + 1, by omega, by go_num, O6, B6⟩
              case measure => simp [intOf]; omega
            · have htB : t = Bk.length := by omega
              have hnt2 : ¬ (t : Int) < (Bk.length : Int) := by omega
              have ho := OP.out
              rw [htB, List.take_length] at ho
              unfold Dg.OwnI at ho
              obtain ⟨pA, pc, ep, -⟩ := Dg.ReadsV.own ho
              subst ep
              have FR : Hid (Dg.FarR wq w1.heap.size ⟨pA, Rk ++ Bk, pc⟩) := Dg.FarR.ofOwn ho (by rw [List.length_append]; omega)
              have O2 := Lib.hid (OW.out.below BP.out (Nat.le_refl _))
              have B2 := Lib.hid (BB.out.trans (BP.out.mono hsz))
              have hs2 := B2.out.size
              have RN : Hid (∀ v, v < (L ++ [(⟨pA, Rk ++ Bk, pc⟩ : Dg.Row)]).length → (Dg.rA (L ++ [⟨pA, Rk ++ Bk, pc⟩]) v).zs = bv v) := rA_snoc RR.out (by show Rk ++ Bk = _; rw [HL.out, BVk.out])
              have hll : L.length ≤ 100000 := by rw [HL.out]; omega
              subst eg
              clear ho OP OW BP BB RR BVk d1 GBo htB hlt2
              generalize Rk ++ Bk = PL at *
              go_wp2_with (at_builtin; go_loud (refine Dg.wpList_row rfl (.tmp 55) (.tmp 57) rfl w1.heap.size u4 L ⟨pA, PL, pc⟩ rfl (O2.out.alloc _) wq.heap.size rfl (Dg.cell_new1 _ _ _) (FR.out.alloc _) hll (by rw [World.size_alloc]; omega) ?_); intro v' w6 ho6 hb6; have O6 := Lib.hid ho6; have B6 := Lib.hid ((B2.out.alloc hs2 _).trans hb6); clear ho6 hb6)
              go_roundw
              case rel => exact ⟨k + 1, L ++ [⟨pA, PL, pc⟩], by omega, by go_num, by rw [List.length_append, List.length_singleton, HL.out], O6, RN, B6⟩
              case measure => simp [intOf]; omega
    · have hkN : k = N := by omega
      obtain ⟨A, c, ev, G⟩ := rows_graph OW.out RR.out (by rw [HL.out]; omega)
      rw [HL.out, hkN] at ev G
      have G := Lib.hid G
      have BF := Lib.hid (K1.out.trans (BB.out.mono K1.out.size))
      subst ev
      clear OW RR BB GG GB
      go_wp2
      go_ret
      exact ⟨A, c, _, _, rfl, G.out, BF.out⟩
end Go.Proofs.YtlbcdnobpnllkaaGreat
