/- The reference's incidence matrix: its walk. -/
import Derived.Test.YtoahhnahjpcpoaaCA
namespace Go.Proofs.Ytoahhnahjpcpoaa
open Go.RowKit

set_option maxHeartbeats 16000000 in
set_option maxRecDepth 1000000 in
theorem rincidenceN_any (n : NetV) (w : World) (hr : NetR w n) :
    Calls Try.prog 17 #[.agg #[.string n.nm, .slice n.PA n.ps.length n.pc, .slice n.TA n.ts.length n.tc]] w (RIncPost w.heap.size w n) := by
  have CV := fun W (hW : Below w.heap.size w W) => rvalidN_any n W (hr.below hW (Nat.le_refl _))
  have RT := Lib.hid hr.rt
  have ZT := Lib.hid hr.okt.2
  have lp := hr.okp.1
  have lt := hr.okt.1
  have HAE : okN n = true → ∀ j, j < n.ts.length → arcsE n.ps.length (tA n.ts j).pre.l = 0 ∧ arcsE n.ps.length (tA n.ts j).post.l = 0 := fun h j hj => by
    obtain ⟨_, _, _, _, _, h6⟩ := okN_parts h
    obtain ⟨_, _, _, _, _, a1, a2, _⟩ := transE_parts (h6 j hj)
    exact ⟨a1, a2⟩
  have HP0 : okN n = true → 0 < n.ps.length := fun h => (okN_parts h).2.1
  unfold RIncPost
  obtain ⟨nm, PA, ps, pc, TA, ts, tc⟩ := n
  clear hr
  dsimp only at *
  generalize hnp : ps.length = np at *
  generalize hnt : ts.length = nt at *
  have HNT := Lib.hid hnt
  clear hnp hnt
  have B0 : Hid (Below w.heap.size w (w.alloc (.cells #[.string nm, .slice PA np pc, .slice TA nt tc] 25))) := (Below.refl _ _).alloc (Nat.le_refl _) _
  cases hok : okN ⟨nm, PA, ps, pc, TA, ts, tc⟩
  · rw [hok] at CV
    replace CV := Lib.hid CV
    clear HAE HP0 hok
    suffices h : Calls Try.prog 17 #[.agg #[.string nm, .slice PA np pc, .slice TA nt tc]] w (fun e w' => e = .returned (.slice none 0 0) ∧ Below w.heap.size w w') from h.mono (fun e w' h => ⟨h.2, fun c => absurd c.1 (by simp), fun _ => h.1⟩)
    go_enter Try.func17, Try.ntmps17
    go_wp2_with fail
    refine (CV.out _ B0.out).mono ?_
    rintro e w1 ⟨rfl, K⟩
    have K1 := Lib.hid (B0.out.trans (K.mono B0.out.size))
    clear K
    go_wp2
    go_ret
    exact ⟨rfl, K1.out⟩
  rw [hok] at CV
  replace CV := Lib.hid CV
  replace HAE := Lib.hid (HAE hok)
  replace HP0 := Lib.hid (HP0 hok)
  clear hok
  by_cases hT : 0 < nt
  case neg =>
    obtain rfl : nt = 0 := by omega
    suffices h : Calls Try.prog 17 #[.agg #[.string nm, .slice PA np pc, .slice TA 0 tc]] w (fun e w' => e = .returned (.slice none 0 0) ∧ Below w.heap.size w w') from h.mono (fun e w' h => ⟨h.2, fun c => absurd c.2 (by omega), fun _ => h.1⟩)
    go_enter Try.func17, Try.ntmps17
    go_wp2_with fail
    refine (CV.out _ B0.out).mono ?_
    rintro e w1 ⟨rfl, K⟩
    have c1w1 : w1.cell? ⟨w.heap.size, 1, none⟩ = some (.slice PA np pc) := by rw [K.cell (by simp)]; simp
    have c2w1 : w1.cell? ⟨w.heap.size, 2, none⟩ = some (.slice TA 0 tc) := by rw [K.cell (by simp)]; simp
    have K1 := Lib.hid (B0.out.trans (K.mono B0.out.size))
    clear K
    go_wp2
    go_ret
    exact ⟨rfl, K1.out⟩
  have hx0 : ((nt : Int) == 0) = false := by simp; omega
  suffices h : Calls Try.prog 17 #[.agg #[.string nm, .slice PA np pc, .slice TA nt tc]] w (fun e w' => ∃ A c, e = .returned (.slice A np c) ∧ MatR w' A np nt (incD ts) ∧ Below w.heap.size w w') from h.mono (fun e w' ⟨A, c, h1, h2, h3⟩ => ⟨h3, fun _ => ⟨A, c, h1, h2⟩, fun h => absurd ⟨rfl, hT⟩ h⟩)
  obtain ⟨i0, hi, hz0, hz1, hz2⟩ := info_parts infoL
  have HI := Lib.hid hi
  have HZ0 := Lib.hid hz0
  have HZ1 := Lib.hid hz1
  have HZ2 := Lib.hid hz2
  obtain ⟨j0, ji, jz0, jz1, jz2⟩ := info_parts infoSl
  have JI := Lib.hid ji
  have JZ0 := Lib.hid jz0
  have JZ1 := Lib.hid jz1
  have JZ2 := Lib.hid jz2
  clear hi hz0 hz1 hz2 ji jz0 jz1 jz2
  go_enter Try.func17, Try.ntmps17
  go_wp2_with fail
  refine (CV.out _ B0.out).mono ?_
  rintro e w1 ⟨rfl, K⟩
  have c1w1 : w1.cell? ⟨w.heap.size, 1, none⟩ = some (.slice PA np pc) := by rw [K.cell (by simp)]; simp
  have c2w1 : w1.cell? ⟨w.heap.size, 2, none⟩ = some (.slice TA nt tc) := by rw [K.cell (by simp)]; simp
  have K1 := Lib.hid (B0.out.trans (K.mono B0.out.size))
  have HK : Hid (Below (w.heap.size + 1) (w.alloc (.cells #[.string nm, .slice PA np pc, .slice TA nt tc] 25)) w1) := K.mono (by simp)
  clear K
  go_wp2
  go_loopw [3, 4] (fun v q wr => ∃ (k : Nat) (vs : List Value), k ≤ np ∧ q = .int .i64 k ∧ Hid (Below (w.heap.size + 1) (w.alloc (.cells #[.string nm, .slice PA np pc, .slice TA nt tc] 25)) wr) ∧ Hid (wr.ownsRow (w.heap.size + 1) 48 1 v k vs) ∧ Hid (RowsOk wr vs k nt (incD ts))) (fun _ q _ => np - (intOf q).toNat)
  case atStart => exact ⟨0, [], by omega, rfl, HK, World.ownsRow_nil _ _ _ _, rfl, fun p hp => absurd hp (by omega)⟩
  case round =>
    clear K1 HK
    obtain ⟨k, vs, hk, rfl, HB, O, RK⟩ := hrel
    have BWr : Hid (Below w.heap.size w wr) := B0.out.trans (HB.out.mono (by simp))
    have HG0 : Hid (w.heap.size < wr.heap.size) := by have := HB.out.size; simp at this; exact this
    have c1wr : wr.cell? ⟨w.heap.size, 1, none⟩ = some (.slice PA np pc) := by rw [HB.out.cell (by simp)]; simp
    have c2wr : wr.cell? ⟨w.heap.size, 2, none⟩ = some (.slice TA nt tc) := by rw [HB.out.cell (by simp)]; simp
    clear c1w1 c2w1
    by_cases hlt : k < np
    · obtain ⟨wo, rfl⟩ : ∃ wo, wo = wr := ⟨_, rfl⟩
      obtain ⟨s, hs⟩ : ∃ s, s = wo.heap.size := ⟨_, rfl⟩
      have HS2 := Lib.hid hs
      have HS : Hid (s ≤ wo.heap.size) := by show _ ≤ _; rw [hs]; exact Nat.le_refl _
      clear hs
      go_wp2
      go_loopw [5, 6] (fun v2 q2 wi => ∃ t : Nat, t ≤ nt ∧ q2 = .int .i64 t ∧ Hid (Below s wo wi) ∧ Hid (wi.ownsRow s 2 1 v2 t (vI (tab t (incD ts k))))) (fun _ q2 _ => nt - (intOf q2).toNat)
      case atStart => exact ⟨0, by omega, rfl, Below.refl _ _, World.ownsRow_nil _ _ _ _⟩
      case round =>
        obtain ⟨wi, rfl⟩ : ∃ wi, wi = wr := ⟨_, rfl⟩
        obtain ⟨t, ht, rfl, BI, OI⟩ := hrel
        have c2wi : wi.cell? ⟨w.heap.size, 2, none⟩ = some (.slice TA nt tc) := (BI.out.cell (by rw [HS2.out]; exact HG0.out)).trans c2wr
        have BWi : Hid (Below w.heap.size w wi) := BWr.out.trans (BI.out.mono (by rw [HS2.out]; exact BWr.out.size))
        by_cases hlt2 : t < nt
        · obtain ⟨b0, off, rfl, hb0', d0', d1', d2', d3', d4', a1, a2, a3⟩ := RT.out t (by rw [HNT.out]; exact hlt2)
          have hb0 : b0 < wo.heap.size := Nat.lt_of_lt_of_le hb0' BWr.out.size
          have d1 := (BWr.out.cell (p := ⟨b0, off + t * 5 + 1, none⟩) hb0').trans d1'
          have d2 := (BWr.out.cell (p := ⟨b0, off + t * 5 + 2, none⟩) hb0').trans d2'
          have e1 := (BWi.out.cell (p := ⟨b0, off + t * 5 + 1, none⟩) hb0').trans d1'
          have e2 := (BWi.out.cell (p := ⟨b0, off + t * 5 + 2, none⟩) hb0').trans d2'
          have z := ZT.out t
          have CW1 := Lib.hid (fun W (hW : Below w.heap.size w W) => rweight_any (tA ts t).pre.A (tA ts t).pre.l (tA ts t).pre.c k W (a1.below hW (Nat.le_refl _)) (Nat.le_trans z.2.1 (by unfold maxLen; omega)))
          have CW2 := Lib.hid (fun W (hW : Below w.heap.size w W) => rweight_any (tA ts t).post.A (tA ts t).post.l (tA ts t).post.c k W (a2.below hW (Nat.le_refl _)) (Nat.le_trans z.2.2.1 (by unfold maxLen; omega)))
          obtain ⟨x1, x2⟩ := weight_bd (p := k) (HAE.out t hlt2).1
          obtain ⟨x3, x4⟩ := weight_bd (p := k) (HAE.out t hlt2).2
          have HX : Hid (tab (t + 1) (incD ts k) = tab t (incD ts k) ++ [weightV (tA ts t).post.l k - weightV (tA ts t).pre.l k]) := tab_snoc t (incD ts k)
          have hw : IntKind.i64.wrap (weightV (tA ts t).post.l k - weightV (tA ts t).pre.l k) = weightV (tA ts t).post.l k - weightV (tA ts t).pre.l k := (IntKind.wrap_i64 _).trans (by omega)
          clear a1 a2 a3 z d0' d1' d2' d3' d4'
          generalize (tA ts t).pre = p1 at *
          generalize (tA ts t).post = q1 at *
          generalize weightV p1.l k = u1 at *
          generalize weightV q1.l k = u2 at *
          go_wp2_with fail
          refine wp_region_held_drew (S := fun w' => w'.cell? ⟨w.heap.size, 2, none⟩ = some (.slice (some ⟨b0, off, none⟩) nt tc) ∧ w'.cell? ⟨b0, off + t * 5 + 1, none⟩ = some (.slice p1.A p1.l.length p1.c) ∧ w'.cell? ⟨b0, off + t * 5 + 2, none⟩ = some (.slice q1.A q1.l.length q1.c) ∧ Hid (Below w.heap.size w w') ∧ Hid (Below s wo w')) (by kernel_rfl) ?_ (fun hHeld => ?_)
          · exact ⟨c2wi, e1, e2, BWi.out.drew, BI.out.drew⟩
          refine wpAnyH_take (oi := ⟨_, _, _, _, _, _⟩) (i := 0) (v := ?_) rfl (by kernel_rfl) (by kernel_rfl) (by kernel_rfl) (fun _ _ _ h => h) (Or.inl ⟨by rfl, ?ya0⟩) (by assumption) ?ra0
          case ya0 => (intro w hSw; (try dsimp only at hSw); go_simp; (try with_reducible rfl))
          try simp only [Act.put, List.setIfInBounds_toArray, List.set_cons_zero, List.set_cons_succ]
          refine wpAnyH_take (oi := ⟨_, _, _, _, _, _⟩) (i := 1) (v := ?_) rfl (by kernel_rfl) (by kernel_rfl) (by kernel_rfl) (fun _ _ _ h => h) (Or.inl ⟨by rfl, ?ya1⟩) (by assumption) ?ra1
          case ya1 => (intro w hSw; (try dsimp only at hSw); go_simp; (try with_reducible rfl))
          try simp only [Act.put, List.setIfInBounds_toArray, List.set_cons_zero, List.set_cons_succ]
          refine wpAnyH_take (oi := ⟨_, _, _, _, _, _⟩) (i := 2) (v := ?_) rfl (by kernel_rfl) (by kernel_rfl) (by kernel_rfl) (fun _ _ _ h => h) (Or.inl ⟨by rfl, ?ya2⟩) (by assumption) ?ra2
          case ya2 => (intro w hSw; (try dsimp only at hSw); go_simp; (try with_reducible rfl))
          try simp only [Act.put, List.setIfInBounds_toArray, List.set_cons_zero, List.set_cons_succ]
          refine wpAnyH_take (oi := ⟨_, _, _, _, _, _⟩) (i := 3) (v := ?_) rfl (by kernel_rfl) (by kernel_rfl) (by kernel_rfl) (fun _ _ _ h => h) (Or.inl ⟨by rfl, ?ya3⟩) (by assumption) ?ra3
          case ya3 => (intro w hSw; (try dsimp only at hSw); go_simp; (try with_reducible rfl))
          try simp only [Act.put, List.setIfInBounds_toArray, List.set_cons_zero, List.set_cons_succ]
          refine wpAnyH_take (oi := ⟨_, _, _, _, _, _⟩) (i := 4) (v := ?_) rfl (by kernel_rfl) (by kernel_rfl) (by kernel_rfl) (fun _ _ _ h => h) (Or.inl ⟨by rfl, ?ya4⟩) (by assumption) ?ra4
          case ya4 => (intro w hSw; (try dsimp only at hSw); go_simp; (try with_reducible rfl))
          try simp only [Act.put, List.setIfInBounds_toArray, List.set_cons_zero, List.set_cons_succ]
          refine wpAnyH_take (oi := ⟨_, _, _, _, _, _⟩) (i := 5) (v := ?_) rfl (by kernel_rfl) (by kernel_rfl) (by kernel_rfl) (fun _ _ _ h => h) (Or.inl ⟨by rfl, ?ya5⟩) (by assumption) ?ra5
          case ya5 => (intro w hSw; (try dsimp only at hSw); go_simp; (try with_reducible rfl))
          try simp only [Act.put, List.setIfInBounds_toArray, List.set_cons_zero, List.set_cons_succ]
          refine wpAnyH_take (oi := ⟨_, _, _, _, _, _⟩) (i := 6) (v := ?_) rfl (by kernel_rfl) (by kernel_rfl) (by kernel_rfl) (fun _ _ _ h => h) (Or.inl ⟨by rfl, ?ya6⟩) (by assumption) ?ra6
          case ya6 => (intro w hSw; (try dsimp only at hSw); go_simp; (try with_reducible rfl))
          try simp only [Act.put, List.setIfInBounds_toArray, List.set_cons_zero, List.set_cons_succ]
          refine wpAnyH_take (oi := ⟨_, _, _, _, _, _⟩) (i := 7) (v := ?_) rfl (by kernel_rfl) (by kernel_rfl) (by kernel_rfl) (fun _ _ _ h => h) (Or.inl ⟨by rfl, ?ya7⟩) (by assumption) ?ra7
          case ya7 => (intro w hSw; (try dsimp only at hSw); go_simp; (try with_reducible rfl))
          try simp only [Act.put, List.setIfInBounds_toArray, List.set_cons_zero, List.set_cons_succ]
          refine wpAnyH_take (oi := ⟨_, _, _, _, _, _⟩) (i := 9) (v := ?_) rfl (by kernel_rfl) (by kernel_rfl) (by kernel_rfl) (fun _ _ _ h => h) (Or.inl ⟨by rfl, ?ya9⟩) (by assumption) ?ra9
          case ya9 => (intro w hSw; (try dsimp only at hSw); go_simp; (try with_reducible rfl))
          try simp only [Act.put, List.setIfInBounds_toArray, List.set_cons_zero, List.set_cons_succ]
          refine wpAnyH_take (oi := ⟨_, _, _, _, _, _⟩) (i := 10) (v := ?_) rfl (by kernel_rfl) (by kernel_rfl) (by kernel_rfl) (fun _ _ _ h => h) (Or.inl ⟨by rfl, ?ya10⟩) (by assumption) ?ra10
          case ya10 => (intro w hSw; (try dsimp only at hSw); go_simp; (try with_reducible rfl))
          try simp only [Act.put, List.setIfInBounds_toArray, List.set_cons_zero, List.set_cons_succ]
          refine wpAnyH_take (oi := ⟨_, _, _, _, _, _⟩) (i := 11) (v := ?_) rfl (by kernel_rfl) (by kernel_rfl) (by kernel_rfl) (fun _ _ _ h => h) (Or.inl ⟨by rfl, ?ya11⟩) (by assumption) ?ra11
          case ya11 => (intro w hSw; (try dsimp only at hSw); go_simp; (try with_reducible rfl))
          try simp only [Act.put, List.setIfInBounds_toArray, List.set_cons_zero, List.set_cons_succ]
          refine wpAnyH_take (oi := ⟨_, _, _, _, _, _⟩) (i := 12) (v := ?_) rfl (by kernel_rfl) (by kernel_rfl) (by kernel_rfl) (fun _ _ _ h => h) (Or.inl ⟨by rfl, ?ya12⟩) (by assumption) ?ra12
          case ya12 => (intro w hSw; (try dsimp only at hSw); go_simp; (try with_reducible rfl))
          try simp only [Act.put, List.setIfInBounds_toArray, List.set_cons_zero, List.set_cons_succ]
          refine wpAnyH_take (oi := ⟨_, _, _, _, _, _⟩) (i := 13) (v := ?_) rfl (by kernel_rfl) (by kernel_rfl) (by kernel_rfl) (fun _ _ _ h => h) (Or.inl ⟨by rfl, ?ya13⟩) (by assumption) ?ra13
          case ya13 => (intro w hSw; (try dsimp only at hSw); go_simp; (try with_reducible rfl))
          try simp only [Act.put, List.setIfInBounds_toArray, List.set_cons_zero, List.set_cons_succ]
          refine wpAnyH_take (oi := ⟨_, _, _, _, _, _⟩) (i := 14) (v := ?_) rfl (by kernel_rfl) (by kernel_rfl) (by kernel_rfl) (fun _ _ _ h => h) (Or.inl ⟨by rfl, ?ya14⟩) (by assumption) ?ra14
          case ya14 => (intro w hSw; (try dsimp only at hSw); go_simp; (try with_reducible rfl))
          try simp only [Act.put, List.setIfInBounds_toArray, List.set_cons_zero, List.set_cons_succ]
          refine wpAnyH_take (oi := ⟨_, _, _, _, _, _⟩) (i := 15) (v := ?_) rfl (by kernel_rfl) (by kernel_rfl) (by kernel_rfl) (fun _ _ _ h => h) (Or.inl ⟨by rfl, ?ya15⟩) (by assumption) ?ra15
          case ya15 => (intro w hSw; (try dsimp only at hSw); go_simp; (try with_reducible rfl))
          try simp only [Act.put, List.setIfInBounds_toArray, List.set_cons_zero, List.set_cons_succ]
          refine wpAnyH_ready (rs := [8]) (by kernel_rfl) (by simp) ?_
          refine AllReadyH.cons (o := ⟨_, _, _, _, _, _⟩) rfl (fun K hK => ?_) AllReadyH.nil
          go_simp
          go_at_call 54; refine (CW2.out _ hHeld.2.2.2.1.out).mono ?_; rintro e w4 ⟨rfl, L4⟩; (try go_wp2_with fail)
          refine hK.out _ _ ?_ (fun hHeld2 => ?_)
          · obtain ⟨h1, h2, h3, h4, h5⟩ := hHeld; exact ⟨keepc h1 L4, keepc h2 L4, keepc h3 L4, h4.out.trans (L4.mono h4.out.size), h5.out.trans (L4.mono (Nat.le_trans HS.out h5.out.size))⟩
          clear hK K hHeld
          have hHeld := hHeld2
          clear hHeld2
          try simp only [Act.put, List.setIfInBounds_toArray, List.set_cons_zero, List.set_cons_succ]
          refine wpAnyH_ready (rs := [16]) (by kernel_rfl) (by simp) ?_
          refine AllReadyH.cons (o := ⟨_, _, _, _, _, _⟩) rfl (fun K hK => ?_) AllReadyH.nil
          go_simp
          go_at_call 54; refine (CW1.out _ hHeld.2.2.2.1.out).mono ?_; rintro e w5 ⟨rfl, L5⟩; (try go_wp2_with fail)
          refine hK.out _ _ ?_ (fun hHeld2 => ?_)
          · obtain ⟨h1, h2, h3, h4, h5⟩ := hHeld; exact ⟨keepc h1 L5, keepc h2 L5, keepc h3 L5, h4.out.trans (L5.mono h4.out.size), h5.out.trans (L5.mono (Nat.le_trans HS.out h5.out.size))⟩
          clear hK K hHeld
          have hHeld := hHeld2
          clear hHeld2
          try simp only [Act.put, List.setIfInBounds_toArray, List.set_cons_zero, List.set_cons_succ]
          refine wpAnyH_take (oi := ⟨_, _, _, _, _, _⟩) (i := 17) (v := ?_) rfl (by kernel_rfl) (by kernel_rfl) (by kernel_rfl) (fun _ _ _ h => h) (Or.inl ⟨by rfl, ?ya17⟩) (by assumption) ?ra17
          case ya17 => (intro w hSw; (try dsimp only at hSw); go_simp; (try with_reducible rfl))
          try simp only [Act.put, List.setIfInBounds_toArray, List.set_cons_zero, List.set_cons_succ]
          try rw [hw]
          have O5 := own_below (own_below (w := wi.drew) OI.out L4 (Nat.le_refl _)) L5 (Nat.le_refl _)
          refine wpAnyH_ready (rs := [18]) (by kernel_rfl) (by simp) ?_
          refine AllReadyH.cons (o := ⟨_, _, _, _, _, _⟩) rfl (fun K hK => ?_) AllReadyH.nil
          rw [if_pos (by rfl)]
          try rw [hw]
          have B1 := hHeld.2.2.2.1.out
          have B2 := hHeld.2.2.2.2.out
          have hs5 : s ≤ w5.heap.size := Nat.le_trans HS.out B2.size
          have LA : Below w5.heap.size w5 (w5.alloc (.cells #[.int .i64 (u2 - u1)] 2)) := (Below.refl _ _).alloc (Nat.le_refl _) _
          go_simp
          refine hK.out _ _ ?_ (fun hHeld2 => ?_)
          · obtain ⟨h1, h2, h3, h4, h5⟩ := hHeld; exact ⟨keepc h1 LA, keepc h2 LA, keepc h3 LA, h4.out.trans (LA.mono h4.out.size), h5.out.trans (LA.mono (Nat.le_trans HS.out h5.out.size))⟩
          clear hK K hHeld
          have hHeld := hHeld2
          clear hHeld2
          try simp only [Act.put, List.setIfInBounds_toArray, List.set_cons_zero, List.set_cons_succ]
          refine wpAnyH_ready (rs := [19]) (by kernel_rfl) (by simp) ?_
          refine AllReadyH.cons (o := ⟨_, _, _, _, _, _⟩) rfl (fun K hK => ?_) AllReadyH.nil
          rw [if_pos (by rfl)]
          have b1 : t + 1 ≤ maxLen := by unfold maxLen; omega
          have b2 : (t + 1) * 8 ≤ 140737488355328 := by omega
          have b3 : s ≤ (w5.alloc (.cells #[.int .i64 (u2 - u1)] 2)).heap.size := by simp only [World.size_alloc]; omega
          refine oper_append_own_at _ (.tmp 31) (.tmp 49) 48 rfl s 2 i0 (.int .i64 0) 1 8 Try.underlying48 HI.out HZ0.out HZ1.out HZ2.out rfl (by decide) u5 t _ rfl (O5.alloc _) ⟨w5.heap.size, 0, none⟩ 1 1 [.int .i64 (u2 - u1)] rfl rfl (cell_one_new _ _ _) (one_cellI _) b1 b2 b3 ?_
          intro v' w6 hown hgrow
          have b4 : ∀ q, u5.ownBlock = some q → s ≤ q := fun q e => (O5.lt q e).1
          have hsw : s ≤ s := Nat.le_refl _
          have BA : Below s wo (w5.alloc (.cells #[.int .i64 (u2 - u1)] 2)) := hHeld.2.2.2.2.out
          have BG : Below s wo w6 := BA.grown hgrow b3 b4
          refine hK.out _ _ ?_ (fun hHeld2 => ?_)
          · exact ⟨(BG.cell (by rw [HS2.out]; exact HG0.out)).trans c2wr, (BG.cell (by rw [HS2.out]; exact hb0)).trans d1, (BG.cell (by rw [HS2.out]; exact hb0)).trans d2, BWr.out.trans (BG.mono (by rw [HS2.out]; exact BWr.out.size)), BG⟩
          clear hK K hHeld
          try simp only [Act.put, List.setIfInBounds_toArray, List.set_cons_zero, List.set_cons_succ]
          refine wpAnyH_take (oi := ⟨_, _, _, _, _, _⟩) (i := 20) (v := ?_) rfl (by kernel_rfl) (by kernel_rfl) (by kernel_rfl) (fun _ _ _ h => h) (Or.inl ⟨by rfl, ?yb20⟩) (by assumption) ?rb20
          case yb20 => (intro w hSw; (try dsimp only at hSw); go_simp; (try with_reducible rfl))
          try simp only [Act.put, List.setIfInBounds_toArray, List.set_cons_zero, List.set_cons_succ]
          refine wpAnyH_done (by kernel_rfl) ?_ _
          have O6 : Hid (w6.ownsRow s 2 1 v' (t + 1) (vI (tab (t + 1) (incD ts k)))) := by
            show World.ownsRow _ _ _ _ _ _ _
            rw [HX.out, vI_snoc]
            exact hown
          have B6 := Lib.hid BG
          clear hown hgrow BG BA O5 L4 L5 hHeld2 b1 b2 b3 b4 d1 d2 e1 e2 c2wi
          go_wp2
          go_roundw
          case rel => exact ⟨t + 1, by omega, by go_num, B6, O6⟩
          case measure => simp [intOf]; omega
        · obtain rfl : nt = t := by omega
          obtain ⟨b, c, rfl⟩ := own_some OI.out hT
          have hsz : w.heap.size + 1 ≤ wi.heap.size := by have := BI.out.size; have := HG0.out; omega
          have b1 : k + 1 ≤ maxLen := by unfold maxLen; omega
          have b2 : (k + 1) * 24 ≤ 140737488355328 := by omega
          have b3 : w.heap.size + 1 ≤ (wi.alloc (.cells #[.slice (some ⟨b, 0, none⟩) nt c] 48)).heap.size := by simp only [World.size_alloc]; omega
          have OO := own_below (own_below O.out BI.out (by rw [HS2.out]; exact Nat.le_refl _)) ((Below.refl wi.heap.size wi).alloc (Nat.le_refl _) (.cells #[.slice (some ⟨b, 0, none⟩) nt c] 48)) (Nat.le_refl _)
          have OR := (OI.out.alloc (.cells #[.slice (some ⟨b, 0, none⟩) nt c] 48))
          have RK2 := (RK.out.below BI.out (by rw [HS2.out]; exact Nat.le_refl _)).below ((Below.refl wi.heap.size wi).alloc (Nat.le_refl _) (.cells #[.slice (some ⟨b, 0, none⟩) nt c] 48)) (Nat.le_refl _)
          have RK3 := Lib.hid (RK2.snoc (own_zero OR))
          have b4 : Hid (∀ q, u3.ownBlock = some q → w.heap.size + 1 ≤ q) := fun q e => (OO.lt q e).1
          have BA : Hid (Below (w.heap.size + 1) (w.alloc (.cells #[.string nm, .slice PA np pc, .slice TA nt tc] 25)) (wi.alloc (.cells #[.slice (some ⟨b, 0, none⟩) nt c] 48))) := (HB.out.trans (BI.out.mono (by rw [HS2.out]; exact HG0.out))).alloc hsz _
          have OO := Lib.hid OO
          clear RK2 OR
          go_wp2_with (at_builtin; (refine wpList_append_own _ rfl (.tmp 51) (.tmp 53) 34 rfl (w.heap.size + 1) 48 j0 (.slice none 0 0) 1 24 Try.underlying34 JI.out JZ0.out JZ1.out JZ2.out rfl (by decide) u3 k _ rfl OO.out ⟨wi.heap.size, 0, none⟩ 1 1 [.slice (some ⟨b, 0, none⟩) nt c] rfl rfl (cell_one_new _ _ _) (one_cellS _ _ _ _ rfl) b1 b2 b3 ?_); intro v' w7 hown hgrow _)
          have B7 := Lib.hid (BA.out.grown hgrow b3 b4.out)
          have RK4 := Lib.hid (RK3.out.grown OO.out hgrow)
          have O7 := Lib.hid hown
          clear hown hgrow RK3 OO
          go_wp2
          go_roundw
          case rel => exact ⟨k + 1, _, by omega, by go_num, B7, O7, RK4⟩
          case measure => simp [intOf]; omega
    · obtain rfl : k = np := by omega
      obtain ⟨A, c, rfl, hm⟩ := RK.out.mat HP0.out O.out
      have HM := Lib.hid hm
      clear hm
      go_wp2
      go_ret
      exact ⟨A, c, rfl, HM.out, BWr.out⟩
end Go.Proofs.Ytoahhnahjpcpoaa
