/- The reference checks a transition. -/
import Derived.Test.YtlbcdnobpnllkaaGreatJ
import Derived.LoopN
namespace Go.Proofs.YtlbcdnobpnllkaaGreat
open Go.RowKit

set_option maxHeartbeats 8000000 in
set_option maxRecDepth 100000 in
theorem rtrans_any (nm : ByteArray) (PA TA : Option Addr) (ps : List PlaceV) (ts : List TransV) (pc tc i : Nat) (w : World) (hrp : ReadsP w PA ps) (hr : ReadsT w TA ts) (hokp : OkP ps) (hok : OkT ts) (hi : i < ts.length) :
    Calls Tryz.prog 116 #[.agg #[.string nm, .slice PA ps.length pc, .slice TA ts.length tc], .int .i64 i] w fun e w' => e = .returned (.int .i64 (transE ps.length ps ts i)) ∧ Below w.heap.size w w' := by
  obtain ⟨hl, hz⟩ := hok
  obtain ⟨hlp, hzp⟩ := hokp
  have hE : transE ps.length ps ts i = if nameB (bytesI (tA ts i).nm) = false then 5 else if 0 ≤ placeI ps ps.length (tA ts i).nm ∨ 0 ≤ transI ts i (tA ts i).nm then 6
    else if (tA ts i).prio < 0 ∨ 9 < (tA ts i).prio then 1 else orE (arcsE ps.length (tA ts i).pre.l) (orE (arcsE ps.length (tA ts i).post.l) (arcsE ps.length (tA ts i).inh.l)) := rfl
  obtain ⟨b0, off, rfl, hb0, hc0, hc1, hc2, hc3, hc4, r1, r2, r3⟩ := hr i hi
  obtain ⟨hz0, hz1, hz2, hz3⟩ := hz i
  have CN := fun W => rname_any (tA ts i).nm W hz0
  have HPI : Hid (∀ k, k < ps.length → (∀ j, j < k → eqS (pA ps j).nm (tA ts i).nm = false) → eqS (pA ps k).nm (tA ts i).nm = true → 0 ≤ placeI ps ps.length (tA ts i).nm) := fun k h1 h2 h3 => by
    have := firstI_at (f := fun j => eqS (pA ps j).nm (tA ts i).nm) h1 h2 h3
    unfold placeI
    omega
  have HPN : Hid ((∀ j, j < ps.length → eqS (pA ps j).nm (tA ts i).nm = false) → ¬ 0 ≤ placeI ps ps.length (tA ts i).nm) := fun h => by
    have := firstI_none (f := fun j => eqS (pA ps j).nm (tA ts i).nm) h
    unfold placeI
    omega
  have HTI : Hid (∀ k, k < i → (∀ j, j < k → eqS (tA ts j).nm (tA ts i).nm = false) → eqS (tA ts k).nm (tA ts i).nm = true → 0 ≤ transI ts i (tA ts i).nm) := fun k h1 h2 h3 => by
    have := firstI_at (f := fun j => eqS (tA ts j).nm (tA ts i).nm) h1 h2 h3
    unfold transI
    omega
  have HTN : Hid ((∀ j, j < i → eqS (tA ts j).nm (tA ts i).nm = false) → ¬ 0 ≤ transI ts i (tA ts i).nm) := fun h => by
    have := firstI_none (f := fun j => eqS (tA ts j).nm (tA ts i).nm) h
    unfold transI
    omega
  have CA1 := fun W (hW : Below w.heap.size w W) => rarcs_any nm PA (some ⟨b0, off, none⟩) (tA ts i).pre.A (tA ts i).pre.l ps.length pc ts.length tc (tA ts i).pre.c W (r1.below hW (Nat.le_refl _)) (by unfold maxLen; omega)
  have CA2 := fun W (hW : Below w.heap.size w W) => rarcs_any nm PA (some ⟨b0, off, none⟩) (tA ts i).post.A (tA ts i).post.l ps.length pc ts.length tc (tA ts i).post.c W (r2.below hW (Nat.le_refl _)) (by unfold maxLen; omega)
  have CA3 := fun W (hW : Below w.heap.size w W) => rarcs_any nm PA (some ⟨b0, off, none⟩) (tA ts i).inh.A (tA ts i).inh.l ps.length pc ts.length tc (tA ts i).inh.c W (r3.below hW (Nat.le_refl _)) (by unfold maxLen; omega)
  clear r1 r2 r3
  generalize transE ps.length ps ts i = S at *
  generalize placeI ps ps.length (tA ts i).nm = F at *
  generalize transI ts i (tA ts i).nm = G at *
  generalize nameB (bytesI (tA ts i).nm) = nb at *
  generalize arcsE ps.length (tA ts i).pre.l = e1 at *
  generalize arcsE ps.length (tA ts i).post.l = e2 at *
  generalize arcsE ps.length (tA ts i).inh.l = e3 at *
  generalize (tA ts i).nm = tn at *
  generalize (tA ts i).prio = prio at *
  generalize (tA ts i).pre.l.length = n1 at *
  generalize (tA ts i).post.l.length = n2 at *
  generalize (tA ts i).inh.l.length = n3 at *
  generalize (tA ts i).pre.A = A1 at *
  generalize (tA ts i).post.A = A2 at *
  generalize (tA ts i).inh.A = A3 at *
  generalize (tA ts i).pre.c = q1 at *
  generalize (tA ts i).post.c = q2 at *
  generalize (tA ts i).inh.c = q3 at *
  have HRP := Lib.hid hrp
  have HR := Lib.hid hr
  clear hz hzp hrp hr
  generalize hn : ts.length = n at *
  have HN := Lib.hid hn
  clear hn
  generalize hm : ps.length = m at *
  have HM0 := Lib.hid hm
  clear hm
  generalize hg : w.heap.size = g at *
  have HG := Lib.hid hg
  clear hg
  have hbw : b0 < w.heap.size := by rw [HG.out]; exact hb0
  have B0 : Hid (Below g w ((w.alloc (.cells #[.string nm, .slice PA m pc, .slice (some ⟨b0, off, none⟩) n tc] 25)).alloc (.cells #[.string tn, .slice A1 n1 q1, .slice A2 n2 q2, .slice A3 n3 q3, .int .i64 prio] 43))) := ((Below.refl _ _).alloc (by rw [HG.out]; exact Nat.le_refl _) _).alloc (by simp [HG.out]) _
  replace CN := Lib.hid CN
  replace CA1 := Lib.hid CA1
  replace CA2 := Lib.hid CA2
  replace CA3 := Lib.hid CA3
  cases nb
  · have E : Hid (5 = S) := by show _ = _; rw [hE]; rfl
    clear hE
    go_enter Tryz.func116, Tryz.ntmps116
    go_wp2_with fail
    refine (CN.out _).mono ?_
    rintro e w1 ⟨rfl, rfl⟩
    go_wp2
    go_ret
    exact ⟨ret_i E.out, B0.out⟩
  · have hE2 : S = if 0 ≤ F ∨ 0 ≤ G then 6 else if prio < 0 ∨ 9 < prio then 1 else orE e1 (orE e2 e3) := hE
    clear hE
    have E6 : Hid (0 ≤ F ∨ 0 ≤ G → 6 = S) := fun h => by rw [hE2, if_pos h]
    have E1 : Hid (¬ (0 ≤ F ∨ 0 ≤ G) → (prio < 0 ∨ 9 < prio) → 1 = S) := fun h h2 => by rw [hE2, if_neg h, if_pos h2]
    have E0 : Hid (¬ (0 ≤ F ∨ 0 ≤ G) → ¬ (prio < 0 ∨ 9 < prio) → orE e1 (orE e2 e3) = S) := fun h h2 => by rw [hE2, if_neg h, if_neg h2]
    clear hE2
    go_enter Tryz.func116, Tryz.ntmps116
    go_wp2_with fail
    refine (CN.out _).mono ?_
    rintro e w1 ⟨rfl, rfl⟩
    go_wp2
    go_loopw [6] (fun q wr => ∃ k : Nat, k ≤ m ∧ q = .int .i64 k ∧ Hid (Below (g + 2) ((w.alloc (.cells #[.string nm, .slice PA m pc, .slice (some ⟨b0, off, none⟩) n tc] 25)).alloc (.cells #[.string tn, .slice A1 n1 q1, .slice A2 n2 q2, .slice A3 n3 q3, .int .i64 prio] 43)) wr) ∧ Hid (∀ j, j < k → eqS (pA ps j).nm tn = false)) (fun q _ => m - (intOf q).toNat)
    case atStart => exact ⟨0, by omega, rfl, Below.refl _ _, fun j hj => absurd hj (by omega)⟩
    case round =>
      obtain ⟨k, hk, rfl, HB0, HM⟩ := hrel
      have HB : Hid (Below g w wr) := B0.out.trans (HB0.out.mono (by omega))
      have u0 : wr.cell? ⟨w.heap.size, 0, none⟩ = some (.string nm) := by rw [HB0.out.cell (by rw [← HG.out]; simp)]; simp
      have u1 : wr.cell? ⟨w.heap.size, 1, none⟩ = some (.slice PA m pc) := by rw [HB0.out.cell (by rw [← HG.out]; simp)]; simp
      have u2 : wr.cell? ⟨w.heap.size, 2, none⟩ = some (.slice (some ⟨b0, off, none⟩) n tc) := by rw [HB0.out.cell (by rw [← HG.out]; simp)]; simp
      have t0 : wr.cell? ⟨w.heap.size + 1, 0, none⟩ = some (.string tn) := by rw [HB0.out.cell (by rw [← HG.out]; simp)]; simp
      have t1 : wr.cell? ⟨w.heap.size + 1, 1, none⟩ = some (.slice A1 n1 q1) := by rw [HB0.out.cell (by rw [← HG.out]; simp)]; simp
      have t2 : wr.cell? ⟨w.heap.size + 1, 2, none⟩ = some (.slice A2 n2 q2) := by rw [HB0.out.cell (by rw [← HG.out]; simp)]; simp
      have t3 : wr.cell? ⟨w.heap.size + 1, 3, none⟩ = some (.slice A3 n3 q3) := by rw [HB0.out.cell (by rw [← HG.out]; simp)]; simp
      have t4 : wr.cell? ⟨w.heap.size + 1, 4, none⟩ = some (.int .i64 prio) := by rw [HB0.out.cell (by rw [← HG.out]; simp)]; simp
      by_cases hlt : k < m
      · obtain ⟨b1, off1, rfl, hb1, hd0, hd1, hd2⟩ := (HRP.out.below HB.out (by rw [HG.out]; exact Nat.le_refl _)) k (by rw [HM0.out]; exact hlt)
        have HT := Lib.hid (HPI.out k hlt HM.out)
        have HF : Hid (eqS (pA ps k).nm tn = false → ∀ j, j < k + 1 → eqS (pA ps j).nm tn = false) := upto_snoc HM.out
        clear HM
        have hQ : Hid (eqS (pA ps k).nm tn = ((pA ps k).nm.toList == tn.toList)) := rfl
        generalize (pA ps k).nm = kn at *
        by_cases q : (kn.toList == tn.toList) = true
        · have E := Lib.hid (E6.out (.inl (HT.out (hQ.out.trans q))))
          clear HF HT E6 E1 E0
          go_wp2
          go_quiet (fail)
          go_wp2
          go_ret
          exact ⟨ret_i E.out, below_drewN HB.out _⟩
        · have q2 : (kn.toList == tn.toList) = false := by simpa using q
          have G := Lib.hid (HF.out (hQ.out.trans q2))
          clear HF HT E6 E1 E0 q
          go_wp2
          go_quiet (fail)
          go_wp2
          go_roundw
          case rel => exact ⟨k + 1, by omega, by go_num, below_drewN HB0.out _, G⟩
          case measure => simp [intOf]; omega
      · have hNF := Lib.hid (HPN.out (fun j hj => HM.out j (by omega)))
        clear HM HPI HPN
        obtain ⟨wo, rfl⟩ : ∃ wo, wo = wr := ⟨_, rfl⟩
        go_wp2
        clear u0 u1 u2 t0 t1 t2 t3 t4
        go_loopw [7] (fun q wr => ∃ k : Nat, k ≤ i ∧ q = .int .i64 k ∧ Hid (Below (g + 2) ((w.alloc (.cells #[.string nm, .slice PA m pc, .slice (some ⟨b0, off, none⟩) n tc] 25)).alloc (.cells #[.string tn, .slice A1 n1 q1, .slice A2 n2 q2, .slice A3 n3 q3, .int .i64 prio] 43)) wr) ∧ Hid (∀ j, j < k → eqS (tA ts j).nm tn = false)) (fun q _ => i - (intOf q).toNat)
        case atStart => exact ⟨0, by omega, rfl, HB0, fun j hj => absurd hj (by omega)⟩
        case round =>
          clear HB HB0
          obtain ⟨k2, hk2, rfl, HB0, HM⟩ := hrel
          have HB : Hid (Below g w wr) := B0.out.trans (HB0.out.mono (by omega))
          have u0 : wr.cell? ⟨w.heap.size, 0, none⟩ = some (.string nm) := by rw [HB0.out.cell (by rw [← HG.out]; simp)]; simp
          have u1 : wr.cell? ⟨w.heap.size, 1, none⟩ = some (.slice PA m pc) := by rw [HB0.out.cell (by rw [← HG.out]; simp)]; simp
          have u2 : wr.cell? ⟨w.heap.size, 2, none⟩ = some (.slice (some ⟨b0, off, none⟩) n tc) := by rw [HB0.out.cell (by rw [← HG.out]; simp)]; simp
          have t0 : wr.cell? ⟨w.heap.size + 1, 0, none⟩ = some (.string tn) := by rw [HB0.out.cell (by rw [← HG.out]; simp)]; simp
          have t1 : wr.cell? ⟨w.heap.size + 1, 1, none⟩ = some (.slice A1 n1 q1) := by rw [HB0.out.cell (by rw [← HG.out]; simp)]; simp
          have t2 : wr.cell? ⟨w.heap.size + 1, 2, none⟩ = some (.slice A2 n2 q2) := by rw [HB0.out.cell (by rw [← HG.out]; simp)]; simp
          have t3 : wr.cell? ⟨w.heap.size + 1, 3, none⟩ = some (.slice A3 n3 q3) := by rw [HB0.out.cell (by rw [← HG.out]; simp)]; simp
          have t4 : wr.cell? ⟨w.heap.size + 1, 4, none⟩ = some (.int .i64 prio) := by rw [HB0.out.cell (by rw [← HG.out]; simp)]; simp
          by_cases hlt2 : k2 < i
          · have hltn : k2 < n := by omega
            obtain ⟨b1, off1, e1, hb1, hd0, _, _, _, _, _, _, _⟩ := (HR.out.below HB.out (by rw [HG.out]; exact Nat.le_refl _)) k2 (by rw [HN.out]; exact hltn)
            cases e1
            have HT := Lib.hid (HTI.out k2 hlt2 HM.out)
            have HF : Hid (eqS (tA ts k2).nm tn = false → ∀ j, j < k2 + 1 → eqS (tA ts j).nm tn = false) := upto_snoc HM.out
            clear HM
            have hQ : Hid (eqS (tA ts k2).nm tn = ((tA ts k2).nm.toList == tn.toList)) := rfl
            generalize (tA ts k2).nm = kn at *
            by_cases q : (kn.toList == tn.toList) = true
            · have E := Lib.hid (E6.out (.inr (HT.out (hQ.out.trans q))))
              clear HF HT E6 E1 E0
              go_wp2
              go_quiet (fail)
              go_wp2
              go_ret
              exact ⟨ret_i E.out, below_drewN HB.out _⟩
            · have q2 : (kn.toList == tn.toList) = false := by simpa using q
              have G := Lib.hid (HF.out (hQ.out.trans q2))
              clear HF HT E6 E1 E0 q
              go_wp2
              go_quiet (fail)
              go_wp2
              go_roundw
              case rel => exact ⟨k2 + 1, by omega, by go_num, below_drewN HB0.out _, G⟩
              case measure => simp [intOf]; omega
          · have hNG := Lib.hid (HTN.out (fun j hj => HM.out j (by omega)))
            clear HM HTI HTN
            have hFG : ¬ (0 ≤ F ∨ 0 ≤ G) := by have a1 := hNF.out; have a2 := hNG.out; omega
            by_cases hp : prio < 0 ∨ 9 < prio
            · have E := Lib.hid (E1.out hFG hp)
              clear hFG E6 E1 E0
              go_wp2
              all_goals first
                | (go_ret; exact ⟨ret_i E.out, HB.out⟩)
                | (exfalso; omega)
            · have E := Lib.hid (E0.out hFG hp)
              have hp1 : ¬ prio < 0 := by omega
              have hp2 : ¬ 9 < prio := by omega
              clear hp hFG E6 E1 E0
              have LG : Hid (g + 2 ≤ wr.heap.size) := by have := HB0.out.size; simp [HG.out] at this; show _ ≤ _; omega
              have kf : Hid (∀ W, Below wr.heap.size wr W → Below (g + 2) ((w.alloc (.cells #[.string nm, .slice PA m pc, .slice (some ⟨b0, off, none⟩) n tc] 25)).alloc (.cells #[.string tn, .slice A1 n1 q1, .slice A2 n2 q2, .slice A3 n3 q3, .int .i64 prio] 43)) W) := fun W h => HB0.out.trans (h.mono LG.out)
              go_wp2_with fail
              refine (CA1.out _ HB.out).mono ?_
              rintro e w4 ⟨rfl, L4⟩
              have M4 := Lib.hid (kf.out _ L4)
              clear L4 u0 u1 u2 t0 t1 t2 t3 t4
              have N4 : Hid (Below g w w4) := B0.out.trans (M4.out.mono (by omega))
              by_cases z1 : e1 = 0
              · subst z1
                have u0 : w4.cell? ⟨w.heap.size, 0, none⟩ = some (.string nm) := by rw [M4.out.cell (by rw [← HG.out]; simp)]; simp
                have u1 : w4.cell? ⟨w.heap.size, 1, none⟩ = some (.slice PA m pc) := by rw [M4.out.cell (by rw [← HG.out]; simp)]; simp
                have u2 : w4.cell? ⟨w.heap.size, 2, none⟩ = some (.slice (some ⟨b0, off, none⟩) n tc) := by rw [M4.out.cell (by rw [← HG.out]; simp)]; simp
                have t0 : w4.cell? ⟨w.heap.size + 1, 0, none⟩ = some (.string tn) := by rw [M4.out.cell (by rw [← HG.out]; simp)]; simp
                have t1 : w4.cell? ⟨w.heap.size + 1, 1, none⟩ = some (.slice A1 n1 q1) := by rw [M4.out.cell (by rw [← HG.out]; simp)]; simp
                have t2 : w4.cell? ⟨w.heap.size + 1, 2, none⟩ = some (.slice A2 n2 q2) := by rw [M4.out.cell (by rw [← HG.out]; simp)]; simp
                have t3 : w4.cell? ⟨w.heap.size + 1, 3, none⟩ = some (.slice A3 n3 q3) := by rw [M4.out.cell (by rw [← HG.out]; simp)]; simp
                have t4 : w4.cell? ⟨w.heap.size + 1, 4, none⟩ = some (.int .i64 prio) := by rw [M4.out.cell (by rw [← HG.out]; simp)]; simp
                go_wp2_with fail
                refine (CA2.out _ N4.out).mono ?_
                rintro e w5 ⟨rfl, L5⟩
                have M5 : Hid (Below (g + 2) ((w.alloc (.cells #[.string nm, .slice PA m pc, .slice (some ⟨b0, off, none⟩) n tc] 25)).alloc (.cells #[.string tn, .slice A1 n1 q1, .slice A2 n2 q2, .slice A3 n3 q3, .int .i64 prio] 43)) w5) := M4.out.trans (L5.mono (by have := M4.out.size; simp [HG.out] at this; omega))
                clear L5 u0 u1 u2 t0 t1 t2 t3 t4
                have N5 : Hid (Below g w w5) := B0.out.trans (M5.out.mono (by omega))
                by_cases z2 : e2 = 0
                · subst z2
                  have u0 : w5.cell? ⟨w.heap.size, 0, none⟩ = some (.string nm) := by rw [M5.out.cell (by rw [← HG.out]; simp)]; simp
                  have u1 : w5.cell? ⟨w.heap.size, 1, none⟩ = some (.slice PA m pc) := by rw [M5.out.cell (by rw [← HG.out]; simp)]; simp
                  have u2 : w5.cell? ⟨w.heap.size, 2, none⟩ = some (.slice (some ⟨b0, off, none⟩) n tc) := by rw [M5.out.cell (by rw [← HG.out]; simp)]; simp
                  have t0 : w5.cell? ⟨w.heap.size + 1, 0, none⟩ = some (.string tn) := by rw [M5.out.cell (by rw [← HG.out]; simp)]; simp
                  have t1 : w5.cell? ⟨w.heap.size + 1, 1, none⟩ = some (.slice A1 n1 q1) := by rw [M5.out.cell (by rw [← HG.out]; simp)]; simp
                  have t2 : w5.cell? ⟨w.heap.size + 1, 2, none⟩ = some (.slice A2 n2 q2) := by rw [M5.out.cell (by rw [← HG.out]; simp)]; simp
                  have t3 : w5.cell? ⟨w.heap.size + 1, 3, none⟩ = some (.slice A3 n3 q3) := by rw [M5.out.cell (by rw [← HG.out]; simp)]; simp
                  have t4 : w5.cell? ⟨w.heap.size + 1, 4, none⟩ = some (.int .i64 prio) := by rw [M5.out.cell (by rw [← HG.out]; simp)]; simp
                  go_wp2_with fail
                  refine (CA3.out _ N5.out).mono ?_
                  rintro e w6 ⟨rfl, L6⟩
                  have N6 : Hid (Below g w w6) := N5.out.trans (L6.mono (by have := N5.out.size; rw [HG.out] at this; exact this))
                  clear L6
                  go_wp2
                  go_ret
                  exact ⟨ret_i (by rw [← E.out]; rfl), N6.out⟩
                · have z2b : (e2 != 0) = true := by simpa using z2
                  have z2c : (e2 == 0) = false := by simpa using z2
                  have E2 : Hid (e2 = S) := by show _ = _; rw [← E.out]; simp [orE, z2]
                  clear z2
                  go_wp2
                  go_ret
                  exact ⟨ret_i E2.out, N5.out⟩
              · have z1b : (e1 != 0) = true := by simpa using z1
                have z1c : (e1 == 0) = false := by simpa using z1
                have E2 : Hid (e1 = S) := by show _ = _; rw [← E.out]; simp [orE, z1]
                clear z1
                go_wp2
                go_ret
                exact ⟨ret_i E2.out, N4.out⟩
end Go.Proofs.YtlbcdnobpnllkaaGreat
