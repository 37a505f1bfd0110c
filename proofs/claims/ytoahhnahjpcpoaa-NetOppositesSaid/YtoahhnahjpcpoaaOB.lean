/- The law on opposites. -/
import Derived.Test.YtoahhnahjpcpoaaOA
namespace Go.Proofs.Ytoahhnahjpcpoaa
open Go.RowKit

set_option maxHeartbeats 32000000 in
set_option maxRecDepth 1000000 in
theorem opposites_law (n : NetV)  (w : World) (hn : NetW w n)  :
    Calls Try.prog 8 #[(.agg #[.string n.nm, .slice n.PA n.ps.length n.pc, .slice n.TA n.ts.length n.tc])] w fun e w' => e = .returned (.bool true) ∧ Below w.heap.size w w' := by
  have B0 : Hid (Below w.heap.size w (w.alloc (.cells #[.string n.nm, .slice n.PA n.ps.length n.pc, .slice n.TA n.ts.length n.tc] 25))) := (Below.refl _ _).alloc (Nat.le_refl _) _
  cases hs : smallN n
  · have SM := Lib.hid (fun W (hW : Below w.heap.size w W) => small_no n W (hn.below hW (Nat.le_refl _)) hs)
    go_enter Try.func8, Try.ntmps8
    go_wp2_with fail
    refine (lives_any _).mono ?_
    rintro e wl ⟨rfl, KL⟩
    have c0 : wl.cell? ⟨w.heap.size, 0, none⟩ = some (.string n.nm) := by rw [KL.cell (by simp)]; simp
    have c1 : wl.cell? ⟨w.heap.size, 1, none⟩ = some (.slice n.PA n.ps.length n.pc) := by rw [KL.cell (by simp)]; simp
    have c2 : wl.cell? ⟨w.heap.size, 2, none⟩ = some (.slice n.TA n.ts.length n.tc) := by rw [KL.cell (by simp)]; simp
    have BL := Lib.hid (B0.out.trans (KL.mono (by rw [World.size_alloc]; omega)))
    clear KL
    go_wp2_with fail
    refine (SM.out _ BL.out).mono ?_
    rintro e w1 ⟨rfl, K⟩
    have B1 : Below w.heap.size w w1 := BL.out.trans (K.mono BL.out.size)
    clear c0 c1 c2
    have BX := Lib.hid (B1.alloc B1.size (.cells #[.string ⟨#[]⟩, .slice none 0 0, .slice none 0 0] 25))
    clear B1 K
    go_wp2
    go_ret
    exact ⟨rfl, BX.out⟩
  · have hR := Lib.hid (small_ok hn hs)
    have SM := Lib.hid (fun W (hW : Below w.heap.size w W) => small_yes n W (hn.below hW (Nat.le_refl _)) hs)
    clear hs
    have hfd : ∀ (a b : Int) (w : World), (Instr.field 31 (.agg #[.int .i64 a, .int .i64 b]) 0).run Try.prog w = .ok (.int .i64 a) w := fun _ _ _ => by kernel_rfl
    cases hok : okN n
    · have hbad := chk_bad hok
      go_enter Try.func8, Try.ntmps8
      go_wp2_with fail
      refine (lives_any _).mono ?_
      rintro e wl ⟨rfl, KL⟩
      have c0 : wl.cell? ⟨w.heap.size, 0, none⟩ = some (.string n.nm) := by rw [KL.cell (by simp)]; simp
      have c1 : wl.cell? ⟨w.heap.size, 1, none⟩ = some (.slice n.PA n.ps.length n.pc) := by rw [KL.cell (by simp)]; simp
      have c2 : wl.cell? ⟨w.heap.size, 2, none⟩ = some (.slice n.TA n.ts.length n.tc) := by rw [KL.cell (by simp)]; simp
      have BL := Lib.hid (B0.out.trans (KL.mono (by rw [World.size_alloc]; omega)))
      clear KL
      go_wp2_with fail
      refine (SM.out _ BL.out).mono ?_
      rintro e w1 ⟨rfl, K⟩
      have B1 : Below w.heap.size w w1 := BL.out.trans (K.mono BL.out.size)
      clear c0 c1 c2
      go_wp2_with fail
      obtain ⟨w0, hw0⟩ : ∃ w0, w0 = w1.alloc (.cells #[.string n.nm, .slice n.PA n.ps.length n.pc, .slice n.TA n.ts.length n.tc] 25) := ⟨_, rfl⟩
      have BW : Hid (Below w.heap.size w w0) := by rw [hw0]; exact B1.alloc B1.size _
      have Q0 : Hid (w0.cell? ⟨w1.heap.size, 0, none⟩ = some (.string n.nm)) := by show _ = _; rw [hw0]; simp
      have Q1 : Hid (w0.cell? ⟨w1.heap.size, 1, none⟩ = some (.slice n.PA n.ps.length n.pc)) := by show _ = _; rw [hw0]; simp
      have Q2 : Hid (w0.cell? ⟨w1.heap.size, 2, none⟩ = some (.slice n.TA n.ts.length n.tc)) := by show _ = _; rw [hw0]; simp
      have CN : Hid (∀ W, Below w0.heap.size w0 W → NetR W n) := fun W hW => (hR.out.below BW.out (Nat.le_refl _)).below hW (Nat.le_refl _)
      rw [← hw0]
      clear hw0 B1 K
      generalize w1.heap.size = x at *
      refine (check_any n _ (CN.out _ (Below.refl _ _))).mono ?_
      rintro e w2 ⟨rfl, K⟩
      have B2 := Lib.hid (BW.out.trans (K.mono BW.out.size))
      clear K
      generalize (chkV n).1 = z at *
      generalize (chkV n).2 = z2 at *
      have zb : (z != 0) = true := by simpa using hbad
      have zc : (z == 0) = false := by simpa using hbad
      clear hbad
      go_wp2
      go_ret
      exact ⟨rfl, B2.out⟩
    · have hgood := chk_good hok
      have HOK := Lib.hid hok
      have hlp := hR.out.okp.1
      have hlq := hR.out.okt.1
      clear hok
      go_enter Try.func8, Try.ntmps8
      go_wp2_with fail
      refine (lives_any _).mono ?_
      rintro e wl ⟨rfl, KL⟩
      have c0 : wl.cell? ⟨w.heap.size, 0, none⟩ = some (.string n.nm) := by rw [KL.cell (by simp)]; simp
      have c1 : wl.cell? ⟨w.heap.size, 1, none⟩ = some (.slice n.PA n.ps.length n.pc) := by rw [KL.cell (by simp)]; simp
      have c2 : wl.cell? ⟨w.heap.size, 2, none⟩ = some (.slice n.TA n.ts.length n.tc) := by rw [KL.cell (by simp)]; simp
      have BL := Lib.hid (B0.out.trans (KL.mono (by rw [World.size_alloc]; omega)))
      clear KL
      go_wp2_with fail
      refine (SM.out _ BL.out).mono ?_
      rintro e w1 ⟨rfl, K⟩
      have B1 : Below w.heap.size w w1 := BL.out.trans (K.mono BL.out.size)
      clear c0 c1 c2
      go_wp2_with fail
      obtain ⟨w0, hw0⟩ : ∃ w0, w0 = w1.alloc (.cells #[.string n.nm, .slice n.PA n.ps.length n.pc, .slice n.TA n.ts.length n.tc] 25) := ⟨_, rfl⟩
      have BW : Hid (Below w.heap.size w w0) := by rw [hw0]; exact B1.alloc B1.size _
      have Q0 : Hid (w0.cell? ⟨w1.heap.size, 0, none⟩ = some (.string n.nm)) := by show _ = _; rw [hw0]; simp
      have Q1 : Hid (w0.cell? ⟨w1.heap.size, 1, none⟩ = some (.slice n.PA n.ps.length n.pc)) := by show _ = _; rw [hw0]; simp
      have Q2 : Hid (w0.cell? ⟨w1.heap.size, 2, none⟩ = some (.slice n.TA n.ts.length n.tc)) := by show _ = _; rw [hw0]; simp
      have CN : Hid (∀ W, Below w0.heap.size w0 W → NetR W n) := fun W hW => (hR.out.below BW.out (Nat.le_refl _)).below hW (Nat.le_refl _)
      rw [← hw0]
      clear hw0 B1 K
      generalize w1.heap.size = x at *
      refine (check_any n _ (CN.out _ (Below.refl _ _))).mono ?_
      rintro e w2 ⟨rfl, K⟩
      have Bw2 : Hid (Below w0.heap.size w0 w2) := K
      clear K
      generalize (chkV n).2 = z2 at *
      generalize hz : (chkV n).1 = z at *
      subst hgood
      clear hz
      have q0w2 : w2.cell? ⟨x, 0, none⟩ = some (.string n.nm) := keepc Q0.out Bw2.out
      have q1w2 : w2.cell? ⟨x, 1, none⟩ = some (.slice n.PA n.ps.length n.pc) := keepc Q1.out Bw2.out
      have q2w2 : w2.cell? ⟨x, 2, none⟩ = some (.slice n.TA n.ts.length n.tc) := keepc Q2.out Bw2.out
      go_wp2_with fail
      refine (incidenceN_any n _ (CN.out _ Bw2.out)).mono ?_
      rintro e w3 ⟨K, hy, hno⟩
      have Bw3 := Lib.hid (Bw2.out.trans (K.mono Bw2.out.size))
      clear K q0w2 q1w2 q2w2
      have q0w3 : w3.cell? ⟨x, 0, none⟩ = some (.string n.nm) := keepc Q0.out Bw3.out
      have q1w3 : w3.cell? ⟨x, 1, none⟩ = some (.slice n.PA n.ps.length n.pc) := keepc Q1.out Bw3.out
      have q2w3 : w3.cell? ⟨x, 2, none⟩ = some (.slice n.TA n.ts.length n.tc) := keepc Q2.out Bw3.out
      by_cases hT : 0 < n.ts.length
      case neg =>
        obtain rfl := hno (fun c => hT c.2)
        have hT0 : n.ts.length = 0 := by omega
        clear hy hno hT
        have CN2 := CN
        clear CN SM hR HOK hlp hlq BL
        generalize n.ts.length = T at *
        subst hT0
        go_wp2_with fail
        go_loopw [6] (fun q wr => q = .int .i64 0 ∧ Hid (Below w0.heap.size w0 wr)) (fun q _ => 0)
        case atStart => exact ⟨rfl, Bw3⟩
        case round =>
          obtain ⟨rfl, Bwr⟩ := hrel
          have q0wr : wr.cell? ⟨x, 0, none⟩ = some (.string n.nm) := keepc Q0.out Bwr.out
          have q1wr : wr.cell? ⟨x, 1, none⟩ = some (.slice n.PA n.ps.length n.pc) := keepc Q1.out Bwr.out
          have q2wr : wr.cell? ⟨x, 2, none⟩ = some (.slice n.TA 0 n.tc) := keepc Q2.out Bwr.out
          go_wp2
          go_ret
          exact ⟨rfl, BW.out.trans (Bwr.out.mono BW.out.size)⟩
      obtain ⟨R, _, rfl, MX⟩ := hy ⟨HOK.out, hT⟩
      have MX := Lib.hid MX
      clear hy hno
      have hT2 : (0 : Int) < (n.ts.length : Int) := by omega
      have hne0 : ((n.ps.length : Int) != (n.ps.length : Int)) = false := by simp
      have hne1 : ((n.ts.length : Int) != (n.ts.length : Int)) = false := by simp
      have LI := Lib.hid (inputs_len hR.out.okt)
      have LO := Lib.hid (outputs_len hR.out.okt)
      go_wp2_with fail
      go_loopw [6] (fun q wr => ∃ t : Nat, t ≤ n.ts.length ∧ q = .int .i64 t ∧ Hid (Below w0.heap.size w0 wr) ∧ Hid (Below w3.heap.size w3 wr)) (fun q _ => n.ts.length - (intOf q).toNat)
      case atStart => exact ⟨0, by omega, rfl, Bw3, Below.refl _ _⟩
      case round =>
        clear q0w3 q1w3 q2w3
        obtain ⟨t, ht, rfl, Bwr, Dwr⟩ := hrel
        have q0wr : wr.cell? ⟨x, 0, none⟩ = some (.string n.nm) := keepc Q0.out Bwr.out
        have q1wr : wr.cell? ⟨x, 1, none⟩ = some (.slice n.PA n.ps.length n.pc) := keepc Q1.out Bwr.out
        have q2wr : wr.cell? ⟨x, 2, none⟩ = some (.slice n.TA n.ts.length n.tc) := keepc Q2.out Bwr.out
        by_cases hlt : t < n.ts.length
        · have CI := Lib.hid (fun W (hW : NetR W n) => inputsN_any n t W hW)
          have CO := Lib.hid (fun W (hW : NetR W n) => outputsN_any n t W hW)
          have OPP := Lib.hid (fun p => opp HOK.out hlt p)
          go_wp2_with fail
          refine wp_region_held_drew (S := fun w' => w'.cell? ⟨x, 0, none⟩ = some (.string n.nm) ∧ w'.cell? ⟨x, 1, none⟩ = some (.slice n.PA n.ps.length n.pc) ∧ w'.cell? ⟨x, 2, none⟩ = some (.slice n.TA n.ts.length n.tc) ∧ Hid (Below w0.heap.size w0 w') ∧ Hid (Below w3.heap.size w3 w')) (by kernel_rfl) ?_ (fun hHeld => ?_)
          · exact ⟨q0wr, q1wr, q2wr, Bwr.out.drew, Dwr.out.drew⟩
          refine wpAnyH_take (oi := ⟨_, _, _, _, _, _⟩) (i := 0) (v := ?_) rfl (by kernel_rfl) (by kernel_rfl) (by kernel_rfl) (fun _ _ _ h => h) (Or.inl ⟨by rfl, ?ya0⟩) (by assumption) ?ra0
          case ya0 => (intro w hSw; (try dsimp only at hSw); go_simp; (try with_reducible rfl))
          try simp only [Act.put, List.setIfInBounds_toArray, List.set_cons_zero, List.set_cons_succ]
          refine wpAnyH_take (oi := ⟨_, _, _, _, _, _⟩) (i := 1) (v := ?_) rfl (by kernel_rfl) (by kernel_rfl) (by kernel_rfl) (fun _ _ _ h => h) (Or.inl ⟨by rfl, ?ya1⟩) (by assumption) ?ra1
          case ya1 => (intro w hSw; (try dsimp only at hSw); go_simp; (try with_reducible rfl))
          try simp only [Act.put, List.setIfInBounds_toArray, List.set_cons_zero, List.set_cons_succ]
          refine wpAnyH_take (oi := ⟨_, _, _, _, _, _⟩) (i := 3) (v := ?_) rfl (by kernel_rfl) (by kernel_rfl) (by kernel_rfl) (fun _ _ _ h => h) (Or.inl ⟨by rfl, ?ya3⟩) (by assumption) ?ra3
          case ya3 => (intro w hSw; (try dsimp only at hSw); go_simp; (try with_reducible rfl))
          try simp only [Act.put, List.setIfInBounds_toArray, List.set_cons_zero, List.set_cons_succ]
          refine wpAnyH_take (oi := ⟨_, _, _, _, _, _⟩) (i := 4) (v := ?_) rfl (by kernel_rfl) (by kernel_rfl) (by kernel_rfl) (fun _ _ _ h => h) (Or.inl ⟨by rfl, ?ya4⟩) (by assumption) ?ra4
          case ya4 => (intro w hSw; (try dsimp only at hSw); go_simp; (try with_reducible rfl))
          try simp only [Act.put, List.setIfInBounds_toArray, List.set_cons_zero, List.set_cons_succ]
          refine wpAnyH_ready (rs := [2]) (by kernel_rfl) (by simp) ?_
          refine AllReadyH.cons (o := ⟨_, _, _, _, _, _⟩) rfl (fun K hK => ?_) AllReadyH.nil
          go_simp
          go_at_call 33; refine (CI.out _ (CN.out _ hHeld.2.2.2.1.out)).mono ?_; rintro e w4 ⟨A4, k4, rfl, R4, L4⟩; (try go_wp2_with fail)
          refine hK.out _ _ ?_ (fun hHeld2 => ?_)
          · obtain ⟨h1, h2, h3, h4, h5⟩ := hHeld; exact ⟨keepc h1 L4, keepc h2 L4, keepc h3 L4, h4.out.trans (L4.mono h4.out.size), h5.out.trans (L4.mono h5.out.size)⟩
          clear hK K hHeld
          have hHeld := hHeld2
          clear hHeld2
          try simp only [Act.put, List.setIfInBounds_toArray, List.set_cons_zero, List.set_cons_succ]
          refine wpAnyH_ready (rs := [5]) (by kernel_rfl) (by simp) ?_
          refine AllReadyH.cons (o := ⟨_, _, _, _, _, _⟩) rfl (fun K hK => ?_) AllReadyH.nil
          go_simp
          go_at_call 35; refine (CO.out _ (CN.out _ hHeld.2.2.2.1.out)).mono ?_; rintro e w5 ⟨A5, k5, rfl, R5, L5⟩; (try go_wp2_with fail)
          refine hK.out _ _ ?_ (fun hHeld2 => ?_)
          · obtain ⟨h1, h2, h3, h4, h5⟩ := hHeld; exact ⟨keepc h1 L5, keepc h2 L5, keepc h3 L5, h4.out.trans (L5.mono h4.out.size), h5.out.trans (L5.mono h5.out.size)⟩
          clear hK K hHeld
          have hHeld := hHeld2
          clear hHeld2
          try simp only [Act.put, List.setIfInBounds_toArray, List.set_cons_zero, List.set_cons_succ]
          refine wpAnyH_take (oi := ⟨_, _, _, _, _, _⟩) (i := 6) (v := ?_) rfl (by kernel_rfl) (by kernel_rfl) (by kernel_rfl) (fun _ _ _ h => h) (Or.inl ⟨by rfl, ?ya6⟩) (by assumption) ?ra6
          case ya6 => (intro w hSw; (try dsimp only at hSw); go_simp; (try with_reducible rfl))
          try simp only [Act.put, List.setIfInBounds_toArray, List.set_cons_zero, List.set_cons_succ]
          refine wpAnyH_take (oi := ⟨_, _, _, _, _, _⟩) (i := 7) (v := ?_) rfl (by kernel_rfl) (by kernel_rfl) (by kernel_rfl) (fun _ _ _ h => h) (Or.inl ⟨by rfl, ?ya7⟩) (by assumption) ?ra7
          case ya7 => (intro w hSw; (try dsimp only at hSw); go_simp; (try with_reducible rfl))
          try simp only [Act.put, List.setIfInBounds_toArray, List.set_cons_zero, List.set_cons_succ]
          refine wpAnyH_done (by kernel_rfl) ?_ _
          have C5 := Lib.hid hHeld.2.2.2.1.out
          have D5 := Lib.hid hHeld.2.2.2.2.out
          have q0w5 := hHeld.1
          have q1w5 := hHeld.2.1
          have q2w5 := hHeld.2.2.1
          have RI := R4.below L5 (Nat.le_refl _)
          have CcI := Lib.hid (fun (p : Int) W (hW : Below w5.heap.size w5 W) => contains_any A4 (inputsN n t) k4 p W (RI.below hW (Nat.le_refl _)) (LI.out t))
          have CcO := Lib.hid (fun (p : Int) W (hW : Below w5.heap.size w5 W) => contains_any A5 (outputsN n t) k5 p W (R5.below hW (Nat.le_refl _)) (LO.out t))
          clear hHeld R4 L4 R5 L5 RI q0wr q1wr q2wr CI CO
          go_wp2
          go_loopw [9] (fun q wr => ∃ p : Nat, p ≤ n.ps.length ∧ q = .int .i64 p ∧ Hid (Below w0.heap.size w0 wr) ∧ Hid (Below w3.heap.size w3 wr) ∧ Hid (Below w5.heap.size w5 wr)) (fun q _ => n.ps.length - (intOf q).toNat)
          case atStart => exact ⟨0, by omega, rfl, C5, D5, Below.refl _ _⟩
          case round =>
            clear Bwr Dwr C5 D5 q0w5 q1w5 q2w5
            obtain ⟨p, hp, rfl, Bwr, Dwr, Ewr⟩ := hrel
            have q0wr : wr.cell? ⟨x, 0, none⟩ = some (.string n.nm) := keepc Q0.out Bwr.out
            have q1wr : wr.cell? ⟨x, 1, none⟩ = some (.slice n.PA n.ps.length n.pc) := keepc Q1.out Bwr.out
            have q2wr : wr.cell? ⟨x, 2, none⟩ = some (.slice n.TA n.ts.length n.tc) := keepc Q2.out Bwr.out
            by_cases hlt2 : p < n.ps.length
            · have CPre := Lib.hid (fun W (hW : NetR W n) => preN_any n t p W hW)
              have CPost := Lib.hid (fun W (hW : NetR W n) => postN_any n t p W hW)
              have CCon := Lib.hid (fun W (hW : NetR W n) => consumersN_any n p W hW)
              have CPro := Lib.hid (fun W (hW : NetR W n) => producersN_any n p W hW)
              have CcIp := Lib.hid (fun (_ : Unit) => CcI.out p)
              have CcOp := Lib.hid (fun (_ : Unit) => CcO.out p)
              obtain ⟨o1, o2, o3, o4, o5, o6, o7, o8⟩ := OPP.out p
              have HX : Hid (incD n.ts p t = weightV (tA n.ts t).post.l p - weightV (tA n.ts t).pre.l p) := rfl
              rw [o1] at CPre
              rw [o2] at CPost
              rw [o3] at CcIp
              rw [o4] at CcOp
              generalize weightV (tA n.ts t).pre.l p = u1 at *
              generalize weightV (tA n.ts t).post.l p = u2 at *
              obtain ⟨d1, hd1⟩ : ∃ d, decide (0 < u1) = d := ⟨_, rfl⟩
              obtain ⟨d2, hd2⟩ : ∃ d, decide (0 < u2) = d := ⟨_, rfl⟩
              rw [hd1] at CcIp o5
              rw [hd2] at CcOp o6
              have hx1 : (d1 != d1) = false := by simp
              have hx2 : (d2 != d2) = false := by simp
              have hx3 : ((u2 - u1) != (u2 - u1)) = false := by simp
              have O5 := Lib.hid o5
              have O6 := Lib.hid o6
              clear o1 o2 o3 o4 o5 o6
              obtain ⟨v1, v2⟩ := o7
              obtain ⟨v3, v4⟩ := o8
              go_wp2_with fail
              refine wp_region_held_drew (S := fun w' => w'.cell? ⟨x, 0, none⟩ = some (.string n.nm) ∧ w'.cell? ⟨x, 1, none⟩ = some (.slice n.PA n.ps.length n.pc) ∧ w'.cell? ⟨x, 2, none⟩ = some (.slice n.TA n.ts.length n.tc) ∧ Hid (Below w0.heap.size w0 w') ∧ Hid (Below w3.heap.size w3 w') ∧ Hid (Below w5.heap.size w5 w')) (by kernel_rfl) ?_ (fun hHeld => ?_)
              · exact ⟨q0wr, q1wr, q2wr, Bwr.out.drew, Dwr.out.drew, Ewr.out.drew⟩
              refine wpAnyH_take (oi := ⟨_, _, _, _, _, _⟩) (i := 0) (v := ?_) rfl (by kernel_rfl) (by kernel_rfl) (by kernel_rfl) (fun _ _ _ h => h) (Or.inl ⟨by rfl, ?yb0⟩) (by assumption) ?rb0
              case yb0 => (intro w hSw; (try dsimp only at hSw); go_simp; (try with_reducible rfl))
              try simp only [Act.put, List.setIfInBounds_toArray, List.set_cons_zero, List.set_cons_succ]
              refine wpAnyH_take (oi := ⟨_, _, _, _, _, _⟩) (i := 1) (v := ?_) rfl (by kernel_rfl) (by kernel_rfl) (by kernel_rfl) (fun _ _ _ h => h) (Or.inl ⟨by rfl, ?yb1⟩) (by assumption) ?rb1
              case yb1 => (intro w hSw; (try dsimp only at hSw); go_simp; (try with_reducible rfl))
              try simp only [Act.put, List.setIfInBounds_toArray, List.set_cons_zero, List.set_cons_succ]
              refine wpAnyH_take (oi := ⟨_, _, _, _, _, _⟩) (i := 2) (v := ?_) rfl (by kernel_rfl) (by kernel_rfl) (by kernel_rfl) (fun _ _ _ h => h) (Or.inl ⟨by rfl, ?yb2⟩) (by assumption) ?rb2
              case yb2 => (intro w hSw; (try dsimp only at hSw); go_simp; (try with_reducible rfl))
              try simp only [Act.put, List.setIfInBounds_toArray, List.set_cons_zero, List.set_cons_succ]
              refine wpAnyH_take (oi := ⟨_, _, _, _, _, _⟩) (i := 4) (v := ?_) rfl (by kernel_rfl) (by kernel_rfl) (by kernel_rfl) (fun _ _ _ h => h) (Or.inl ⟨by rfl, ?yb4⟩) (by assumption) ?rb4
              case yb4 => (intro w hSw; (try dsimp only at hSw); go_simp; (try with_reducible rfl))
              try simp only [Act.put, List.setIfInBounds_toArray, List.set_cons_zero, List.set_cons_succ]
              refine wpAnyH_take (oi := ⟨_, _, _, _, _, _⟩) (i := 5) (v := ?_) rfl (by kernel_rfl) (by kernel_rfl) (by kernel_rfl) (fun _ _ _ h => h) (Or.inl ⟨by rfl, ?yb5⟩) (by assumption) ?rb5
              case yb5 => (intro w hSw; (try dsimp only at hSw); go_simp; (try with_reducible rfl))
              try simp only [Act.put, List.setIfInBounds_toArray, List.set_cons_zero, List.set_cons_succ]
              refine wpAnyH_take (oi := ⟨_, _, _, _, _, _⟩) (i := 6) (v := ?_) rfl (by kernel_rfl) (by kernel_rfl) (by kernel_rfl) (fun _ _ _ h => h) (Or.inl ⟨by rfl, ?yb6⟩) (by assumption) ?rb6
              case yb6 => (intro w hSw; (try dsimp only at hSw); go_simp; (try with_reducible rfl))
              try simp only [Act.put, List.setIfInBounds_toArray, List.set_cons_zero, List.set_cons_succ]
              refine wpAnyH_ready (rs := [3]) (by kernel_rfl) (by simp) ?_
              refine AllReadyH.cons (o := ⟨_, _, _, _, _, _⟩) rfl (fun K hK => ?_) AllReadyH.nil
              go_simp
              go_at_call 29; refine (CPre.out _ (CN.out _ hHeld.2.2.2.1.out)).mono ?_; rintro e w6 ⟨rfl, L6⟩; (try go_wp2_with fail)
              refine hK.out _ _ ?_ (fun hHeld2 => ?_)
              · obtain ⟨h1, h2, h3, h4, h5, h6⟩ := hHeld; exact ⟨keepc h1 L6, keepc h2 L6, keepc h3 L6, h4.out.trans (L6.mono h4.out.size), h5.out.trans (L6.mono h5.out.size), h6.out.trans (L6.mono h6.out.size)⟩
              clear hK K hHeld
              have hHeld := hHeld2
              clear hHeld2
              try simp only [Act.put, List.setIfInBounds_toArray, List.set_cons_zero, List.set_cons_succ]
              refine wpAnyH_ready (rs := [7]) (by kernel_rfl) (by simp) ?_
              refine AllReadyH.cons (o := ⟨_, _, _, _, _, _⟩) rfl (fun K hK => ?_) AllReadyH.nil
              go_simp
              go_at_call 31; refine (CPost.out _ (CN.out _ hHeld.2.2.2.1.out)).mono ?_; rintro e w7 ⟨rfl, L7⟩; (try go_wp2_with fail)
              refine hK.out _ _ ?_ (fun hHeld2 => ?_)
              · obtain ⟨h1, h2, h3, h4, h5, h6⟩ := hHeld; exact ⟨keepc h1 L7, keepc h2 L7, keepc h3 L7, h4.out.trans (L7.mono h4.out.size), h5.out.trans (L7.mono h5.out.size), h6.out.trans (L7.mono h6.out.size)⟩
              clear hK K hHeld
              have hHeld := hHeld2
              clear hHeld2
              try simp only [Act.put, List.setIfInBounds_toArray, List.set_cons_zero, List.set_cons_succ]
              refine wpAnyH_take (oi := ⟨_, _, _, _, _, _⟩) (i := 8) (v := ?_) rfl (by kernel_rfl) (by kernel_rfl) (by kernel_rfl) (fun _ _ _ h => h) (Or.inl ⟨by rfl, ?yb8⟩) (by assumption) ?rb8
              case yb8 => (intro w hSw; (try dsimp only at hSw); go_simp; (try with_reducible rfl))
              try simp only [Act.put, List.setIfInBounds_toArray, List.set_cons_zero, List.set_cons_succ]
              refine wpAnyH_take (oi := ⟨_, _, _, _, _, _⟩) (i := 9) (v := ?_) rfl (by kernel_rfl) (by kernel_rfl) (by kernel_rfl) (fun _ _ _ h => h) (Or.inl ⟨by rfl, ?yb9⟩) (by assumption) ?rb9
              case yb9 => (intro w hSw; (try dsimp only at hSw); go_simp; (try with_reducible rfl))
              try simp only [Act.put, List.setIfInBounds_toArray, List.set_cons_zero, List.set_cons_succ]
              refine wpAnyH_done (by kernel_rfl) ?_ _
              have Cw7 := Lib.hid hHeld.2.2.2.1.out
              have Dw7 := Lib.hid hHeld.2.2.2.2.1.out
              have Ew7 := Lib.hid hHeld.2.2.2.2.2.out
              have q0w7 := hHeld.1
              have q1w7 := hHeld.2.1
              have q2w7 := hHeld.2.2.1
              clear hHeld L6 L7 q0wr q1wr q2wr CPre CPost
              go_wp2_with fail
              refine (CcIp.out () _ Ew7.out).mono ?_
              rintro e w8 ⟨rfl, K⟩
              have Cw8 := Lib.hid (Cw7.out.trans (K.mono Cw7.out.size))
              have Dw8 := Lib.hid (Dw7.out.trans (K.mono Dw7.out.size))
              have Ew8 := Lib.hid (Ew7.out.trans (K.mono Ew7.out.size))
              have q0w8 := keepc q0w7 K
              have q1w8 := keepc q1w7 K
              have q2w8 := keepc q2w7 K
              clear K Cw7 Dw7 Ew7 q0w7 q1w7 q2w7
              go_wp2_with fail
              refine (CCon.out _ (CN.out _ Cw8.out)).mono ?_
              rintro e w9 ⟨A9, kA9, rfl, R9, K⟩
              have Cw9 := Lib.hid (Cw8.out.trans (K.mono Cw8.out.size))
              have Dw9 := Lib.hid (Dw8.out.trans (K.mono Dw8.out.size))
              have Ew9 := Lib.hid (Ew8.out.trans (K.mono Ew8.out.size))
              have q0w9 := keepc q0w8 K
              have q1w9 := keepc q1w8 K
              have q2w9 := keepc q2w8 K
              clear K Cw8 Dw8 Ew8 q0w8 q1w8 q2w8
              have R9h := Lib.hid (contains_any A9 (consumersN n p) kA9 t _ R9 (by exact consumers_len hR.out.okt p))
              rw [O5.out] at R9h
              go_wp2_with fail
              refine R9h.out.mono ?_
              rintro e wa ⟨rfl, K⟩
              clear R9h R9
              have Cwa := Lib.hid (Cw9.out.trans (K.mono Cw9.out.size))
              have Dwa := Lib.hid (Dw9.out.trans (K.mono Dw9.out.size))
              have Ewa := Lib.hid (Ew9.out.trans (K.mono Ew9.out.size))
              have q0wa := keepc q0w9 K
              have q1wa := keepc q1w9 K
              have q2wa := keepc q2w9 K
              clear K Cw9 Dw9 Ew9 q0w9 q1w9 q2w9
              go_wp2_with fail
              refine (CcOp.out () _ Ewa.out).mono ?_
              rintro e wb ⟨rfl, K⟩
              have Cwb := Lib.hid (Cwa.out.trans (K.mono Cwa.out.size))
              have Dwb := Lib.hid (Dwa.out.trans (K.mono Dwa.out.size))
              have Ewb := Lib.hid (Ewa.out.trans (K.mono Ewa.out.size))
              have q0wb := keepc q0wa K
              have q1wb := keepc q1wa K
              have q2wb := keepc q2wa K
              clear K Cwa Dwa Ewa q0wa q1wa q2wa
              go_wp2_with fail
              refine (CPro.out _ (CN.out _ Cwb.out)).mono ?_
              rintro e wc ⟨Ac, kAc, rfl, Rc, K⟩
              have Cwc := Lib.hid (Cwb.out.trans (K.mono Cwb.out.size))
              have Dwc := Lib.hid (Dwb.out.trans (K.mono Dwb.out.size))
              have Ewc := Lib.hid (Ewb.out.trans (K.mono Ewb.out.size))
              have q0wc := keepc q0wb K
              have q1wc := keepc q1wb K
              have q2wc := keepc q2wb K
              clear K Cwb Dwb Ewb q0wb q1wb q2wb
              have Rch := Lib.hid (contains_any Ac (producersN n p) kAc t _ Rc (by exact producers_len hR.out.okt p))
              rw [O6.out] at Rch
              go_wp2_with fail
              refine Rch.out.mono ?_
              rintro e wd ⟨rfl, K⟩
              clear Rch Rc
              have Cwd := Lib.hid (Cwc.out.trans (K.mono Cwc.out.size))
              have Dwd := Lib.hid (Dwc.out.trans (K.mono Dwc.out.size))
              have Ewd := Lib.hid (Ewc.out.trans (K.mono Ewc.out.size))
              have q0wd := keepc q0wc K
              have q1wd := keepc q1wc K
              have q2wd := keepc q2wc K
              clear K Cwc Dwc Ewc q0wc q1wc q2wc
              have m1 := ((MX.out.1.of_block (Dwd.out.block _ MX.out.1.lt)).cell hlt2)
              have m2 := (((MX.out.2 p hlt2).of_block (Dwd.out.block _ (MX.out.2 p hlt2).lt)).cell hlt)
              rw [HX.out] at m2
              clear HX
              go_wp2
              go_quiet (fail)
              go_wp2
              go_roundw
              case rel => exact ⟨p + 1, by omega, by go_num, below_drewN Cwd.out _, below_drewN Dwd.out _, below_drewN Ewd.out _⟩
              case measure => simp [intOf]; omega
            · go_wp2
              go_roundw
              case rel => exact ⟨t + 1, by omega, by go_num, Bwr, Dwr⟩
              case measure => simp [intOf]; omega
        · go_wp2
          go_ret
          exact ⟨rfl, BW.out.trans (Bwr.out.mono BW.out.size)⟩
end Go.Proofs.Ytoahhnahjpcpoaa
