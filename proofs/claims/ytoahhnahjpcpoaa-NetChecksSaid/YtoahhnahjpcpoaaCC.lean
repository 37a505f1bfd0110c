/- The law on checks. -/
import Derived.Test.YtoahhnahjpcpoaaCB
namespace Go.Proofs.Ytoahhnahjpcpoaa
open Go.RowKit

theorem initial_len {n : NetV} (h : OkP n.ps) : (initialN n).length ≤ 1000 := by
  unfold initialN
  split
  · rw [tab_len]; exact h.1
  · exact Nat.zero_le _
def MPost (P T : Nat) (M : Nat → Nat → Int) (g : Nat) (w : World) (e : Ending) (w' : World) : Prop := ∃ A c, e = .returned (.slice A P c) ∧ MatR w' A P T M ∧ Below g w w'
theorem inc_both {n : NetV} (hl : n.ps.length ≤ 1000) (hk : n.ts.length ≤ 1000) : ∃ P T M, P ≤ 1000 ∧ T ≤ 1000 ∧
    (∀ W, NetR W n → Calls Try.prog 16 #[.agg #[.string n.nm, .slice n.PA n.ps.length n.pc, .slice n.TA n.ts.length n.tc]] W (MPost P T M W.heap.size W)) ∧
    (∀ W, NetR W n → Calls Try.prog 17 #[.agg #[.string n.nm, .slice n.PA n.ps.length n.pc, .slice n.TA n.ts.length n.tc]] W (MPost P T M W.heap.size W)) := by
  by_cases h : okN n = true ∧ 0 < n.ts.length
  · refine ⟨n.ps.length, n.ts.length, incD n.ts, hl, hk, fun W hW => ?_, fun W hW => ?_⟩
    · refine (incidenceN_any n W hW).mono ?_
      rintro e w' ⟨h1, h2, _⟩
      obtain ⟨R, _, e1, hm⟩ := h2 h
      exact ⟨_, _, e1, hm.mat, h1⟩
    · refine (rincidenceN_any n W hW).mono ?_
      rintro e w' ⟨h1, h2, _⟩
      obtain ⟨A, c, e1, hm⟩ := h2 h
      exact ⟨_, _, e1, hm, h1⟩
  · refine ⟨0, 0, incD n.ts, by omega, by omega, fun W hW => ?_, fun W hW => ?_⟩
    · refine (incidenceN_any n W hW).mono ?_
      rintro e w' ⟨h1, _, h3⟩
      exact ⟨_, _, h3 h, fun p hp => absurd hp (by omega), h1⟩
    · refine (rincidenceN_any n W hW).mono ?_
      rintro e w' ⟨h1, _, h3⟩
      exact ⟨_, _, h3 h, fun p hp => absurd hp (by omega), h1⟩

set_option maxHeartbeats 16000000 in
set_option maxRecDepth 1000000 in
theorem checks_law (n : NetV)  (w : World) (hn : NetW w n)  :
    Calls Try.prog 3 #[(.agg #[.string n.nm, .slice n.PA n.ps.length n.pc, .slice n.TA n.ts.length n.tc])] w fun e w' => e = .returned (.bool true) ∧ Below w.heap.size w w' := by
  have B0 : Hid (Below w.heap.size w (w.alloc (.cells #[.string n.nm, .slice n.PA n.ps.length n.pc, .slice n.TA n.ts.length n.tc] 25))) := (Below.refl _ _).alloc (Nat.le_refl _) _
  cases hs : smallN n
  · have SM := Lib.hid (fun W (hW : Below w.heap.size w W) => small_no n W (hn.below hW (Nat.le_refl _)) hs)
    go_enter Try.func3, Try.ntmps3
    go_wp2_with fail
    refine (SM.out _ B0.out).mono ?_
    rintro e w1 ⟨rfl, K⟩
    have B1 : Below w.heap.size w w1 := B0.out.trans (K.mono (by rw [World.size_alloc]; omega))
    have B2 := Lib.hid B1
    clear B1 K
    go_wp2_with fail
    refine (lives_any _).mono ?_
    rintro e w2 ⟨rfl, K⟩
    have B3 := Lib.hid ((B2.out.alloc B2.out.size _).trans (K.mono (B2.out.alloc B2.out.size _).size))
    clear K
    go_wp2
    go_ret
    exact ⟨rfl, B3.out⟩
  · have hR := Lib.hid (small_ok hn hs)
    have SM := Lib.hid (fun W (hW : Below w.heap.size w W) => small_yes n W (hn.below hW (Nat.le_refl _)) hs)
    have lini := initial_len hR.out.okp
    obtain ⟨P, T, M, hP, hT, hCI, hCJ⟩ := inc_both hR.out.okp.1 hR.out.okt.1
    have CI := Lib.hid hCI
    have CJ := Lib.hid hCJ
    have CK := Lib.hid (fun W (hW : NetR W n) => check_any n W hW)
    have CR := Lib.hid (fun W (hW : NetR W n) => rcheck_any n W hW)
    have C1 := Lib.hid (fun W (hW : NetR W n) => initialN_any n W hW)
    have C2 := Lib.hid (fun W (hW : NetR W n) => rinitialN_any n W hW)
    have C3 := Lib.hid (fun W (hW : NetR W n) => plainN_any n W hW)
    have C4 := Lib.hid (fun W (hW : NetR W n) => rplainN_any n W hW)
    have C5 := Lib.hid (fun W (hW : NetR W n) => ordinaryN_any n W hW)
    have C6 := Lib.hid (fun W (hW : NetR W n) => rordinaryN_any n W hW)
    clear hs hCI hCJ
    have hmg : Try.prog.eqGuardType Try.prog.depth 31 = false := by kernel_rfl
    have hneq : ∀ W, (binOp .neq 31 (.agg #[.int .i64 (chkV n).1, .int .i64 (chkV n).2]) (.agg #[.int .i64 (chkV n).1, .int .i64 (chkV n).2])).run Try.prog W = .ok (.bool false) W := fun W => by rw [faultNeq]; simp
    go_enter Try.func3, Try.ntmps3
    go_wp2_with fail
    refine (SM.out _ B0.out).mono ?_
    rintro e w1 ⟨rfl, K⟩
    have B1 : Below w.heap.size w w1 := B0.out.trans (K.mono (by rw [World.size_alloc]; omega))
    go_wp2_with fail
    obtain ⟨w0, hw0⟩ : ∃ w0, w0 = w1.alloc (.cells #[.string n.nm, .slice n.PA n.ps.length n.pc, .slice n.TA n.ts.length n.tc] 25) := ⟨_, rfl⟩
    have BW : Hid (Below w.heap.size w w0) := by rw [hw0]; exact B1.alloc B1.size _
    have Q0 : Hid (w0.cell? ⟨w1.heap.size, 0, none⟩ = some (.string n.nm)) := by show _ = _; rw [hw0]; simp
    have Q1 : Hid (w0.cell? ⟨w1.heap.size, 1, none⟩ = some (.slice n.PA n.ps.length n.pc)) := by show _ = _; rw [hw0]; simp
    have Q2 : Hid (w0.cell? ⟨w1.heap.size, 2, none⟩ = some (.slice n.TA n.ts.length n.tc)) := by show _ = _; rw [hw0]; simp
    have CN : Hid (∀ W, Below w0.heap.size w0 W → NetR W n) := fun W hW => (hR.out.below BW.out (Nat.le_refl _)).below hW (Nat.le_refl _)
    rw [← hw0]
    clear hw0 B1 K
    generalize w1.heap.size = x at *
    unfold FPost at CK CR
    generalize (chkV n).1 = z at *
    generalize (chkV n).2 = z2 at *
    generalize plainN n = b1 at *
    generalize ordinaryN n = b2 at *
    have hb1 : (b1 == b1) = true := by simp
    have hb2 : (b2 == b2) = true := by simp
    refine wp_region_held_drew (S := fun w' => w'.cell? ⟨x, 0, none⟩ = some (.string n.nm) ∧ w'.cell? ⟨x, 1, none⟩ = some (.slice n.PA n.ps.length n.pc) ∧ w'.cell? ⟨x, 2, none⟩ = some (.slice n.TA n.ts.length n.tc) ∧ Hid (Below w0.heap.size w0 w')) (by kernel_rfl) ?_ (fun hHeld => ?_)
    · exact ⟨Q0.out, Q1.out, Q2.out, (Below.refl _ _).drew⟩
    refine wpAnyH_take (oi := ⟨_, _, _, _, _, _⟩) (i := 0) (v := ?_) rfl (by kernel_rfl) (by kernel_rfl) (by kernel_rfl) (fun _ _ _ h => h) (Or.inl ⟨by rfl, ?ya0⟩) (by assumption) ?ra0
    case ya0 => (intro w hSw; (try dsimp only at hSw); go_simp; (try with_reducible rfl))
    try simp only [Act.put, List.setIfInBounds_toArray, List.set_cons_zero, List.set_cons_succ]
    refine wpAnyH_take (oi := ⟨_, _, _, _, _, _⟩) (i := 2) (v := ?_) rfl (by kernel_rfl) (by kernel_rfl) (by kernel_rfl) (fun _ _ _ h => h) (Or.inl ⟨by rfl, ?ya2⟩) (by assumption) ?ra2
    case ya2 => (intro w hSw; (try dsimp only at hSw); go_simp; (try with_reducible rfl))
    try simp only [Act.put, List.setIfInBounds_toArray, List.set_cons_zero, List.set_cons_succ]
    refine wpAnyH_ready (rs := [1]) (by kernel_rfl) (by simp) ?_
    refine AllReadyH.cons (o := ⟨_, _, _, _, _, _⟩) rfl (fun K hK => ?_) AllReadyH.nil
    go_simp
    go_at_call 13; refine (CK.out _ (CN.out _ hHeld.2.2.2.out)).mono ?_; rintro e w2 ⟨rfl, L2⟩; (try go_wp2_with fail)
    refine hK.out _ _ ?_ (fun hHeld2 => ?_)
    · obtain ⟨h1, h2, h3, h4⟩ := hHeld; exact ⟨keepc h1 L2, keepc h2 L2, keepc h3 L2, h4.out.trans (L2.mono h4.out.size)⟩
    clear hK K hHeld
    have hHeld := hHeld2
    clear hHeld2
    try simp only [Act.put, List.setIfInBounds_toArray, List.set_cons_zero, List.set_cons_succ]
    refine wpAnyH_ready (rs := [3]) (by kernel_rfl) (by simp) ?_
    refine AllReadyH.cons (o := ⟨_, _, _, _, _, _⟩) rfl (fun K hK => ?_) AllReadyH.nil
    go_simp
    go_at_call 14; refine (CR.out _ (CN.out _ hHeld.2.2.2.out)).mono ?_; rintro e w3 ⟨rfl, L3⟩; (try go_wp2_with fail)
    refine hK.out _ _ ?_ (fun hHeld2 => ?_)
    · obtain ⟨h1, h2, h3, h4⟩ := hHeld; exact ⟨keepc h1 L3, keepc h2 L3, keepc h3 L3, h4.out.trans (L3.mono h4.out.size)⟩
    clear hK K hHeld
    have hHeld := hHeld2
    clear hHeld2
    try simp only [Act.put, List.setIfInBounds_toArray, List.set_cons_zero, List.set_cons_succ]
    refine wpAnyH_take (oi := ⟨_, _, _, _, _, _⟩) (i := 4) (v := ?_) rfl (by kernel_rfl) (by kernel_rfl) (by kernel_rfl) (fun _ _ _ h => h) (Or.inl ⟨by rfl, ?ya4⟩) (by assumption) ?ra4
    case ya4 => (intro w hSw; (try dsimp only at hSw); go_simp; (try with_reducible rfl))
    try simp only [Act.put, List.setIfInBounds_toArray, List.set_cons_zero, List.set_cons_succ]
    refine wpAnyH_take (oi := ⟨_, _, _, _, _, _⟩) (i := 5) (v := ?_) rfl (by kernel_rfl) (by kernel_rfl) (by kernel_rfl) (fun _ _ _ h => h) (Or.inl ⟨by rfl, ?ya5⟩) (by assumption) ?ra5
    case ya5 => (intro w hSw; (try dsimp only at hSw); go_simp; (try with_reducible rfl))
    try simp only [Act.put, List.setIfInBounds_toArray, List.set_cons_zero, List.set_cons_succ]
    refine wpAnyH_take (oi := ⟨_, _, _, _, _, _⟩) (i := 6) (v := ?_) rfl (by kernel_rfl) (by kernel_rfl) (by kernel_rfl) (fun _ _ _ h => h) (Or.inl ⟨by rfl, ?ya6⟩) (by assumption) ?ra6
    case ya6 => (intro w hSw; (try dsimp only at hSw); go_simp; (try with_reducible rfl))
    try simp only [Act.put, List.setIfInBounds_toArray, List.set_cons_zero, List.set_cons_succ]
    refine wpAnyH_take (oi := ⟨_, _, _, _, _, _⟩) (i := 8) (v := ?_) rfl (by kernel_rfl) (by kernel_rfl) (by kernel_rfl) (fun _ _ _ h => h) (Or.inl ⟨by rfl, ?ya8⟩) (by assumption) ?ra8
    case ya8 => (intro w hSw; (try dsimp only at hSw); go_simp; (try with_reducible rfl))
    try simp only [Act.put, List.setIfInBounds_toArray, List.set_cons_zero, List.set_cons_succ]
    refine wpAnyH_ready (rs := [7]) (by kernel_rfl) (by simp) ?_
    refine AllReadyH.cons (o := ⟨_, _, _, _, _, _⟩) rfl (fun K hK => ?_) AllReadyH.nil
    go_simp
    go_at_call 16; refine (CI.out _ (CN.out _ hHeld.2.2.2.out)).mono ?_; rintro e w4 ⟨A4, k4, rfl, M4, L4⟩; (try go_wp2_with fail)
    refine hK.out _ _ ?_ (fun hHeld2 => ?_)
    · obtain ⟨h1, h2, h3, h4⟩ := hHeld; exact ⟨keepc h1 L4, keepc h2 L4, keepc h3 L4, h4.out.trans (L4.mono h4.out.size)⟩
    clear hK K hHeld
    have hHeld := hHeld2
    clear hHeld2
    try simp only [Act.put, List.setIfInBounds_toArray, List.set_cons_zero, List.set_cons_succ]
    refine wpAnyH_ready (rs := [9]) (by kernel_rfl) (by simp) ?_
    refine AllReadyH.cons (o := ⟨_, _, _, _, _, _⟩) rfl (fun K hK => ?_) AllReadyH.nil
    go_simp
    go_at_call 17; refine (CJ.out _ (CN.out _ hHeld.2.2.2.out)).mono ?_; rintro e w5 ⟨A5, k5, rfl, M5, L5⟩; (try go_wp2_with fail)
    refine hK.out _ _ ?_ (fun hHeld2 => ?_)
    · obtain ⟨h1, h2, h3, h4⟩ := hHeld; exact ⟨keepc h1 L5, keepc h2 L5, keepc h3 L5, h4.out.trans (L5.mono h4.out.size)⟩
    clear hK K hHeld
    have hHeld := hHeld2
    clear hHeld2
    try simp only [Act.put, List.setIfInBounds_toArray, List.set_cons_zero, List.set_cons_succ]
    refine wpAnyH_ready (rs := [10]) (by kernel_rfl) (by simp) ?_
    refine AllReadyH.cons (o := ⟨_, _, _, _, _, _⟩) rfl (fun K hK => ?_) AllReadyH.nil
    go_simp
    go_at_call 15; refine (matrices_any A4 A5 P T k4 k5 M _ (M4.below L5 (Nat.le_refl _)) M5 hP hT).mono ?_; rintro e w6 ⟨rfl, L6⟩; (try go_wp2_with fail)
    refine hK.out _ _ ?_ (fun hHeld2 => ?_)
    · obtain ⟨h1, h2, h3, h4⟩ := hHeld; exact ⟨keepc h1 L6, keepc h2 L6, keepc h3 L6, h4.out.trans (L6.mono h4.out.size)⟩
    clear hK K hHeld
    have hHeld := hHeld2
    clear hHeld2
    try simp only [Act.put, List.setIfInBounds_toArray, List.set_cons_zero, List.set_cons_succ]
    refine wpAnyH_take (oi := ⟨_, _, _, _, _, _⟩) (i := 11) (v := ?_) rfl (by kernel_rfl) (by kernel_rfl) (by kernel_rfl) (fun _ _ _ h => h) (Or.inl ⟨by rfl, ?ya11⟩) (by assumption) ?ra11
    case ya11 => (intro w hSw; (try dsimp only at hSw); go_simp; (try with_reducible rfl))
    try simp only [Act.put, List.setIfInBounds_toArray, List.set_cons_zero, List.set_cons_succ]
    refine wpAnyH_take (oi := ⟨_, _, _, _, _, _⟩) (i := 12) (v := ?_) rfl (by kernel_rfl) (by kernel_rfl) (by kernel_rfl) (fun _ _ _ h => h) (Or.inl ⟨by rfl, ?ya12⟩) (by assumption) ?ra12
    case ya12 => (intro w hSw; (try dsimp only at hSw); go_simp; (try with_reducible rfl))
    try simp only [Act.put, List.setIfInBounds_toArray, List.set_cons_zero, List.set_cons_succ]
    refine wpAnyH_done (by kernel_rfl) ?_ _
    have Bw6 := Lib.hid hHeld.2.2.2.out
    clear L2 L3 L4 L5 L6 M4 M5 hHeld
    have q0w6 : w6.cell? ⟨x, 0, none⟩ = some (.string n.nm) := keepc Q0.out Bw6.out
    have q1w6 : w6.cell? ⟨x, 1, none⟩ = some (.slice n.PA n.ps.length n.pc) := keepc Q1.out Bw6.out
    have q2w6 : w6.cell? ⟨x, 2, none⟩ = some (.slice n.TA n.ts.length n.tc) := keepc Q2.out Bw6.out
    go_wp2_with fail
    refine wp_region_held_drew (S := fun w' => w'.cell? ⟨x, 0, none⟩ = some (.string n.nm) ∧ w'.cell? ⟨x, 1, none⟩ = some (.slice n.PA n.ps.length n.pc) ∧ w'.cell? ⟨x, 2, none⟩ = some (.slice n.TA n.ts.length n.tc) ∧ Hid (Below w0.heap.size w0 w')) (by kernel_rfl) ?_ (fun hHeld => ?_)
    · exact ⟨q0w6, q1w6, q2w6, Bw6.out.drew⟩
    refine wpAnyH_take (oi := ⟨_, _, _, _, _, _⟩) (i := 0) (v := ?_) rfl (by kernel_rfl) (by kernel_rfl) (by kernel_rfl) (fun _ _ _ h => h) (Or.inl ⟨by rfl, ?yb0⟩) (by assumption) ?rb0
    case yb0 => (intro w hSw; (try dsimp only at hSw); go_simp; (try with_reducible rfl))
    try simp only [Act.put, List.setIfInBounds_toArray, List.set_cons_zero, List.set_cons_succ]
    refine wpAnyH_take (oi := ⟨_, _, _, _, _, _⟩) (i := 2) (v := ?_) rfl (by kernel_rfl) (by kernel_rfl) (by kernel_rfl) (fun _ _ _ h => h) (Or.inl ⟨by rfl, ?yb2⟩) (by assumption) ?rb2
    case yb2 => (intro w hSw; (try dsimp only at hSw); go_simp; (try with_reducible rfl))
    try simp only [Act.put, List.setIfInBounds_toArray, List.set_cons_zero, List.set_cons_succ]
    refine wpAnyH_ready (rs := [1]) (by kernel_rfl) (by simp) ?_
    refine AllReadyH.cons (o := ⟨_, _, _, _, _, _⟩) rfl (fun K hK => ?_) AllReadyH.nil
    go_simp
    go_at_call 19; refine (C1.out _ (CN.out _ hHeld.2.2.2.out)).mono ?_; rintro e w7 ⟨A7, k7, rfl, R7, L7⟩; (try go_wp2_with fail)
    refine hK.out _ _ ?_ (fun hHeld2 => ?_)
    · obtain ⟨h1, h2, h3, h4⟩ := hHeld; exact ⟨keepc h1 L7, keepc h2 L7, keepc h3 L7, h4.out.trans (L7.mono h4.out.size)⟩
    clear hK K hHeld
    have hHeld := hHeld2
    clear hHeld2
    try simp only [Act.put, List.setIfInBounds_toArray, List.set_cons_zero, List.set_cons_succ]
    refine wpAnyH_ready (rs := [3]) (by kernel_rfl) (by simp) ?_
    refine AllReadyH.cons (o := ⟨_, _, _, _, _, _⟩) rfl (fun K hK => ?_) AllReadyH.nil
    go_simp
    go_at_call 20; refine (C2.out _ (CN.out _ hHeld.2.2.2.out)).mono ?_; rintro e w8 ⟨A8, k8, rfl, R8, L8⟩; (try go_wp2_with fail)
    refine hK.out _ _ ?_ (fun hHeld2 => ?_)
    · obtain ⟨h1, h2, h3, h4⟩ := hHeld; exact ⟨keepc h1 L8, keepc h2 L8, keepc h3 L8, h4.out.trans (L8.mono h4.out.size)⟩
    clear hK K hHeld
    have hHeld := hHeld2
    clear hHeld2
    try simp only [Act.put, List.setIfInBounds_toArray, List.set_cons_zero, List.set_cons_succ]
    refine wpAnyH_ready (rs := [4]) (by kernel_rfl) (by simp) ?_
    refine AllReadyH.cons (o := ⟨_, _, _, _, _, _⟩) rfl (fun K hK => ?_) AllReadyH.nil
    go_simp
    go_at_call 18; refine (ints_any A7 A8 (initialN n) k7 k8 _ (R7.below L8 (Nat.le_refl _)) R8 lini).mono ?_; rintro e w9 ⟨rfl, L9⟩; (try go_wp2_with fail)
    refine hK.out _ _ ?_ (fun hHeld2 => ?_)
    · obtain ⟨h1, h2, h3, h4⟩ := hHeld; exact ⟨keepc h1 L9, keepc h2 L9, keepc h3 L9, h4.out.trans (L9.mono h4.out.size)⟩
    clear hK K hHeld
    have hHeld := hHeld2
    clear hHeld2
    try simp only [Act.put, List.setIfInBounds_toArray, List.set_cons_zero, List.set_cons_succ]
    refine wpAnyH_take (oi := ⟨_, _, _, _, _, _⟩) (i := 5) (v := ?_) rfl (by kernel_rfl) (by kernel_rfl) (by kernel_rfl) (fun _ _ _ h => h) (Or.inl ⟨by rfl, ?yb5⟩) (by assumption) ?rb5
    case yb5 => (intro w hSw; (try dsimp only at hSw); go_simp; (try with_reducible rfl))
    try simp only [Act.put, List.setIfInBounds_toArray, List.set_cons_zero, List.set_cons_succ]
    refine wpAnyH_take (oi := ⟨_, _, _, _, _, _⟩) (i := 6) (v := ?_) rfl (by kernel_rfl) (by kernel_rfl) (by kernel_rfl) (fun _ _ _ h => h) (Or.inl ⟨by rfl, ?yb6⟩) (by assumption) ?rb6
    case yb6 => (intro w hSw; (try dsimp only at hSw); go_simp; (try with_reducible rfl))
    try simp only [Act.put, List.setIfInBounds_toArray, List.set_cons_zero, List.set_cons_succ]
    refine wpAnyH_take (oi := ⟨_, _, _, _, _, _⟩) (i := 8) (v := ?_) rfl (by kernel_rfl) (by kernel_rfl) (by kernel_rfl) (fun _ _ _ h => h) (Or.inl ⟨by rfl, ?yb8⟩) (by assumption) ?rb8
    case yb8 => (intro w hSw; (try dsimp only at hSw); go_simp; (try with_reducible rfl))
    try simp only [Act.put, List.setIfInBounds_toArray, List.set_cons_zero, List.set_cons_succ]
    refine wpAnyH_ready (rs := [7]) (by kernel_rfl) (by simp) ?_
    refine AllReadyH.cons (o := ⟨_, _, _, _, _, _⟩) rfl (fun K hK => ?_) AllReadyH.nil
    go_simp
    go_at_call 21; refine (C3.out _ (CN.out _ hHeld.2.2.2.out)).mono ?_; rintro e wa ⟨rfl, La⟩; (try go_wp2_with fail)
    refine hK.out _ _ ?_ (fun hHeld2 => ?_)
    · obtain ⟨h1, h2, h3, h4⟩ := hHeld; exact ⟨keepc h1 La, keepc h2 La, keepc h3 La, h4.out.trans (La.mono h4.out.size)⟩
    clear hK K hHeld
    have hHeld := hHeld2
    clear hHeld2
    try simp only [Act.put, List.setIfInBounds_toArray, List.set_cons_zero, List.set_cons_succ]
    refine wpAnyH_ready (rs := [9]) (by kernel_rfl) (by simp) ?_
    refine AllReadyH.cons (o := ⟨_, _, _, _, _, _⟩) rfl (fun K hK => ?_) AllReadyH.nil
    go_simp
    go_at_call 22; refine (C4.out _ (CN.out _ hHeld.2.2.2.out)).mono ?_; rintro e wb ⟨rfl, Lb⟩; (try go_wp2_with fail)
    refine hK.out _ _ ?_ (fun hHeld2 => ?_)
    · obtain ⟨h1, h2, h3, h4⟩ := hHeld; exact ⟨keepc h1 Lb, keepc h2 Lb, keepc h3 Lb, h4.out.trans (Lb.mono h4.out.size)⟩
    clear hK K hHeld
    have hHeld := hHeld2
    clear hHeld2
    try simp only [Act.put, List.setIfInBounds_toArray, List.set_cons_zero, List.set_cons_succ]
    refine wpAnyH_take (oi := ⟨_, _, _, _, _, _⟩) (i := 10) (v := ?_) rfl (by kernel_rfl) (by kernel_rfl) (by kernel_rfl) (fun _ _ _ h => h) (Or.inl ⟨by rfl, ?yb10⟩) (by assumption) ?rb10
    case yb10 => (intro w hSw; (try dsimp only at hSw); go_simp; (try with_reducible rfl))
    try simp only [Act.put, List.setIfInBounds_toArray, List.set_cons_zero, List.set_cons_succ]
    refine wpAnyH_take (oi := ⟨_, _, _, _, _, _⟩) (i := 11) (v := ?_) rfl (by kernel_rfl) (by kernel_rfl) (by kernel_rfl) (fun _ _ _ h => h) (Or.inl ⟨by rfl, ?yb11⟩) (by assumption) ?rb11
    case yb11 => (intro w hSw; (try dsimp only at hSw); go_simp; (try with_reducible rfl))
    try simp only [Act.put, List.setIfInBounds_toArray, List.set_cons_zero, List.set_cons_succ]
    refine wpAnyH_take (oi := ⟨_, _, _, _, _, _⟩) (i := 12) (v := ?_) rfl (by kernel_rfl) (by kernel_rfl) (by kernel_rfl) (fun _ _ _ h => h) (Or.inl ⟨by rfl, ?yb12⟩) (by assumption) ?rb12
    case yb12 => (intro w hSw; (try dsimp only at hSw); go_simp; (try with_reducible rfl))
    try simp only [Act.put, List.setIfInBounds_toArray, List.set_cons_zero, List.set_cons_succ]
    refine wpAnyH_take (oi := ⟨_, _, _, _, _, _⟩) (i := 13) (v := ?_) rfl (by kernel_rfl) (by kernel_rfl) (by kernel_rfl) (fun _ _ _ h => h) (Or.inl ⟨by rfl, ?yb13⟩) (by assumption) ?rb13
    case yb13 => (intro w hSw; (try dsimp only at hSw); go_simp; (try with_reducible rfl))
    try simp only [Act.put, List.setIfInBounds_toArray, List.set_cons_zero, List.set_cons_succ]
    refine wpAnyH_take (oi := ⟨_, _, _, _, _, _⟩) (i := 15) (v := ?_) rfl (by kernel_rfl) (by kernel_rfl) (by kernel_rfl) (fun _ _ _ h => h) (Or.inl ⟨by rfl, ?yb15⟩) (by assumption) ?rb15
    case yb15 => (intro w hSw; (try dsimp only at hSw); go_simp; (try with_reducible rfl))
    try simp only [Act.put, List.setIfInBounds_toArray, List.set_cons_zero, List.set_cons_succ]
    refine wpAnyH_ready (rs := [14]) (by kernel_rfl) (by simp) ?_
    refine AllReadyH.cons (o := ⟨_, _, _, _, _, _⟩) rfl (fun K hK => ?_) AllReadyH.nil
    go_simp
    go_at_call 23; refine (C5.out _ (CN.out _ hHeld.2.2.2.out)).mono ?_; rintro e wc ⟨rfl, Lc⟩; (try go_wp2_with fail)
    refine hK.out _ _ ?_ (fun hHeld2 => ?_)
    · obtain ⟨h1, h2, h3, h4⟩ := hHeld; exact ⟨keepc h1 Lc, keepc h2 Lc, keepc h3 Lc, h4.out.trans (Lc.mono h4.out.size)⟩
    clear hK K hHeld
    have hHeld := hHeld2
    clear hHeld2
    try simp only [Act.put, List.setIfInBounds_toArray, List.set_cons_zero, List.set_cons_succ]
    refine wpAnyH_ready (rs := [16]) (by kernel_rfl) (by simp) ?_
    refine AllReadyH.cons (o := ⟨_, _, _, _, _, _⟩) rfl (fun K hK => ?_) AllReadyH.nil
    go_simp
    go_at_call 24; refine (C6.out _ (CN.out _ hHeld.2.2.2.out)).mono ?_; rintro e wd ⟨rfl, Ld⟩; (try go_wp2_with fail)
    refine hK.out _ _ ?_ (fun hHeld2 => ?_)
    · obtain ⟨h1, h2, h3, h4⟩ := hHeld; exact ⟨keepc h1 Ld, keepc h2 Ld, keepc h3 Ld, h4.out.trans (Ld.mono h4.out.size)⟩
    clear hK K hHeld
    have hHeld := hHeld2
    clear hHeld2
    try simp only [Act.put, List.setIfInBounds_toArray, List.set_cons_zero, List.set_cons_succ]
    refine wpAnyH_take (oi := ⟨_, _, _, _, _, _⟩) (i := 17) (v := ?_) rfl (by kernel_rfl) (by kernel_rfl) (by kernel_rfl) (fun _ _ _ h => h) (Or.inl ⟨by rfl, ?yb17⟩) (by assumption) ?rb17
    case yb17 => (intro w hSw; (try dsimp only at hSw); go_simp; (try with_reducible rfl))
    try simp only [Act.put, List.setIfInBounds_toArray, List.set_cons_zero, List.set_cons_succ]
    refine wpAnyH_take (oi := ⟨_, _, _, _, _, _⟩) (i := 18) (v := ?_) rfl (by kernel_rfl) (by kernel_rfl) (by kernel_rfl) (fun _ _ _ h => h) (Or.inl ⟨by rfl, ?yb18⟩) (by assumption) ?rb18
    case yb18 => (intro w hSw; (try dsimp only at hSw); go_simp; (try with_reducible rfl))
    try simp only [Act.put, List.setIfInBounds_toArray, List.set_cons_zero, List.set_cons_succ]
    refine wpAnyH_take (oi := ⟨_, _, _, _, _, _⟩) (i := 19) (v := ?_) rfl (by kernel_rfl) (by kernel_rfl) (by kernel_rfl) (fun _ _ _ h => h) (Or.inl ⟨by rfl, ?yb19⟩) (by assumption) ?rb19
    case yb19 => (intro w hSw; (try dsimp only at hSw); go_simp; (try with_reducible rfl))
    try simp only [Act.put, List.setIfInBounds_toArray, List.set_cons_zero, List.set_cons_succ]
    refine wpAnyH_ready (rs := [20]) (by kernel_rfl) (by simp) ?_
    refine AllReadyH.cons (o := ⟨_, _, _, _, _, _⟩) rfl (fun K hK => ?_) AllReadyH.nil
    go_simp
    go_at_call 12; refine (lives_any _).mono ?_; rintro e we ⟨rfl, Le⟩; (try go_wp2_with fail)
    refine hK.out _ _ ?_ (fun hHeld2 => ?_)
    · obtain ⟨h1, h2, h3, h4⟩ := hHeld; exact ⟨keepc h1 Le, keepc h2 Le, keepc h3 Le, h4.out.trans (Le.mono h4.out.size)⟩
    clear hK K hHeld
    have hHeld := hHeld2
    clear hHeld2
    try simp only [Act.put, List.setIfInBounds_toArray, List.set_cons_zero, List.set_cons_succ]
    refine wpAnyH_take (oi := ⟨_, _, _, _, _, _⟩) (i := 21) (v := ?_) rfl (by kernel_rfl) (by kernel_rfl) (by kernel_rfl) (fun _ _ _ h => h) (Or.inl ⟨by rfl, ?yb21⟩) (by assumption) ?rb21
    case yb21 => (intro w hSw; (try dsimp only at hSw); go_simp; (try with_reducible rfl))
    try simp only [Act.put, List.setIfInBounds_toArray, List.set_cons_zero, List.set_cons_succ]
    refine wpAnyH_take (oi := ⟨_, _, _, _, _, _⟩) (i := 22) (v := ?_) rfl (by kernel_rfl) (by kernel_rfl) (by kernel_rfl) (fun _ _ _ h => h) (Or.inl ⟨by rfl, ?yb22⟩) (by assumption) ?rb22
    case yb22 => (intro w hSw; (try dsimp only at hSw); go_simp; (try with_reducible rfl))
    try simp only [Act.put, List.setIfInBounds_toArray, List.set_cons_zero, List.set_cons_succ]
    refine wpAnyH_done (by kernel_rfl) ?_ _
    have Bwe := Lib.hid hHeld.2.2.2.out
    clear R7 R8 L7 L8 L9 La Lb Lc Ld Le hHeld q0w6 q1w6 q2w6
    go_wp2
    go_ret
    exact ⟨rfl, BW.out.trans (Bwe.out.mono BW.out.size)⟩
end Go.Proofs.Ytoahhnahjpcpoaa
