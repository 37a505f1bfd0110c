/- The condition of Commoner, by the program and the reference; the law on lists. -/
import Derived.Test.YtjibpkaanaphcaaGreatDoorCM
namespace Go.Proofs.YtjibpkaanaphcaaGreatDoor
open Go.RowKit

theorem vV_ug {L : List Bt.U64} {k : Nat} (h : k < L.length) : (Bt.vV L)[k]? = some (.int .u64 (((Bt.ug L k).1 : Nat) : Int)) := Bt.vV_at (Bt.ug_some h)
noncomputable def comB (n : NetV) (L : List Bt.U64) : Bool := !anyB (fun k => !markB (maxG n false (Bt.ug L k).1) (initialN n)) L.length
noncomputable def comV (n : NetV) : Bool := if minE n = 0 then comB n (minLs n true) else false
theorem maxG_lt {n : NetV} {b : Bool} {s : Nat} (hs : s < 18446744073709551616) : maxG n b s < 18446744073709551616 := by
  unfold maxG
  split
  · have g := (grS_is (n := n) (b := b) (within_lt n hs)).sub
    refine Nat.lt_of_le_of_lt ?_ (within_lt n hs)
    have e : grS n b (withinS n s) = grS n b (withinS n s) &&& withinS n s := Nat.eq_of_testBit_eq fun i => by
      rw [Nat.testBit_and]
      cases e1 : (grS n b (withinS n s)).testBit i
      · rfl
      · rw [g i e1]; rfl
    rw [e]
    exact Nat.and_le_right
  · decide
theorem ini_len {n : NetV} : (initialN n).length ≤ 24 := by
  unfold initialN
  split
  · rename_i h
    rw [tab_len]
    exact (okN_parts h).2.2.1
  · exact Nat.zero_le _
theorem minLs_len (n : NetV) (b : Bool) : (minLs n b).length ≤ 5000 := by
  unfold minLs
  split
  · rename_i h
    have h12 : ¬ 12 < n.ps.length := fun e => by
      by_cases h0 : (chkV n).1 = 0
      · rw [minE_size h0 e] at h
        exact absurd h (by decide)
      · rw [minE_chk h0] at h
        exact h0 h
    have h1 := (Bt.minU_spec (clU n b (upU (2 ^ n.ps.length - 1)))).2.2.1
    have h2 := clU_len n b (upU (2 ^ n.ps.length - 1))
    rw [upU_len] at h2
    have h3 := two_pow_le (p := n.ps.length) (by omega)
    omega
  · exact Nat.zero_le _

set_option maxHeartbeats 2000000 in
set_option maxRecDepth 100000 in
theorem many_any (n : NetV) (w : World) (hz : n.ps.length ≤ 9223372036854775807) :
    Calls Tryz.prog 5 #[.agg #[.string n.nm, .slice n.PA n.ps.length n.pc, .slice n.TA n.ts.length n.tc]] w (VPost w.heap.size w (.bool (decide (8 < n.ps.length) && decide (n.ps.length ≤ 12)))) := by
  have B0 : Hid (Below w.heap.size w (w.alloc (.cells #[.string n.nm, .slice n.PA n.ps.length n.pc, .slice n.TA n.ts.length n.tc] 25))) := ((Below.refl _ _).alloc (Nat.le_refl _) _)
  have q0 : (w.alloc (.cells #[.string n.nm, .slice n.PA n.ps.length n.pc, .slice n.TA n.ts.length n.tc] 25)).cell? ⟨w.heap.size, 0, none⟩ = some (.string n.nm) := by simp
  have q1 : (w.alloc (.cells #[.string n.nm, .slice n.PA n.ps.length n.pc, .slice n.TA n.ts.length n.tc] 25)).cell? ⟨w.heap.size, 1, none⟩ = some (.slice n.PA n.ps.length n.pc) := by simp
  have q2 : (w.alloc (.cells #[.string n.nm, .slice n.PA n.ps.length n.pc, .slice n.TA n.ts.length n.tc] 25)).cell? ⟨w.heap.size, 2, none⟩ = some (.slice n.TA n.ts.length n.tc) := by simp
  by_cases h8 : 8 < n.ps.length
  · have z8 : decide (8 < n.ps.length) = true := decide_eq_true h8
    by_cases h12 : n.ps.length ≤ 12
    · have z12 : decide (n.ps.length ≤ 12) = true := decide_eq_true h12
      have z12' : decide ((n.ps.length : Int) ≤ 12) = true := decide_eq_true (by omega)
      rw [z8, z12, Bool.true_and]
      go_enter Tryz.func5, Tryz.ntmps5
      go_wp2
      go_ret
      exact ⟨by first | rfl | (rw [z12']; rfl) | (rw [z12]; rfl) | simp [z12'], B0.out⟩
    · have z12 : decide (n.ps.length ≤ 12) = false := decide_eq_false h12
      have z12' : decide ((n.ps.length : Int) ≤ 12) = false := decide_eq_false (by omega)
      rw [z8, z12, Bool.true_and]
      go_enter Tryz.func5, Tryz.ntmps5
      go_wp2
      go_ret
      exact ⟨by first | rfl | (rw [z12']; rfl) | (rw [z12]; rfl) | simp [z12'], B0.out⟩
  · have z8 : decide (8 < n.ps.length) = false := decide_eq_false h8
    rw [z8, Bool.false_and]
    go_enter Tryz.func5, Tryz.ntmps5
    go_wp2
    go_ret
    exact ⟨rfl, B0.out⟩

set_option maxHeartbeats 8000000 in
set_option maxRecDepth 100000 in
theorem commoner_any (n : NetV) (w : World) (hr : NetR w n) (hT : Bt.Tab w) :
    Calls Tryz.prog 10 #[.agg #[.string n.nm, .slice n.PA n.ps.length n.pc, .slice n.TA n.ts.length n.tc]] w (fun e w' => e = .returned (.tuple #[.bool (comV n), .int .i64 (minE n)]) ∧ Below w.heap.size w w') := by
  have CM : Hid (∀ W, Below w.heap.size w W → Calls Tryz.prog 7 #[.agg #[.string n.nm, .slice n.PA n.ps.length n.pc, .slice n.TA n.ts.length n.tc]] W (MinPE W.heap.size W (minLs n true) (minE n))) := fun W hW => siphonsE_any n W (hr.below hW (Nat.le_refl _))
  have CG : Hid (∀ W k, Below w.heap.size w W → Calls Tryz.prog 21 #[.agg #[.string n.nm, .slice n.PA n.ps.length n.pc, .slice n.TA n.ts.length n.tc], .int .u64 ((Bt.ug (minLs n true) k).1 : Nat)] W (VPost W.heap.size W (.int .u64 (maxG n false (Bt.ug (minLs n true) k).1 : Nat)))) := fun W k hW => maxTrap_any n _ W (hr.below hW (Nat.le_refl _)) (Bt.ug (minLs n true) k).2
  have CI : Hid (∀ W, Below w.heap.size w W → Calls Tryz.prog 22 #[.agg #[.string n.nm, .slice n.PA n.ps.length n.pc, .slice n.TA n.ts.length n.tc]] W (IsPost W.heap.size W (initialN n))) := fun W hW => initialN_any n W (hr.below hW (Nat.le_refl _))
  have CK : Hid (∀ W k A c, Below w.heap.size w W → ReadsV W A (initialN n) → Calls Tryz.prog 20 #[.int .u64 (maxG n false (Bt.ug (minLs n true) k).1 : Nat), .slice A (initialN n).length c] W (VPost W.heap.size W (.bool (markB (maxG n false (Bt.ug (minLs n true) k).1) (initialN n))))) := fun W k A c hW hm => marked_any _ A (initialN n) c W hm (by have := ini_len (n := n); omega) (maxG_lt (Bt.ug (minLs n true) k).2) (tab_keep hT hW)
  have QV : Hid (minE n ≠ 0 → comV n = false) := fun h => if_neg h
  have QY : Hid (minE n = 0 → ∀ k, k < (minLs n true).length → markB (maxG n false (Bt.ug (minLs n true) k).1) (initialN n) = false → comV n = false) := fun h k hk e => by
    unfold comV comB
    rw [if_pos h, anyB_yes hk (by rw [e]; rfl)]
    rfl
  have QN : Hid (minE n = 0 → (∀ k, k < (minLs n true).length → markB (maxG n false (Bt.ug (minLs n true) k).1) (initialN n) = true) → comV n = true) := fun h e => by
    unfold comV comB
    rw [if_pos h, anyB_no fun k hk => by rw [e k hk]; rfl]
    rfl
  have HL : (minLs n true).length ≤ 5000 := minLs_len n true
  have RV : Hid (∀ k, k < (minLs n true).length → (Bt.vV (minLs n true))[k]? = some (.int .u64 (((Bt.ug (minLs n true) k).1 : Nat) : Int))) := fun k hk => vV_ug hk
  clear hr hT
  generalize comV n = cv at *
  generalize hmk : (fun k => markB (maxG n false (Bt.ug (minLs n true) k).1) (initialN n)) = mk at *
  have hmk' : ∀ k, markB (maxG n false (Bt.ug (minLs n true) k).1) (initialN n) = mk k := fun k => by rw [← hmk]
  simp only [hmk'] at *
  clear hmk hmk'
  generalize htv : (fun k => maxG n false (Bt.ug (minLs n true) k).1) = tv at *
  have htv' : ∀ k, maxG n false (Bt.ug (minLs n true) k).1 = tv k := fun k => by rw [← htv]
  simp only [htv'] at *
  clear htv htv'
  generalize initialN n = m0 at *
  generalize hug : (fun k => (Bt.ug (minLs n true) k).1) = ug at *
  have hug' : ∀ k, (Bt.ug (minLs n true) k).1 = ug k := fun k => by rw [← hug]
  simp only [hug'] at *
  clear hug hug'
  generalize minLs n true = L at *
  generalize minE n = mE at *
  have B0 : Hid (Below w.heap.size w (w.alloc (.cells #[.string n.nm, .slice n.PA n.ps.length n.pc, .slice n.TA n.ts.length n.tc] 25))) := ((Below.refl _ _).alloc (Nat.le_refl _) _)
  have q0 : (w.alloc (.cells #[.string n.nm, .slice n.PA n.ps.length n.pc, .slice n.TA n.ts.length n.tc] 25)).cell? ⟨w.heap.size, 0, none⟩ = some (.string n.nm) := by simp
  have q1 : (w.alloc (.cells #[.string n.nm, .slice n.PA n.ps.length n.pc, .slice n.TA n.ts.length n.tc] 25)).cell? ⟨w.heap.size, 1, none⟩ = some (.slice n.PA n.ps.length n.pc) := by simp
  have q2 : (w.alloc (.cells #[.string n.nm, .slice n.PA n.ps.length n.pc, .slice n.TA n.ts.length n.tc] 25)).cell? ⟨w.heap.size, 2, none⟩ = some (.slice n.TA n.ts.length n.tc) := by simp
  by_cases h0 : mE = 0
  rotate_left
  · have z0 : (mE != 0) = true := by simpa using h0
    have E := Lib.hid (QV.out h0)
    clear QV QY QN
    go_enter Tryz.func10, Tryz.ntmps10
    go_wp2_with fail
    refine (CM.out _ B0.out).mono ?_
    rintro e x1 ⟨A2, c2, rfl, R2, K⟩
    have q0 := keepc q0 K
    have q1 := keepc q1 K
    have q2 := keepc q2 K
    have Dx1 := Lib.hid (B0.out.trans (K.mono B0.out.size))
    clear K
    go_wp2
    (try go_ret2)
    exact ⟨by rw [E.out]; rfl, Dx1.out⟩
  subst h0
  have QY2 := Lib.hid (QY.out rfl)
  have QN2 := Lib.hid (QN.out rfl)
  clear QV QY QN
  go_enter Tryz.func10, Tryz.ntmps10
  go_wp2_with fail
  refine (CM.out _ B0.out).mono ?_
  rintro e x1 ⟨A2, c2, rfl, R2, K⟩
  have R2 := Lib.hid R2
  have q0 := keepc q0 K
  have q1 := keepc q1 K
  have q2 := keepc q2 K
  have Dx1 := Lib.hid (B0.out.trans (K.mono B0.out.size))
  clear K
  go_wp2_with fail
  go_loopw [18] (fun q wr => ∃ k : Nat, k ≤ L.length ∧ q = .int .i64 k ∧ Hid (∀ j, j < k → mk j = true) ∧ Hid (Below x1.heap.size x1 wr)) (fun q _ => L.length - (intOf q).toNat)
  case atStart => exact ⟨0, by omega, rfl, fun j hj => absurd hj (by omega), Below.refl _ _⟩
  case round =>
    obtain ⟨k, hk, rfl, HX, BJ⟩ := hrel
    have k0 := keepc q0 BJ.out
    have k1 := keepc q1 BJ.out
    have k2 := keepc q2 BJ.out
    have BG := Lib.hid (Dx1.out.trans (BJ.out.mono Dx1.out.size))
    clear q0 q1 q2
    by_cases hlt : k < L.length
    · obtain ⟨b2, o2, e2, hb2, hc2⟩ := (R2.out.below BJ.out (Nat.le_refl _)) k _ (RV.out k hlt)
      subst e2
      have CGk := Lib.hid (fun W hW => CG.out W k hW)
      have CKk := Lib.hid (fun W A c hW hm => CK.out W k A c hW hm)
      have QYk := Lib.hid (QY2.out k hlt)
      have HF : Hid (mk k = true → ∀ j, j < k + 1 → mk j = true) := fun h j hj => by
        by_cases e : j = k
        · rw [e]; exact h
        · exact HX.out j (by omega)
      clear CG CK QY2 HX
      generalize ug k = u at *
      generalize tv k = t at *
      generalize mk k = z at *
      cases z
      · have E := Lib.hid (QYk.out rfl)
        clear HF QYk
        go_upto_region 7 with fail
        refine wp_region_held_drew (S := fun w' => w'.cell? ⟨w.heap.size, 0, none⟩ = some (.string n.nm) ∧ w'.cell? ⟨w.heap.size, 1, none⟩ = some (.slice n.PA n.ps.length n.pc) ∧ w'.cell? ⟨w.heap.size, 2, none⟩ = some (.slice n.TA n.ts.length n.tc) ∧ w'.cell? ⟨b2, o2 + k, none⟩ = some (.int .u64 (u : Nat)) ∧ Hid (Below w.heap.size w w') ∧ Hid (Below x1.heap.size x1 w')) (by kernel_rfl) ?_ (fun hHeld => ?_)
        · exact ⟨k0, k1, k2, hc2, BG.out.drew, BJ.out.drew⟩
        refine wpAnyH_take (oi := ⟨_, _, _, _, _, _⟩) (i := 0) (v := ?_) rfl (by kernel_rfl) (by kernel_rfl) (by kernel_rfl) (fun _ _ _ h => h) (Or.inl ⟨by rfl, ?ya0⟩) (by assumption) ?ra0
        case ya0 => (intro w hSw; (try dsimp only at hSw); go_simp; (try with_reducible rfl))
        try simp only [Act.put, List.setIfInBounds_toArray, List.set_cons_zero, List.set_cons_succ]
        refine wpAnyH_take (oi := ⟨_, _, _, _, _, _⟩) (i := 1) (v := ?_) rfl (by kernel_rfl) (by kernel_rfl) (by kernel_rfl) (fun _ _ _ h => h) (Or.inl ⟨by rfl, ?ya1⟩) (by assumption) ?ra1
        case ya1 => (intro w hSw; (try dsimp only at hSw); go_simp; (try with_reducible rfl))
        try simp only [Act.put, List.setIfInBounds_toArray, List.set_cons_zero, List.set_cons_succ]
        refine wpAnyH_take (oi := ⟨_, _, _, _, _, _⟩) (i := 3) (v := ?_) rfl (by kernel_rfl) (by kernel_rfl) (by kernel_rfl) (fun _ _ _ h => h) (Or.inl ⟨by rfl, ?ya3⟩) (by assumption) ?ra3
        case ya3 => (intro w hSw; (try dsimp only at hSw); go_simp; (try with_reducible rfl))
        try simp only [Act.put, List.setIfInBounds_toArray, List.set_cons_zero, List.set_cons_succ]
        refine wpAnyH_ready (rs := [2]) (by kernel_rfl) (by simp) ?_
        refine AllReadyH.cons (o := ⟨_, _, _, _, _, _⟩) rfl (fun K hK => ?_) AllReadyH.nil
        go_simp
        go_at_call 21; refine (CGk.out _ hHeld.2.2.2.2.1.out).mono ?_; rintro e w4 ⟨rfl, K⟩; (try go_wp2_with fail)
        refine hK.out _ _ ?_ (fun hHeld2 => ?_)
        · exact ⟨keepc hHeld.1 K, keepc hHeld.2.1 K, keepc hHeld.2.2.1 K, keepc hHeld.2.2.2.1 K, hHeld.2.2.2.2.1.out.trans (K.mono hHeld.2.2.2.2.1.out.size), hHeld.2.2.2.2.2.out.trans (K.mono hHeld.2.2.2.2.2.out.size)⟩
        clear hK K hHeld
        have hHeld := hHeld2
        clear hHeld2
        try simp only [Act.put, List.setIfInBounds_toArray, List.set_cons_zero, List.set_cons_succ]
        refine wpAnyH_ready (rs := [4]) (by kernel_rfl) (by simp) ?_
        refine AllReadyH.cons (o := ⟨_, _, _, _, _, _⟩) rfl (fun K hK => ?_) AllReadyH.nil
        go_simp
        go_at_call 22; refine (CI.out _ hHeld.2.2.2.2.1.out).mono ?_; rintro e w5 ⟨A3, c3, rfl, R3, K⟩; have R3 := Lib.hid R3; (try go_wp2_with fail)
        refine hK.out _ _ ?_ (fun hHeld2 => ?_)
        · exact ⟨keepc hHeld.1 K, keepc hHeld.2.1 K, keepc hHeld.2.2.1 K, keepc hHeld.2.2.2.1 K, hHeld.2.2.2.2.1.out.trans (K.mono hHeld.2.2.2.2.1.out.size), hHeld.2.2.2.2.2.out.trans (K.mono hHeld.2.2.2.2.2.out.size)⟩
        clear hK K hHeld
        have hHeld := hHeld2
        clear hHeld2
        try simp only [Act.put, List.setIfInBounds_toArray, List.set_cons_zero, List.set_cons_succ]
        refine wpAnyH_ready (rs := [5]) (by kernel_rfl) (by simp) ?_
        refine AllReadyH.cons (o := ⟨_, _, _, _, _, _⟩) rfl (fun K hK => ?_) AllReadyH.nil
        go_simp
        go_at_call 20; refine (CKk.out _ A3 c3 hHeld.2.2.2.2.1.out R3.out).mono ?_; rintro e w6 ⟨rfl, K⟩; (try go_wp2_with fail)
        refine hK.out _ _ ?_ (fun hHeld2 => ?_)
        · exact ⟨keepc hHeld.1 K, keepc hHeld.2.1 K, keepc hHeld.2.2.1 K, keepc hHeld.2.2.2.1 K, hHeld.2.2.2.2.1.out.trans (K.mono hHeld.2.2.2.2.1.out.size), hHeld.2.2.2.2.2.out.trans (K.mono hHeld.2.2.2.2.2.out.size)⟩
        clear hK K hHeld
        have hHeld := hHeld2
        clear hHeld2
        try simp only [Act.put, List.setIfInBounds_toArray, List.set_cons_zero, List.set_cons_succ]
        refine wpAnyH_take (oi := ⟨_, _, _, _, _, _⟩) (i := 6) (v := ?_) rfl (by kernel_rfl) (by kernel_rfl) (by kernel_rfl) (fun _ _ _ h => h) (Or.inl ⟨by rfl, ?ya6⟩) (by assumption) ?ra6
        case ya6 => (intro w hSw; (try dsimp only at hSw); go_simp; (try with_reducible rfl))
        try simp only [Act.put, List.setIfInBounds_toArray, List.set_cons_zero, List.set_cons_succ]
        refine wpAnyH_done (by kernel_rfl) ?_ _
        have B9 := hHeld.2.2.2.2.1
        clear hHeld
        go_wp2
        go_ret2
        exact ⟨by rw [E.out]; rfl, B9.out⟩
      · have HF2 := Lib.hid (HF.out rfl)
        clear HF QYk
        go_upto_region 7 with fail
        refine wp_region_held_drew (S := fun w' => w'.cell? ⟨w.heap.size, 0, none⟩ = some (.string n.nm) ∧ w'.cell? ⟨w.heap.size, 1, none⟩ = some (.slice n.PA n.ps.length n.pc) ∧ w'.cell? ⟨w.heap.size, 2, none⟩ = some (.slice n.TA n.ts.length n.tc) ∧ w'.cell? ⟨b2, o2 + k, none⟩ = some (.int .u64 (u : Nat)) ∧ Hid (Below w.heap.size w w') ∧ Hid (Below x1.heap.size x1 w')) (by kernel_rfl) ?_ (fun hHeld => ?_)
        · exact ⟨k0, k1, k2, hc2, BG.out.drew, BJ.out.drew⟩
        refine wpAnyH_take (oi := ⟨_, _, _, _, _, _⟩) (i := 0) (v := ?_) rfl (by kernel_rfl) (by kernel_rfl) (by kernel_rfl) (fun _ _ _ h => h) (Or.inl ⟨by rfl, ?yb0⟩) (by assumption) ?rb0
        case yb0 => (intro w hSw; (try dsimp only at hSw); go_simp; (try with_reducible rfl))
        try simp only [Act.put, List.setIfInBounds_toArray, List.set_cons_zero, List.set_cons_succ]
        refine wpAnyH_take (oi := ⟨_, _, _, _, _, _⟩) (i := 1) (v := ?_) rfl (by kernel_rfl) (by kernel_rfl) (by kernel_rfl) (fun _ _ _ h => h) (Or.inl ⟨by rfl, ?yb1⟩) (by assumption) ?rb1
        case yb1 => (intro w hSw; (try dsimp only at hSw); go_simp; (try with_reducible rfl))
        try simp only [Act.put, List.setIfInBounds_toArray, List.set_cons_zero, List.set_cons_succ]
        refine wpAnyH_take (oi := ⟨_, _, _, _, _, _⟩) (i := 3) (v := ?_) rfl (by kernel_rfl) (by kernel_rfl) (by kernel_rfl) (fun _ _ _ h => h) (Or.inl ⟨by rfl, ?yb3⟩) (by assumption) ?rb3
        case yb3 => (intro w hSw; (try dsimp only at hSw); go_simp; (try with_reducible rfl))
        try simp only [Act.put, List.setIfInBounds_toArray, List.set_cons_zero, List.set_cons_succ]
        refine wpAnyH_ready (rs := [2]) (by kernel_rfl) (by simp) ?_
        refine AllReadyH.cons (o := ⟨_, _, _, _, _, _⟩) rfl (fun K hK => ?_) AllReadyH.nil
        go_simp
        go_at_call 21; refine (CGk.out _ hHeld.2.2.2.2.1.out).mono ?_; rintro e w4 ⟨rfl, K⟩; (try go_wp2_with fail)
        refine hK.out _ _ ?_ (fun hHeld2 => ?_)
        · exact ⟨keepc hHeld.1 K, keepc hHeld.2.1 K, keepc hHeld.2.2.1 K, keepc hHeld.2.2.2.1 K, hHeld.2.2.2.2.1.out.trans (K.mono hHeld.2.2.2.2.1.out.size), hHeld.2.2.2.2.2.out.trans (K.mono hHeld.2.2.2.2.2.out.size)⟩
        clear hK K hHeld
        have hHeld := hHeld2
        clear hHeld2
        try simp only [Act.put, List.setIfInBounds_toArray, List.set_cons_zero, List.set_cons_succ]
        refine wpAnyH_ready (rs := [4]) (by kernel_rfl) (by simp) ?_
        refine AllReadyH.cons (o := ⟨_, _, _, _, _, _⟩) rfl (fun K hK => ?_) AllReadyH.nil
        go_simp
        go_at_call 22; refine (CI.out _ hHeld.2.2.2.2.1.out).mono ?_; rintro e w5 ⟨A3, c3, rfl, R3, K⟩; have R3 := Lib.hid R3; (try go_wp2_with fail)
        refine hK.out _ _ ?_ (fun hHeld2 => ?_)
        · exact ⟨keepc hHeld.1 K, keepc hHeld.2.1 K, keepc hHeld.2.2.1 K, keepc hHeld.2.2.2.1 K, hHeld.2.2.2.2.1.out.trans (K.mono hHeld.2.2.2.2.1.out.size), hHeld.2.2.2.2.2.out.trans (K.mono hHeld.2.2.2.2.2.out.size)⟩
        clear hK K hHeld
        have hHeld := hHeld2
        clear hHeld2
        try simp only [Act.put, List.setIfInBounds_toArray, List.set_cons_zero, List.set_cons_succ]
        refine wpAnyH_ready (rs := [5]) (by kernel_rfl) (by simp) ?_
        refine AllReadyH.cons (o := ⟨_, _, _, _, _, _⟩) rfl (fun K hK => ?_) AllReadyH.nil
        go_simp
        go_at_call 20; refine (CKk.out _ A3 c3 hHeld.2.2.2.2.1.out R3.out).mono ?_; rintro e w6 ⟨rfl, K⟩; (try go_wp2_with fail)
        refine hK.out _ _ ?_ (fun hHeld2 => ?_)
        · exact ⟨keepc hHeld.1 K, keepc hHeld.2.1 K, keepc hHeld.2.2.1 K, keepc hHeld.2.2.2.1 K, hHeld.2.2.2.2.1.out.trans (K.mono hHeld.2.2.2.2.1.out.size), hHeld.2.2.2.2.2.out.trans (K.mono hHeld.2.2.2.2.2.out.size)⟩
        clear hK K hHeld
        have hHeld := hHeld2
        clear hHeld2
        try simp only [Act.put, List.setIfInBounds_toArray, List.set_cons_zero, List.set_cons_succ]
        refine wpAnyH_take (oi := ⟨_, _, _, _, _, _⟩) (i := 6) (v := ?_) rfl (by kernel_rfl) (by kernel_rfl) (by kernel_rfl) (fun _ _ _ h => h) (Or.inl ⟨by rfl, ?yb6⟩) (by assumption) ?rb6
        case yb6 => (intro w hSw; (try dsimp only at hSw); go_simp; (try with_reducible rfl))
        try simp only [Act.put, List.setIfInBounds_toArray, List.set_cons_zero, List.set_cons_succ]
        refine wpAnyH_done (by kernel_rfl) ?_ _
        have B9 := hHeld.2.2.2.2.2
        clear hHeld
        go_wp2
        go_roundw
        case rel => exact ⟨k + 1, by omega, by go_num, HF2, by first | exact B9 | exact below_drewN B9.out _⟩
        case measure => simp [intOf]; omega
    · have E := Lib.hid (QN2.out fun j hj => HX.out j (by omega))
      clear HX QY2 QN2
      go_wp2
      go_ret2
      exact ⟨by rw [E.out]; rfl, BG.out⟩

set_option maxHeartbeats 8000000 in
set_option maxRecDepth 100000 in
theorem rcommoner_any (n : NetV) (w : World) (hr : NetR w n) (h8 : n.ps.length ≤ 8 ∨ 12 < n.ps.length) :
    Calls Tryz.prog 11 #[.agg #[.string n.nm, .slice n.PA n.ps.length n.pc, .slice n.TA n.ts.length n.tc]] w (fun e w' => e = .returned (.tuple #[.bool (comV n), .int .i64 (minE n)]) ∧ Below w.heap.size w w') := by
  have CM : Hid (∀ W, Below w.heap.size w W → Calls Tryz.prog 8 #[.agg #[.string n.nm, .slice n.PA n.ps.length n.pc, .slice n.TA n.ts.length n.tc], .bool true] W (MinPE W.heap.size W (minLs n true) (minE n))) := fun W hW => rminE_any n true W (hr.below hW (Nat.le_refl _)) h8
  have CG : Hid (∀ W k, Below w.heap.size w W → Calls Tryz.prog 24 #[.agg #[.string n.nm, .slice n.PA n.ps.length n.pc, .slice n.TA n.ts.length n.tc], .int .u64 ((Bt.ug (minLs n true) k).1 : Nat), .bool false] W (VPost W.heap.size W (.int .u64 (maxG n false (Bt.ug (minLs n true) k).1 : Nat)))) := fun W k hW => rgreatest_any n _ false W (hr.below hW (Nat.le_refl _)) (Bt.ug (minLs n true) k).2
  have CI : Hid (∀ W, Below w.heap.size w W → Calls Tryz.prog 25 #[.agg #[.string n.nm, .slice n.PA n.ps.length n.pc, .slice n.TA n.ts.length n.tc]] W (IsPost W.heap.size W (initialN n))) := fun W hW => rinitialN_any n W (hr.below hW (Nat.le_refl _))
  have CK : Hid (∀ W k A c, Below w.heap.size w W → ReadsV W A (initialN n) → Calls Tryz.prog 23 #[.int .u64 (maxG n false (Bt.ug (minLs n true) k).1 : Nat), .slice A (initialN n).length c] W (VPost W.heap.size W (.bool (markB (maxG n false (Bt.ug (minLs n true) k).1) (initialN n))))) := fun W k A c hW hm => rmarked_any _ A (initialN n) c W hm (by have := ini_len (n := n); omega) (maxG_lt (Bt.ug (minLs n true) k).2)
  have QV : Hid (minE n ≠ 0 → comV n = false) := fun h => if_neg h
  have QY : Hid (minE n = 0 → ∀ k, k < (minLs n true).length → markB (maxG n false (Bt.ug (minLs n true) k).1) (initialN n) = false → comV n = false) := fun h k hk e => by
    unfold comV comB
    rw [if_pos h, anyB_yes hk (by rw [e]; rfl)]
    rfl
  have QN : Hid (minE n = 0 → (∀ k, k < (minLs n true).length → markB (maxG n false (Bt.ug (minLs n true) k).1) (initialN n) = true) → comV n = true) := fun h e => by
    unfold comV comB
    rw [if_pos h, anyB_no fun k hk => by rw [e k hk]; rfl]
    rfl
  have HL : (minLs n true).length ≤ 5000 := minLs_len n true
  have RV : Hid (∀ k, k < (minLs n true).length → (Bt.vV (minLs n true))[k]? = some (.int .u64 (((Bt.ug (minLs n true) k).1 : Nat) : Int))) := fun k hk => vV_ug hk
  clear hr
  generalize comV n = cv at *
  generalize hmk : (fun k => markB (maxG n false (Bt.ug (minLs n true) k).1) (initialN n)) = mk at *
  have hmk' : ∀ k, markB (maxG n false (Bt.ug (minLs n true) k).1) (initialN n) = mk k := fun k => by rw [← hmk]
  simp only [hmk'] at *
  clear hmk hmk'
  generalize htv : (fun k => maxG n false (Bt.ug (minLs n true) k).1) = tv at *
  have htv' : ∀ k, maxG n false (Bt.ug (minLs n true) k).1 = tv k := fun k => by rw [← htv]
  simp only [htv'] at *
  clear htv htv'
  generalize initialN n = m0 at *
  generalize hug : (fun k => (Bt.ug (minLs n true) k).1) = ug at *
  have hug' : ∀ k, (Bt.ug (minLs n true) k).1 = ug k := fun k => by rw [← hug]
  simp only [hug'] at *
  clear hug hug'
  generalize minLs n true = L at *
  generalize minE n = mE at *
  have B0 : Hid (Below w.heap.size w (w.alloc (.cells #[.string n.nm, .slice n.PA n.ps.length n.pc, .slice n.TA n.ts.length n.tc] 25))) := ((Below.refl _ _).alloc (Nat.le_refl _) _)
  have q0 : (w.alloc (.cells #[.string n.nm, .slice n.PA n.ps.length n.pc, .slice n.TA n.ts.length n.tc] 25)).cell? ⟨w.heap.size, 0, none⟩ = some (.string n.nm) := by simp
  have q1 : (w.alloc (.cells #[.string n.nm, .slice n.PA n.ps.length n.pc, .slice n.TA n.ts.length n.tc] 25)).cell? ⟨w.heap.size, 1, none⟩ = some (.slice n.PA n.ps.length n.pc) := by simp
  have q2 : (w.alloc (.cells #[.string n.nm, .slice n.PA n.ps.length n.pc, .slice n.TA n.ts.length n.tc] 25)).cell? ⟨w.heap.size, 2, none⟩ = some (.slice n.TA n.ts.length n.tc) := by simp
  by_cases h0 : mE = 0
  rotate_left
  · have z0 : (mE != 0) = true := by simpa using h0
    have E := Lib.hid (QV.out h0)
    clear QV QY QN
    go_enter Tryz.func11, Tryz.ntmps11
    go_wp2_with fail
    refine (CM.out _ B0.out).mono ?_
    rintro e x1 ⟨A2, c2, rfl, R2, K⟩
    have q0 := keepc q0 K
    have q1 := keepc q1 K
    have q2 := keepc q2 K
    have Dx1 := Lib.hid (B0.out.trans (K.mono B0.out.size))
    clear K
    go_wp2
    (try go_ret2)
    exact ⟨by rw [E.out]; rfl, Dx1.out⟩
  subst h0
  have QY2 := Lib.hid (QY.out rfl)
  have QN2 := Lib.hid (QN.out rfl)
  clear QV QY QN
  go_enter Tryz.func11, Tryz.ntmps11
  go_wp2_with fail
  refine (CM.out _ B0.out).mono ?_
  rintro e x1 ⟨A2, c2, rfl, R2, K⟩
  have R2 := Lib.hid R2
  have q0 := keepc q0 K
  have q1 := keepc q1 K
  have q2 := keepc q2 K
  have Dx1 := Lib.hid (B0.out.trans (K.mono B0.out.size))
  clear K
  go_wp2_with fail
  go_loopw [6] (fun q wr => ∃ k : Nat, k ≤ L.length ∧ q = .int .i64 k ∧ Hid (∀ j, j < k → mk j = true) ∧ Hid (Below x1.heap.size x1 wr)) (fun q _ => L.length - (intOf q).toNat)
  case atStart => exact ⟨0, by omega, rfl, fun j hj => absurd hj (by omega), Below.refl _ _⟩
  case round =>
    obtain ⟨k, hk, rfl, HX, BJ⟩ := hrel
    have k0 := keepc q0 BJ.out
    have k1 := keepc q1 BJ.out
    have k2 := keepc q2 BJ.out
    have BG := Lib.hid (Dx1.out.trans (BJ.out.mono Dx1.out.size))
    clear q0 q1 q2
    by_cases hlt : k < L.length
    · obtain ⟨b2, o2, e2, hb2, hc2⟩ := (R2.out.below BJ.out (Nat.le_refl _)) k _ (RV.out k hlt)
      subst e2
      have CGk := Lib.hid (fun W hW => CG.out W k hW)
      have CKk := Lib.hid (fun W A c hW hm => CK.out W k A c hW hm)
      have QYk := Lib.hid (QY2.out k hlt)
      have HF : Hid (mk k = true → ∀ j, j < k + 1 → mk j = true) := fun h j hj => by
        by_cases e : j = k
        · rw [e]; exact h
        · exact HX.out j (by omega)
      clear CG CK QY2 HX
      generalize ug k = u at *
      generalize tv k = t at *
      generalize mk k = z at *
      cases z
      · have E := Lib.hid (QYk.out rfl)
        clear HF QYk
        go_upto_region 7 with fail
        refine wp_region_held_drew (S := fun w' => w'.cell? ⟨w.heap.size, 0, none⟩ = some (.string n.nm) ∧ w'.cell? ⟨w.heap.size, 1, none⟩ = some (.slice n.PA n.ps.length n.pc) ∧ w'.cell? ⟨w.heap.size, 2, none⟩ = some (.slice n.TA n.ts.length n.tc) ∧ w'.cell? ⟨b2, o2 + k, none⟩ = some (.int .u64 (u : Nat)) ∧ Hid (Below w.heap.size w w') ∧ Hid (Below x1.heap.size x1 w')) (by kernel_rfl) ?_ (fun hHeld => ?_)
        · exact ⟨k0, k1, k2, hc2, BG.out.drew, BJ.out.drew⟩
        refine wpAnyH_take (oi := ⟨_, _, _, _, _, _⟩) (i := 0) (v := ?_) rfl (by kernel_rfl) (by kernel_rfl) (by kernel_rfl) (fun _ _ _ h => h) (Or.inl ⟨by rfl, ?ya0⟩) (by assumption) ?ra0
        case ya0 => (intro w hSw; (try dsimp only at hSw); go_simp; (try with_reducible rfl))
        try simp only [Act.put, List.setIfInBounds_toArray, List.set_cons_zero, List.set_cons_succ]
        refine wpAnyH_take (oi := ⟨_, _, _, _, _, _⟩) (i := 1) (v := ?_) rfl (by kernel_rfl) (by kernel_rfl) (by kernel_rfl) (fun _ _ _ h => h) (Or.inl ⟨by rfl, ?ya1⟩) (by assumption) ?ra1
        case ya1 => (intro w hSw; (try dsimp only at hSw); go_simp; (try with_reducible rfl))
        try simp only [Act.put, List.setIfInBounds_toArray, List.set_cons_zero, List.set_cons_succ]
        refine wpAnyH_take (oi := ⟨_, _, _, _, _, _⟩) (i := 2) (v := ?_) rfl (by kernel_rfl) (by kernel_rfl) (by kernel_rfl) (fun _ _ _ h => h) (Or.inl ⟨by rfl, ?ya2⟩) (by assumption) ?ra2
        case ya2 => (intro w hSw; (try dsimp only at hSw); go_simp; (try with_reducible rfl))
        try simp only [Act.put, List.setIfInBounds_toArray, List.set_cons_zero, List.set_cons_succ]
        refine wpAnyH_take (oi := ⟨_, _, _, _, _, _⟩) (i := 3) (v := ?_) rfl (by kernel_rfl) (by kernel_rfl) (by kernel_rfl) (fun _ _ _ h => h) (Or.inl ⟨by rfl, ?ya3⟩) (by assumption) ?ra3
        case ya3 => (intro w hSw; (try dsimp only at hSw); go_simp; (try with_reducible rfl))
        try simp only [Act.put, List.setIfInBounds_toArray, List.set_cons_zero, List.set_cons_succ]
        refine wpAnyH_take (oi := ⟨_, _, _, _, _, _⟩) (i := 4) (v := ?_) rfl (by kernel_rfl) (by kernel_rfl) (by kernel_rfl) (fun _ _ _ h => h) (Or.inl ⟨by rfl, ?ya4⟩) (by assumption) ?ra4
        case ya4 => (intro w hSw; (try dsimp only at hSw); go_simp; (try with_reducible rfl))
        try simp only [Act.put, List.setIfInBounds_toArray, List.set_cons_zero, List.set_cons_succ]
        refine wpAnyH_take (oi := ⟨_, _, _, _, _, _⟩) (i := 6) (v := ?_) rfl (by kernel_rfl) (by kernel_rfl) (by kernel_rfl) (fun _ _ _ h => h) (Or.inl ⟨by rfl, ?ya6⟩) (by assumption) ?ra6
        case ya6 => (intro w hSw; (try dsimp only at hSw); go_simp; (try with_reducible rfl))
        try simp only [Act.put, List.setIfInBounds_toArray, List.set_cons_zero, List.set_cons_succ]
        refine wpAnyH_ready (rs := [5]) (by kernel_rfl) (by simp) ?_
        refine AllReadyH.cons (o := ⟨_, _, _, _, _, _⟩) rfl (fun K hK => ?_) AllReadyH.nil
        go_simp
        go_at_call 24; refine (CGk.out _ hHeld.2.2.2.2.1.out).mono ?_; rintro e w4 ⟨rfl, K⟩; (try go_wp2_with fail)
        refine hK.out _ _ ?_ (fun hHeld2 => ?_)
        · exact ⟨keepc hHeld.1 K, keepc hHeld.2.1 K, keepc hHeld.2.2.1 K, keepc hHeld.2.2.2.1 K, hHeld.2.2.2.2.1.out.trans (K.mono hHeld.2.2.2.2.1.out.size), hHeld.2.2.2.2.2.out.trans (K.mono hHeld.2.2.2.2.2.out.size)⟩
        clear hK K hHeld
        have hHeld := hHeld2
        clear hHeld2
        try simp only [Act.put, List.setIfInBounds_toArray, List.set_cons_zero, List.set_cons_succ]
        refine wpAnyH_ready (rs := [7]) (by kernel_rfl) (by simp) ?_
        refine AllReadyH.cons (o := ⟨_, _, _, _, _, _⟩) rfl (fun K hK => ?_) AllReadyH.nil
        go_simp
        go_at_call 25; refine (CI.out _ hHeld.2.2.2.2.1.out).mono ?_; rintro e w5 ⟨A3, c3, rfl, R3, K⟩; have R3 := Lib.hid R3; (try go_wp2_with fail)
        refine hK.out _ _ ?_ (fun hHeld2 => ?_)
        · exact ⟨keepc hHeld.1 K, keepc hHeld.2.1 K, keepc hHeld.2.2.1 K, keepc hHeld.2.2.2.1 K, hHeld.2.2.2.2.1.out.trans (K.mono hHeld.2.2.2.2.1.out.size), hHeld.2.2.2.2.2.out.trans (K.mono hHeld.2.2.2.2.2.out.size)⟩
        clear hK K hHeld
        have hHeld := hHeld2
        clear hHeld2
        try simp only [Act.put, List.setIfInBounds_toArray, List.set_cons_zero, List.set_cons_succ]
        refine wpAnyH_ready (rs := [8]) (by kernel_rfl) (by simp) ?_
        refine AllReadyH.cons (o := ⟨_, _, _, _, _, _⟩) rfl (fun K hK => ?_) AllReadyH.nil
        go_simp
        go_at_call 23; refine (CKk.out _ A3 c3 hHeld.2.2.2.2.1.out R3.out).mono ?_; rintro e w6 ⟨rfl, K⟩; (try go_wp2_with fail)
        refine hK.out _ _ ?_ (fun hHeld2 => ?_)
        · exact ⟨keepc hHeld.1 K, keepc hHeld.2.1 K, keepc hHeld.2.2.1 K, keepc hHeld.2.2.2.1 K, hHeld.2.2.2.2.1.out.trans (K.mono hHeld.2.2.2.2.1.out.size), hHeld.2.2.2.2.2.out.trans (K.mono hHeld.2.2.2.2.2.out.size)⟩
        clear hK K hHeld
        have hHeld := hHeld2
        clear hHeld2
        try simp only [Act.put, List.setIfInBounds_toArray, List.set_cons_zero, List.set_cons_succ]
        refine wpAnyH_take (oi := ⟨_, _, _, _, _, _⟩) (i := 9) (v := ?_) rfl (by kernel_rfl) (by kernel_rfl) (by kernel_rfl) (fun _ _ _ h => h) (Or.inl ⟨by rfl, ?ya9⟩) (by assumption) ?ra9
        case ya9 => (intro w hSw; (try dsimp only at hSw); go_simp; (try with_reducible rfl))
        try simp only [Act.put, List.setIfInBounds_toArray, List.set_cons_zero, List.set_cons_succ]
        refine wpAnyH_done (by kernel_rfl) ?_ _
        have B9 := hHeld.2.2.2.2.1
        clear hHeld
        go_wp2
        go_ret2
        exact ⟨by rw [E.out]; rfl, B9.out⟩
      · have HF2 := Lib.hid (HF.out rfl)
        clear HF QYk
        go_upto_region 7 with fail
        refine wp_region_held_drew (S := fun w' => w'.cell? ⟨w.heap.size, 0, none⟩ = some (.string n.nm) ∧ w'.cell? ⟨w.heap.size, 1, none⟩ = some (.slice n.PA n.ps.length n.pc) ∧ w'.cell? ⟨w.heap.size, 2, none⟩ = some (.slice n.TA n.ts.length n.tc) ∧ w'.cell? ⟨b2, o2 + k, none⟩ = some (.int .u64 (u : Nat)) ∧ Hid (Below w.heap.size w w') ∧ Hid (Below x1.heap.size x1 w')) (by kernel_rfl) ?_ (fun hHeld => ?_)
        · exact ⟨k0, k1, k2, hc2, BG.out.drew, BJ.out.drew⟩
        refine wpAnyH_take (oi := ⟨_, _, _, _, _, _⟩) (i := 0) (v := ?_) rfl (by kernel_rfl) (by kernel_rfl) (by kernel_rfl) (fun _ _ _ h => h) (Or.inl ⟨by rfl, ?yb0⟩) (by assumption) ?rb0
        case yb0 => (intro w hSw; (try dsimp only at hSw); go_simp; (try with_reducible rfl))
        try simp only [Act.put, List.setIfInBounds_toArray, List.set_cons_zero, List.set_cons_succ]
        refine wpAnyH_take (oi := ⟨_, _, _, _, _, _⟩) (i := 1) (v := ?_) rfl (by kernel_rfl) (by kernel_rfl) (by kernel_rfl) (fun _ _ _ h => h) (Or.inl ⟨by rfl, ?yb1⟩) (by assumption) ?rb1
        case yb1 => (intro w hSw; (try dsimp only at hSw); go_simp; (try with_reducible rfl))
        try simp only [Act.put, List.setIfInBounds_toArray, List.set_cons_zero, List.set_cons_succ]
        refine wpAnyH_take (oi := ⟨_, _, _, _, _, _⟩) (i := 2) (v := ?_) rfl (by kernel_rfl) (by kernel_rfl) (by kernel_rfl) (fun _ _ _ h => h) (Or.inl ⟨by rfl, ?yb2⟩) (by assumption) ?rb2
        case yb2 => (intro w hSw; (try dsimp only at hSw); go_simp; (try with_reducible rfl))
        try simp only [Act.put, List.setIfInBounds_toArray, List.set_cons_zero, List.set_cons_succ]
        refine wpAnyH_take (oi := ⟨_, _, _, _, _, _⟩) (i := 3) (v := ?_) rfl (by kernel_rfl) (by kernel_rfl) (by kernel_rfl) (fun _ _ _ h => h) (Or.inl ⟨by rfl, ?yb3⟩) (by assumption) ?rb3
        case yb3 => (intro w hSw; (try dsimp only at hSw); go_simp; (try with_reducible rfl))
        try simp only [Act.put, List.setIfInBounds_toArray, List.set_cons_zero, List.set_cons_succ]
        refine wpAnyH_take (oi := ⟨_, _, _, _, _, _⟩) (i := 4) (v := ?_) rfl (by kernel_rfl) (by kernel_rfl) (by kernel_rfl) (fun _ _ _ h => h) (Or.inl ⟨by rfl, ?yb4⟩) (by assumption) ?rb4
        case yb4 => (intro w hSw; (try dsimp only at hSw); go_simp; (try with_reducible rfl))
        try simp only [Act.put, List.setIfInBounds_toArray, List.set_cons_zero, List.set_cons_succ]
        refine wpAnyH_take (oi := ⟨_, _, _, _, _, _⟩) (i := 6) (v := ?_) rfl (by kernel_rfl) (by kernel_rfl) (by kernel_rfl) (fun _ _ _ h => h) (Or.inl ⟨by rfl, ?yb6⟩) (by assumption) ?rb6
        case yb6 => (intro w hSw; (try dsimp only at hSw); go_simp; (try with_reducible rfl))
        try simp only [Act.put, List.setIfInBounds_toArray, List.set_cons_zero, List.set_cons_succ]
        refine wpAnyH_ready (rs := [5]) (by kernel_rfl) (by simp) ?_
        refine AllReadyH.cons (o := ⟨_, _, _, _, _, _⟩) rfl (fun K hK => ?_) AllReadyH.nil
        go_simp
        go_at_call 24; refine (CGk.out _ hHeld.2.2.2.2.1.out).mono ?_; rintro e w4 ⟨rfl, K⟩; (try go_wp2_with fail)
        refine hK.out _ _ ?_ (fun hHeld2 => ?_)
        · exact ⟨keepc hHeld.1 K, keepc hHeld.2.1 K, keepc hHeld.2.2.1 K, keepc hHeld.2.2.2.1 K, hHeld.2.2.2.2.1.out.trans (K.mono hHeld.2.2.2.2.1.out.size), hHeld.2.2.2.2.2.out.trans (K.mono hHeld.2.2.2.2.2.out.size)⟩
        clear hK K hHeld
        have hHeld := hHeld2
        clear hHeld2
        try simp only [Act.put, List.setIfInBounds_toArray, List.set_cons_zero, List.set_cons_succ]
        refine wpAnyH_ready (rs := [7]) (by kernel_rfl) (by simp) ?_
        refine AllReadyH.cons (o := ⟨_, _, _, _, _, _⟩) rfl (fun K hK => ?_) AllReadyH.nil
        go_simp
        go_at_call 25; refine (CI.out _ hHeld.2.2.2.2.1.out).mono ?_; rintro e w5 ⟨A3, c3, rfl, R3, K⟩; have R3 := Lib.hid R3; (try go_wp2_with fail)
        refine hK.out _ _ ?_ (fun hHeld2 => ?_)
        · exact ⟨keepc hHeld.1 K, keepc hHeld.2.1 K, keepc hHeld.2.2.1 K, keepc hHeld.2.2.2.1 K, hHeld.2.2.2.2.1.out.trans (K.mono hHeld.2.2.2.2.1.out.size), hHeld.2.2.2.2.2.out.trans (K.mono hHeld.2.2.2.2.2.out.size)⟩
        clear hK K hHeld
        have hHeld := hHeld2
        clear hHeld2
        try simp only [Act.put, List.setIfInBounds_toArray, List.set_cons_zero, List.set_cons_succ]
        refine wpAnyH_ready (rs := [8]) (by kernel_rfl) (by simp) ?_
        refine AllReadyH.cons (o := ⟨_, _, _, _, _, _⟩) rfl (fun K hK => ?_) AllReadyH.nil
        go_simp
        go_at_call 23; refine (CKk.out _ A3 c3 hHeld.2.2.2.2.1.out R3.out).mono ?_; rintro e w6 ⟨rfl, K⟩; (try go_wp2_with fail)
        refine hK.out _ _ ?_ (fun hHeld2 => ?_)
        · exact ⟨keepc hHeld.1 K, keepc hHeld.2.1 K, keepc hHeld.2.2.1 K, keepc hHeld.2.2.2.1 K, hHeld.2.2.2.2.1.out.trans (K.mono hHeld.2.2.2.2.1.out.size), hHeld.2.2.2.2.2.out.trans (K.mono hHeld.2.2.2.2.2.out.size)⟩
        clear hK K hHeld
        have hHeld := hHeld2
        clear hHeld2
        try simp only [Act.put, List.setIfInBounds_toArray, List.set_cons_zero, List.set_cons_succ]
        refine wpAnyH_take (oi := ⟨_, _, _, _, _, _⟩) (i := 9) (v := ?_) rfl (by kernel_rfl) (by kernel_rfl) (by kernel_rfl) (fun _ _ _ h => h) (Or.inl ⟨by rfl, ?yb9⟩) (by assumption) ?rb9
        case yb9 => (intro w hSw; (try dsimp only at hSw); go_simp; (try with_reducible rfl))
        try simp only [Act.put, List.setIfInBounds_toArray, List.set_cons_zero, List.set_cons_succ]
        refine wpAnyH_done (by kernel_rfl) ?_ _
        have B9 := hHeld.2.2.2.2.2
        clear hHeld
        go_wp2
        go_roundw
        case rel => exact ⟨k + 1, by omega, by go_num, HF2, by first | exact B9 | exact below_drewN B9.out _⟩
        case measure => simp [intOf]; omega
    · have E := Lib.hid (QN2.out fun j hj => HX.out j (by omega))
      clear HX QY2 QN2
      go_wp2
      go_ret2
      exact ⟨by rw [E.out]; rfl, BG.out⟩

set_option maxHeartbeats 16000000 in
set_option maxRecDepth 100000 in
theorem lists_law (n : NetV) (w : World) (hr : NetW w n) (hT : Bt.Tab w) :
    Calls Tryz.prog 3 #[.agg #[.string n.nm, .slice n.PA n.ps.length n.pc, .slice n.TA n.ts.length n.tc]] w fun e w' => e = .returned (.bool true) ∧ Below w.heap.size w w' := by
  have CS : Hid (∀ W, Below w.heap.size w W → Calls Tryz.prog 4 #[.agg #[.string n.nm, .slice n.PA n.ps.length n.pc, .slice n.TA n.ts.length n.tc]] W (SmallPost W.heap.size W n)) := fun W hW => small_any n W (hr.below hW (Nat.le_refl _))
  have CX : Hid (∀ W, Calls Tryz.prog 6 #[] W (VPost W.heap.size W (.bool true))) := example_any
  have B0 : Hid (Below w.heap.size w (w.alloc (.cells #[.string n.nm, .slice n.PA n.ps.length n.pc, .slice n.TA n.ts.length n.tc] 25))) := (Below.refl _ _).alloc (Nat.le_refl _) _
  cases hs : smallN n
  · have CS2 : Hid (∀ W, Below w.heap.size w W → Calls Tryz.prog 4 #[.agg #[.string n.nm, .slice n.PA n.ps.length n.pc, .slice n.TA n.ts.length n.tc]] W (fun e w' => e = .returned (.tuple #[.agg #[.string ⟨#[]⟩, .slice none 0 0, .slice none 0 0], .bool false]) ∧ Below W.heap.size W w')) := fun W hW => (CS.out W hW).mono fun e w' h => by
      unfold SmallPost at h
      rw [hs, if_neg (by simp)] at h
      exact h
    clear CS hs hT
    go_enter Tryz.func3, Tryz.ntmps3
    go_wp2_with fail
    refine (CS2.out _ B0.out).mono ?_
    rintro e x1 ⟨rfl, K⟩
    have Dx1 := Lib.hid (B0.out.trans (K.mono B0.out.size))
    clear K
    have Dx1a := Lib.hid (Dx1.out.alloc Dx1.out.size (.cells #[.string ⟨#[]⟩, .slice none 0 0, .slice none 0 0] 25))
    go_wp2_with fail
    refine (CX.out _).mono ?_
    rintro e x2 ⟨rfl, K⟩
    have Dx2 := Lib.hid (Dx1a.out.trans (K.mono Dx1a.out.size))
    clear K
    go_wp2
    go_ret
    exact ⟨rfl, Dx2.out⟩
  · have CS2 : Hid (∀ W, Below w.heap.size w W → Calls Tryz.prog 4 #[.agg #[.string n.nm, .slice n.PA n.ps.length n.pc, .slice n.TA n.ts.length n.tc]] W (fun e w' => e = .returned (.tuple #[.agg #[.string n.nm, .slice n.PA n.ps.length n.pc, .slice n.TA n.ts.length n.tc], .bool true]) ∧ Below W.heap.size W w')) := fun W hW => (CS.out W hW).mono fun e w' h => by
      unfold SmallPost at h
      rw [hs, if_pos rfl] at h
      exact h
    have hr0 := small_ok hr hs
    have CN : Hid (∀ W, Below w.heap.size w W → Calls Tryz.prog 5 #[.agg #[.string n.nm, .slice n.PA n.ps.length n.pc, .slice n.TA n.ts.length n.tc]] W (VPost W.heap.size W (.bool (decide (8 < n.ps.length) && decide (n.ps.length ≤ 12))))) := fun W hW => many_any n W (by have := hr0.okp.1; omega)
    by_cases hmn : 8 < n.ps.length ∧ n.ps.length ≤ 12
    · rw [decide_eq_true hmn.1, decide_eq_true hmn.2] at CN
      clear CS hs hr hr0 hT hmn
      go_enter Tryz.func3, Tryz.ntmps3
      go_wp2_with fail
      refine (CS2.out _ B0.out).mono ?_
      rintro e x1 ⟨rfl, K⟩
      have Dx1 := Lib.hid (B0.out.trans (K.mono B0.out.size))
      clear K
      have q0 : (x1.alloc (.cells #[.string n.nm, .slice n.PA n.ps.length n.pc, .slice n.TA n.ts.length n.tc] 25)).cell? ⟨x1.heap.size, 0, none⟩ = some (.string n.nm) := by simp
      have q1 : (x1.alloc (.cells #[.string n.nm, .slice n.PA n.ps.length n.pc, .slice n.TA n.ts.length n.tc] 25)).cell? ⟨x1.heap.size, 1, none⟩ = some (.slice n.PA n.ps.length n.pc) := by simp
      have q2 : (x1.alloc (.cells #[.string n.nm, .slice n.PA n.ps.length n.pc, .slice n.TA n.ts.length n.tc] 25)).cell? ⟨x1.heap.size, 2, none⟩ = some (.slice n.TA n.ts.length n.tc) := by simp
      have Dx1a := Lib.hid (Dx1.out.alloc Dx1.out.size (.cells #[.string n.nm, .slice n.PA n.ps.length n.pc, .slice n.TA n.ts.length n.tc] 25))
      go_wp2_with fail
      refine (CN.out _ Dx1a.out).mono ?_
      rintro e x2 ⟨rfl, K⟩
      have q0 := keepc q0 K
      have q1 := keepc q1 K
      have q2 := keepc q2 K
      have Dx2 := Lib.hid (Dx1a.out.trans (K.mono Dx1a.out.size))
      clear K
      go_wp2_with fail
      refine (CX.out _).mono ?_
      rintro e x3 ⟨rfl, K⟩
      have q0 := keepc q0 K
      have q1 := keepc q1 K
      have q2 := keepc q2 K
      have Dx3 := Lib.hid (Dx2.out.trans (K.mono Dx2.out.size))
      clear K
      go_wp2
      go_ret
      exact ⟨rfl, Dx3.out⟩
    have h8 : n.ps.length ≤ 8 ∨ 12 < n.ps.length := by omega
    have hf : (decide (8 < n.ps.length) && decide (n.ps.length ≤ 12)) = false := by
      rcases h8 with h | h
      · rw [decide_eq_false (by omega)]; rfl
      · rw [decide_eq_false (show ¬ n.ps.length ≤ 12 by omega), Bool.and_false]
    rw [hf] at CN
    have C1 : Hid (∀ W, Below w.heap.size w W → Calls Tryz.prog 7 #[.agg #[.string n.nm, .slice n.PA n.ps.length n.pc, .slice n.TA n.ts.length n.tc]] W (MinPE W.heap.size W (minLs n true) (minE n))) := fun W hW => siphonsE_any n W (hr0.below hW (Nat.le_refl _))
    have C2 : Hid (∀ W, Below w.heap.size w W → Calls Tryz.prog 8 #[.agg #[.string n.nm, .slice n.PA n.ps.length n.pc, .slice n.TA n.ts.length n.tc], .bool true] W (MinPE W.heap.size W (minLs n true) (minE n))) := fun W hW => rminE_any n true W (hr0.below hW (Nat.le_refl _)) h8
    have C3 : Hid (∀ W, Below w.heap.size w W → Calls Tryz.prog 9 #[.agg #[.string n.nm, .slice n.PA n.ps.length n.pc, .slice n.TA n.ts.length n.tc]] W (MinPE W.heap.size W (minLs n false) (minE n))) := fun W hW => trapsE_any n W (hr0.below hW (Nat.le_refl _))
    have C4 : Hid (∀ W, Below w.heap.size w W → Calls Tryz.prog 8 #[.agg #[.string n.nm, .slice n.PA n.ps.length n.pc, .slice n.TA n.ts.length n.tc], .bool false] W (MinPE W.heap.size W (minLs n false) (minE n))) := fun W hW => rminE_any n false W (hr0.below hW (Nat.le_refl _)) h8
    have C5 : Hid (∀ W, Below w.heap.size w W → Calls Tryz.prog 10 #[.agg #[.string n.nm, .slice n.PA n.ps.length n.pc, .slice n.TA n.ts.length n.tc]] W (fun e w' => e = .returned (.tuple #[.bool (comV n), .int .i64 (minE n)]) ∧ Below W.heap.size W w')) := fun W hW => commoner_any n W (hr0.below hW (Nat.le_refl _)) (tab_keep hT hW)
    have C6 : Hid (∀ W, Below w.heap.size w W → Calls Tryz.prog 11 #[.agg #[.string n.nm, .slice n.PA n.ps.length n.pc, .slice n.TA n.ts.length n.tc]] W (fun e w' => e = .returned (.tuple #[.bool (comV n), .int .i64 (minE n)]) ∧ Below W.heap.size W w')) := fun W hW => rcommoner_any n W (hr0.below hW (Nat.le_refl _)) h8
    have l1 := minLs_len n true
    have l2 := minLs_len n false
    clear CS hs hr hr0 hT hmn hf h8
    generalize minLs n true = L1 at *
    generalize minLs n false = L2 at *
    generalize minE n = mE at *
    generalize comV n = cv at *
    have z1 : (mE == mE) = true := by simp
    have z2 : (cv == cv) = true := by simp
    go_enter Tryz.func3, Tryz.ntmps3
    go_wp2_with fail
    refine (CS2.out _ B0.out).mono ?_
    rintro e x1 ⟨rfl, K⟩
    have Dx1 := Lib.hid (B0.out.trans (K.mono B0.out.size))
    clear K
    have q0 : (x1.alloc (.cells #[.string n.nm, .slice n.PA n.ps.length n.pc, .slice n.TA n.ts.length n.tc] 25)).cell? ⟨x1.heap.size, 0, none⟩ = some (.string n.nm) := by simp
    have q1 : (x1.alloc (.cells #[.string n.nm, .slice n.PA n.ps.length n.pc, .slice n.TA n.ts.length n.tc] 25)).cell? ⟨x1.heap.size, 1, none⟩ = some (.slice n.PA n.ps.length n.pc) := by simp
    have q2 : (x1.alloc (.cells #[.string n.nm, .slice n.PA n.ps.length n.pc, .slice n.TA n.ts.length n.tc] 25)).cell? ⟨x1.heap.size, 2, none⟩ = some (.slice n.TA n.ts.length n.tc) := by simp
    have Dx1a := Lib.hid (Dx1.out.alloc Dx1.out.size (.cells #[.string n.nm, .slice n.PA n.ps.length n.pc, .slice n.TA n.ts.length n.tc] 25))
    go_wp2_with fail
    refine (CN.out _ Dx1a.out).mono ?_
    rintro e x2 ⟨rfl, K⟩
    have q0 := keepc q0 K
    have q1 := keepc q1 K
    have q2 := keepc q2 K
    have Dx2 := Lib.hid (Dx1a.out.trans (K.mono Dx1a.out.size))
    clear K
    go_wp2_with fail
    refine (C1.out _ Dx2.out).mono ?_
    rintro e x3 ⟨A1, c1, rfl, R1, K⟩
    have R1 := Lib.hid R1
    have q0 := keepc q0 K
    have q1 := keepc q1 K
    have q2 := keepc q2 K
    have Dx3 := Lib.hid (Dx2.out.trans (K.mono Dx2.out.size))
    clear K
    go_wp2_with fail
    refine (C2.out _ Dx3.out).mono ?_
    rintro e x4 ⟨A2, c2, rfl, R2, K⟩
    have R2 := Lib.hid R2
    have q0 := keepc q0 K
    have q1 := keepc q1 K
    have q2 := keepc q2 K
    have R1 := Lib.hid (R1.out.below K (Nat.le_refl _))
    have Dx4 := Lib.hid (Dx3.out.trans (K.mono Dx3.out.size))
    clear K
    go_wp2_with fail
    refine (C3.out _ Dx4.out).mono ?_
    rintro e x5 ⟨A3, c3, rfl, R3, K⟩
    have R3 := Lib.hid R3
    have q0 := keepc q0 K
    have q1 := keepc q1 K
    have q2 := keepc q2 K
    have R1 := Lib.hid (R1.out.below K (Nat.le_refl _))
    have R2 := Lib.hid (R2.out.below K (Nat.le_refl _))
    have Dx5 := Lib.hid (Dx4.out.trans (K.mono Dx4.out.size))
    clear K
    go_wp2_with fail
    refine (C4.out _ Dx5.out).mono ?_
    rintro e x6 ⟨A4, c4, rfl, R4, K⟩
    have R4 := Lib.hid R4
    have q0 := keepc q0 K
    have q1 := keepc q1 K
    have q2 := keepc q2 K
    have R1 := Lib.hid (R1.out.below K (Nat.le_refl _))
    have R2 := Lib.hid (R2.out.below K (Nat.le_refl _))
    have R3 := Lib.hid (R3.out.below K (Nat.le_refl _))
    have Dx6 := Lib.hid (Dx5.out.trans (K.mono Dx5.out.size))
    clear K
    go_wp2_with fail
    refine (C5.out _ Dx6.out).mono ?_
    rintro e x7 ⟨rfl, K⟩
    have q0 := keepc q0 K
    have q1 := keepc q1 K
    have q2 := keepc q2 K
    have R1 := Lib.hid (R1.out.below K (Nat.le_refl _))
    have R2 := Lib.hid (R2.out.below K (Nat.le_refl _))
    have R3 := Lib.hid (R3.out.below K (Nat.le_refl _))
    have R4 := Lib.hid (R4.out.below K (Nat.le_refl _))
    have Dx7 := Lib.hid (Dx6.out.trans (K.mono Dx6.out.size))
    clear K
    go_wp2_with fail
    refine (C6.out _ Dx7.out).mono ?_
    rintro e x8 ⟨rfl, K⟩
    have q0 := keepc q0 K
    have q1 := keepc q1 K
    have q2 := keepc q2 K
    have R1 := Lib.hid (R1.out.below K (Nat.le_refl _))
    have R2 := Lib.hid (R2.out.below K (Nat.le_refl _))
    have R3 := Lib.hid (R3.out.below K (Nat.le_refl _))
    have R4 := Lib.hid (R4.out.below K (Nat.le_refl _))
    have Dx8 := Lib.hid (Dx7.out.trans (K.mono Dx7.out.size))
    clear K
    have S1 := Lib.hid (Bt.sets_same A1 A2 L1 c1 c2 x8 R1.out R2.out (by omega))
    go_wp2_with fail
    refine (S1.out).mono ?_
    rintro e x9 ⟨rfl, K⟩
    have q0 := keepc q0 K
    have q1 := keepc q1 K
    have q2 := keepc q2 K
    have R1 := Lib.hid (R1.out.below K (Nat.le_refl _))
    have R2 := Lib.hid (R2.out.below K (Nat.le_refl _))
    have R3 := Lib.hid (R3.out.below K (Nat.le_refl _))
    have R4 := Lib.hid (R4.out.below K (Nat.le_refl _))
    have Dx9 := Lib.hid (Dx8.out.trans (K.mono Dx8.out.size))
    clear K
    have S2 := Lib.hid (Bt.sets_same A3 A4 L2 c3 c4 x9 R3.out R4.out (by omega))
    go_wp2_with fail
    refine (S2.out).mono ?_
    rintro e x10 ⟨rfl, K⟩
    have q0 := keepc q0 K
    have q1 := keepc q1 K
    have q2 := keepc q2 K
    have Dx10 := Lib.hid (Dx9.out.trans (K.mono Dx9.out.size))
    clear K
    go_wp2_with fail
    refine (CX.out _).mono ?_
    rintro e x11 ⟨rfl, K⟩
    have q0 := keepc q0 K
    have q1 := keepc q1 K
    have q2 := keepc q2 K
    have Dx11 := Lib.hid (Dx10.out.trans (K.mono Dx10.out.size))
    clear K
    go_wp2
    go_ret
    exact ⟨rfl, Dx11.out⟩
end Go.Proofs.YtjibpkaanaphcaaGreatDoor
