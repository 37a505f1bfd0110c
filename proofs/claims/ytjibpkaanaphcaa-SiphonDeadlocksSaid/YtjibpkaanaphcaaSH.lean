/- The greatest siphon and trap within a set, by the program. -/
import Derived.Test.YtjibpkaanaphcaaSG
namespace Go.Proofs.Ytjibpkaanaphcaa
open Go.RowKit

def withinS (n : NetV) (s : Nat) : Nat := s &&& Bt.allV n.ps.length
noncomputable def maxG (n : NetV) (b : Bool) (s : Nat) : Nat := if okN n = true then grS n b (withinS n s) else 0
theorem within_lt (n : NetV) {s : Nat} (hs : s < 18446744073709551616) : withinS n s < 18446744073709551616 := Bt.and_lt hs
theorem all_bit (p i : Nat) (h : (Bt.allV p).testBit i = true) : i < p := by
  unfold Bt.allV at h
  rw [Nat.testBit_two_pow_sub_one, decide_eq_true_eq] at h
  omega
theorem within_card (n : NetV) (s : Nat) (hp : n.ps.length ≤ 64) : Bt.card (withinS n s) ≤ n.ps.length := by
  unfold Bt.card Bt.lst
  have e : List.range 64 = List.range (n.ps.length + (64 - n.ps.length)) := by congr 1; omega
  rw [e, List.range_add, List.filter_append]
  have h2 : ((List.range (64 - n.ps.length)).map (n.ps.length + ·)).filter (fun i => (withinS n s).testBit i) = [] := by
    rw [List.filter_eq_nil_iff]
    intro i hi hb
    obtain ⟨j, _, rfl⟩ := List.mem_map.1 hi
    unfold withinS at hb
    rw [Nat.testBit_and, Bool.and_eq_true] at hb
    have := all_bit _ _ hb.2
    omega
  rw [h2, List.append_nil]
  exact Nat.le_trans (List.length_filter_le _ _) (by rw [List.length_range]; exact Nat.le_refl _)

set_option maxHeartbeats 3000000 in
set_option maxRecDepth 100000 in
theorem maxSiphon_any (n : NetV) (s : Nat) (w : World) (hr : NetR w n) (hs : s < 18446744073709551616) :
    Calls Try.prog 12 #[.agg #[.string n.nm, .slice n.PA n.ps.length n.pc, .slice n.TA n.ts.length n.tc], .int .u64 (s : Nat)] w (VPost w.heap.size w (.int .u64 (maxG n true s : Nat))) := by
  have CK : Hid (∀ W, Below w.heap.size w W → Calls Try.prog 29 #[.agg #[.string n.nm, .slice n.PA n.ps.length n.pc, .slice n.TA n.ts.length n.tc]] W (FPost W.heap.size W (chkV n))) := fun W hW => check_any n W (hr.below hW (Nat.le_refl _))
  have CA : Hid (∀ W, Calls Try.prog 31 #[.int .i64 n.ps.length] W (fun e w' => e = .returned (.int .u64 (Bt.allV n.ps.length : Nat)) ∧ W = w')) := fun W => Bt.all_any _ W
  have CL : Hid (okN n = true → ∀ W, Below w.heap.size w W → Calls Try.prog 24 #[.agg #[.string n.nm, .slice n.PA n.ps.length n.pc, .slice n.TA n.ts.length n.tc]] W (LinkPost W.heap.size W n.ts.length (outS n) (inS n))) := fun hk W hW => slinks_any n W (hr.below hW (Nat.le_refl _)) hk
  have CG : Hid (∀ A c W, LinkR W A n.ts.length (outS n) (inS n) → Calls Try.prog 30 #[.slice A n.ts.length c, .int .u64 (withinS n s : Nat)] W (VPost W.heap.size W (.int .u64 (grS n true (withinS n s) : Nat)))) := fun A c W h => greatest_any n true A c (withinS n s) W h hr.okt.1 (within_lt n hs)
  have hfd : ∀ (a b : Int) (w : World), (Instr.field 56 (.agg #[.int .i64 a, .int .i64 b]) 0).run Try.prog w = .ok (.int .i64 a) w := fun _ _ _ => by kernel_rfl
  have KA : bits .and .u64 (s : Int) (Bt.allV n.ps.length : Nat) = ((withinS n s : Nat) : Int) := bits_and_nat s _ hs (all_lt _)
  have HD : maxG n true s = if (chkV n).1 = 0 then grS n true (withinS n s) else 0 := by
    unfold maxG
    by_cases h : (chkV n).1 = 0
    · rw [if_pos (show okN n = true from decide_eq_true h), if_pos h]
    · rw [if_neg (show ¬ okN n = true from fun hh => h (of_decide_eq_true hh)), if_neg h]
  have HK : (chkV n).1 = 0 → okN n = true := fun h => decide_eq_true h
  clear hr
  generalize maxG n true s = R at *
  generalize grS n true (withinS n s) = gr at *
  generalize withinS n s = sw at *
  generalize Bt.allV n.ps.length = av at *
  generalize chkV n = cv at *
  obtain ⟨e0, e1⟩ := cv
  dsimp only at *
  have B0 : Hid (Below w.heap.size w (w.alloc (.cells #[.string n.nm, .slice n.PA n.ps.length n.pc, .slice n.TA n.ts.length n.tc] 25))) := ((Below.refl _ _).alloc (Nat.le_refl _) _)
  have q0 : (w.alloc (.cells #[.string n.nm, .slice n.PA n.ps.length n.pc, .slice n.TA n.ts.length n.tc] 25)).cell? ⟨w.heap.size, 0, none⟩ = some (.string n.nm) := by simp
  have q1 : (w.alloc (.cells #[.string n.nm, .slice n.PA n.ps.length n.pc, .slice n.TA n.ts.length n.tc] 25)).cell? ⟨w.heap.size, 1, none⟩ = some (.slice n.PA n.ps.length n.pc) := by simp
  have q2 : (w.alloc (.cells #[.string n.nm, .slice n.PA n.ps.length n.pc, .slice n.TA n.ts.length n.tc] 25)).cell? ⟨w.heap.size, 2, none⟩ = some (.slice n.TA n.ts.length n.tc) := by simp
  by_cases h0 : e0 = 0
  rotate_left
  · have E : Hid (R = 0) := by show _ = _; rw [HD, if_neg h0]
    have z0 : (e0 != 0) = true := by simpa using h0
    clear HD h0 HK CG CL KA
    go_enter Try.func12, Try.ntmps12
    go_wp2_with fail
    refine (CK.out _ B0.out).mono ?_
    rintro e x1 ⟨rfl, K⟩
    have q0 := keepc q0 K
    have q1 := keepc q1 K
    have q2 := keepc q2 K
    have Dx1 := Lib.hid (B0.out.trans (K.mono B0.out.size))
    clear K
    go_wp2
    go_ret
    exact ⟨by rw [E.out]; rfl, Dx1.out⟩
  · have E : Hid (R = gr) := by show _ = _; rw [HD, if_pos h0]
    have CL := Lib.hid (CL.out (HK h0))
    subst h0
    clear HD HK
    generalize outS n = aa at *
    generalize inS n = bb at *
    go_enter Try.func12, Try.ntmps12
    go_wp2_with fail
    refine (CK.out _ B0.out).mono ?_
    rintro e x1 ⟨rfl, K⟩
    have q0 := keepc q0 K
    have q1 := keepc q1 K
    have q2 := keepc q2 K
    have Dx1 := Lib.hid (B0.out.trans (K.mono B0.out.size))
    clear K
    go_upto_region 3 with fail
    refine wp_region_held_drew (S := fun w' => w'.cell? ⟨w.heap.size, 0, none⟩ = some (.string n.nm) ∧ w'.cell? ⟨w.heap.size, 1, none⟩ = some (.slice n.PA n.ps.length n.pc) ∧ w'.cell? ⟨w.heap.size, 2, none⟩ = some (.slice n.TA n.ts.length n.tc) ∧ Hid (Below w.heap.size w w')) (by kernel_rfl) ?_ (fun hHeld => ?_)
    · exact ⟨q0, q1, q2, Dx1.out.drew⟩
    refine wpAnyH_take (oi := ⟨_, _, _, _, _, _⟩) (i := 0) (v := ?_) rfl (by kernel_rfl) (by kernel_rfl) (by kernel_rfl) (fun _ _ _ h => h) (Or.inl ⟨by rfl, ?ya0⟩) (by assumption) ?ra0
    case ya0 => (intro w hSw; (try dsimp only at hSw); go_simp; (try with_reducible rfl))
    try simp only [Act.put, List.setIfInBounds_toArray, List.set_cons_zero, List.set_cons_succ]
    refine wpAnyH_take (oi := ⟨_, _, _, _, _, _⟩) (i := 2) (v := ?_) rfl (by kernel_rfl) (by kernel_rfl) (by kernel_rfl) (fun _ _ _ h => h) (Or.inl ⟨by rfl, ?ya2⟩) (by assumption) ?ra2
    case ya2 => (intro w hSw; (try dsimp only at hSw); go_simp; (try with_reducible rfl))
    try simp only [Act.put, List.setIfInBounds_toArray, List.set_cons_zero, List.set_cons_succ]
    refine wpAnyH_take (oi := ⟨_, _, _, _, _, _⟩) (i := 3) (v := ?_) rfl (by kernel_rfl) (by kernel_rfl) (by kernel_rfl) (fun _ _ _ h => h) (Or.inl ⟨by rfl, ?ya3⟩) (by assumption) ?ra3
    case ya3 => (intro w hSw; (try dsimp only at hSw); go_simp; (try with_reducible rfl))
    try simp only [Act.put, List.setIfInBounds_toArray, List.set_cons_zero, List.set_cons_succ]
    refine wpAnyH_take (oi := ⟨_, _, _, _, _, _⟩) (i := 4) (v := ?_) rfl (by kernel_rfl) (by kernel_rfl) (by kernel_rfl) (fun _ _ _ h => h) (Or.inl ⟨by rfl, ?ya4⟩) (by assumption) ?ra4
    case ya4 => (intro w hSw; (try dsimp only at hSw); go_simp; (try with_reducible rfl))
    try simp only [Act.put, List.setIfInBounds_toArray, List.set_cons_zero, List.set_cons_succ]
    refine wpAnyH_take (oi := ⟨_, _, _, _, _, _⟩) (i := 5) (v := ?_) rfl (by kernel_rfl) (by kernel_rfl) (by kernel_rfl) (fun _ _ _ h => h) (Or.inl ⟨by rfl, ?ya5⟩) (by assumption) ?ra5
    case ya5 => (intro w hSw; (try dsimp only at hSw); go_simp; (try with_reducible rfl))
    try simp only [Act.put, List.setIfInBounds_toArray, List.set_cons_zero, List.set_cons_succ]
    refine wpAnyH_ready (rs := [1]) (by kernel_rfl) (by simp) ?_
    refine AllReadyH.cons (o := ⟨_, _, _, _, _, _⟩) rfl (fun K hK => ?_) AllReadyH.nil
    go_simp
    go_at_call 24; refine (CL.out _ hHeld.2.2.2.out).mono ?_; rintro e w4 ⟨A2, c2, rfl, R2, K⟩; have R2 := Lib.hid R2; (try go_wp2_with fail)
    refine hK.out _ _ ?_ (fun hHeld2 => ?_)
    · exact ⟨keepc hHeld.1 K, keepc hHeld.2.1 K, keepc hHeld.2.2.1 K, hHeld.2.2.2.out.trans (K.mono hHeld.2.2.2.out.size)⟩
    clear hK K hHeld
    have hHeld := hHeld2
    clear hHeld2
    try simp only [Act.put, List.setIfInBounds_toArray, List.set_cons_zero, List.set_cons_succ]
    refine wpAnyH_ready (rs := [6]) (by kernel_rfl) (by simp) ?_
    refine AllReadyH.cons (o := ⟨_, _, _, _, _, _⟩) rfl (fun K hK => ?_) AllReadyH.nil
    go_simp
    go_at_call 31; refine (CA.out _).mono ?_; rintro e w4 ⟨rfl, rfl⟩; (try go_wp2_with fail)
    refine hK.out _ _ ?_ (fun hHeld2 => ?_)
    · exact hHeld
    clear hK K hHeld
    have hHeld := hHeld2
    clear hHeld2
    try simp only [Act.put, List.setIfInBounds_toArray, List.set_cons_zero, List.set_cons_succ]
    refine wpAnyH_take (oi := ⟨_, _, _, _, _, _⟩) (i := 7) (v := ?_) rfl (by kernel_rfl) (by kernel_rfl) (by kernel_rfl) (fun _ _ _ h => h) (Or.inl ⟨by rfl, ?ya7⟩) (by assumption) ?ra7
    case ya7 => (intro w hSw; (try dsimp only at hSw); go_simp; (try with_reducible rfl))
    try simp only [Act.put, List.setIfInBounds_toArray, List.set_cons_zero, List.set_cons_succ]
    refine wpAnyH_ready (rs := [8]) (by kernel_rfl) (by simp) ?_
    refine AllReadyH.cons (o := ⟨_, _, _, _, _, _⟩) rfl (fun K hK => ?_) AllReadyH.nil
    go_simp
    go_at_call 30; refine (CG.out A2 c2 _ R2.out).mono ?_; rintro e w4 ⟨rfl, K⟩; (try go_wp2_with fail)
    refine hK.out _ _ ?_ (fun hHeld2 => ?_)
    · exact ⟨keepc hHeld.1 K, keepc hHeld.2.1 K, keepc hHeld.2.2.1 K, hHeld.2.2.2.out.trans (K.mono hHeld.2.2.2.out.size)⟩
    clear hK K hHeld
    have hHeld := hHeld2
    clear hHeld2
    try simp only [Act.put, List.setIfInBounds_toArray, List.set_cons_zero, List.set_cons_succ]
    refine wpAnyH_take (oi := ⟨_, _, _, _, _, _⟩) (i := 9) (v := ?_) rfl (by kernel_rfl) (by kernel_rfl) (by kernel_rfl) (fun _ _ _ h => h) (Or.inl ⟨by rfl, ?ya9⟩) (by assumption) ?ra9
    case ya9 => (intro w hSw; (try dsimp only at hSw); go_simp; (try with_reducible rfl))
    try simp only [Act.put, List.setIfInBounds_toArray, List.set_cons_zero, List.set_cons_succ]
    refine wpAnyH_done (by kernel_rfl) ?_ _
    have B9 := hHeld.2.2.2
    clear hHeld
    go_wp2
    go_ret
    exact ⟨by rw [E.out]; rfl, B9.out⟩

set_option maxHeartbeats 3000000 in
set_option maxRecDepth 100000 in
theorem maxTrap_any (n : NetV) (s : Nat) (w : World) (hr : NetR w n) (hs : s < 18446744073709551616) :
    Calls Try.prog 14 #[.agg #[.string n.nm, .slice n.PA n.ps.length n.pc, .slice n.TA n.ts.length n.tc], .int .u64 (s : Nat)] w (VPost w.heap.size w (.int .u64 (maxG n false s : Nat))) := by
  have CK : Hid (∀ W, Below w.heap.size w W → Calls Try.prog 29 #[.agg #[.string n.nm, .slice n.PA n.ps.length n.pc, .slice n.TA n.ts.length n.tc]] W (FPost W.heap.size W (chkV n))) := fun W hW => check_any n W (hr.below hW (Nat.le_refl _))
  have CA : Hid (∀ W, Calls Try.prog 31 #[.int .i64 n.ps.length] W (fun e w' => e = .returned (.int .u64 (Bt.allV n.ps.length : Nat)) ∧ W = w')) := fun W => Bt.all_any _ W
  have CL : Hid (okN n = true → ∀ W, Below w.heap.size w W → Calls Try.prog 28 #[.agg #[.string n.nm, .slice n.PA n.ps.length n.pc, .slice n.TA n.ts.length n.tc]] W (LinkPost W.heap.size W n.ts.length (inS n) (outS n))) := fun hk W hW => tlinks_any n W (hr.below hW (Nat.le_refl _)) hk
  have CG : Hid (∀ A c W, LinkR W A n.ts.length (inS n) (outS n) → Calls Try.prog 30 #[.slice A n.ts.length c, .int .u64 (withinS n s : Nat)] W (VPost W.heap.size W (.int .u64 (grS n false (withinS n s) : Nat)))) := fun A c W h => greatest_any n false A c (withinS n s) W h hr.okt.1 (within_lt n hs)
  have hfd : ∀ (a b : Int) (w : World), (Instr.field 56 (.agg #[.int .i64 a, .int .i64 b]) 0).run Try.prog w = .ok (.int .i64 a) w := fun _ _ _ => by kernel_rfl
  have KA : bits .and .u64 (s : Int) (Bt.allV n.ps.length : Nat) = ((withinS n s : Nat) : Int) := bits_and_nat s _ hs (all_lt _)
  have HD : maxG n false s = if (chkV n).1 = 0 then grS n false (withinS n s) else 0 := by
    unfold maxG
    by_cases h : (chkV n).1 = 0
    · rw [if_pos (show okN n = true from decide_eq_true h), if_pos h]
    · rw [if_neg (show ¬ okN n = true from fun hh => h (of_decide_eq_true hh)), if_neg h]
  have HK : (chkV n).1 = 0 → okN n = true := fun h => decide_eq_true h
  clear hr
  generalize maxG n false s = R at *
  generalize grS n false (withinS n s) = gr at *
  generalize withinS n s = sw at *
  generalize Bt.allV n.ps.length = av at *
  generalize chkV n = cv at *
  obtain ⟨e0, e1⟩ := cv
  dsimp only at *
  have B0 : Hid (Below w.heap.size w (w.alloc (.cells #[.string n.nm, .slice n.PA n.ps.length n.pc, .slice n.TA n.ts.length n.tc] 25))) := ((Below.refl _ _).alloc (Nat.le_refl _) _)
  have q0 : (w.alloc (.cells #[.string n.nm, .slice n.PA n.ps.length n.pc, .slice n.TA n.ts.length n.tc] 25)).cell? ⟨w.heap.size, 0, none⟩ = some (.string n.nm) := by simp
  have q1 : (w.alloc (.cells #[.string n.nm, .slice n.PA n.ps.length n.pc, .slice n.TA n.ts.length n.tc] 25)).cell? ⟨w.heap.size, 1, none⟩ = some (.slice n.PA n.ps.length n.pc) := by simp
  have q2 : (w.alloc (.cells #[.string n.nm, .slice n.PA n.ps.length n.pc, .slice n.TA n.ts.length n.tc] 25)).cell? ⟨w.heap.size, 2, none⟩ = some (.slice n.TA n.ts.length n.tc) := by simp
  by_cases h0 : e0 = 0
  rotate_left
  · have E : Hid (R = 0) := by show _ = _; rw [HD, if_neg h0]
    have z0 : (e0 != 0) = true := by simpa using h0
    clear HD h0 HK CG CL KA
    go_enter Try.func14, Try.ntmps14
    go_wp2_with fail
    refine (CK.out _ B0.out).mono ?_
    rintro e x1 ⟨rfl, K⟩
    have q0 := keepc q0 K
    have q1 := keepc q1 K
    have q2 := keepc q2 K
    have Dx1 := Lib.hid (B0.out.trans (K.mono B0.out.size))
    clear K
    go_wp2
    go_ret
    exact ⟨by rw [E.out]; rfl, Dx1.out⟩
  · have E : Hid (R = gr) := by show _ = _; rw [HD, if_pos h0]
    have CL := Lib.hid (CL.out (HK h0))
    subst h0
    clear HD HK
    generalize inS n = aa at *
    generalize outS n = bb at *
    go_enter Try.func14, Try.ntmps14
    go_wp2_with fail
    refine (CK.out _ B0.out).mono ?_
    rintro e x1 ⟨rfl, K⟩
    have q0 := keepc q0 K
    have q1 := keepc q1 K
    have q2 := keepc q2 K
    have Dx1 := Lib.hid (B0.out.trans (K.mono B0.out.size))
    clear K
    go_upto_region 3 with fail
    refine wp_region_held_drew (S := fun w' => w'.cell? ⟨w.heap.size, 0, none⟩ = some (.string n.nm) ∧ w'.cell? ⟨w.heap.size, 1, none⟩ = some (.slice n.PA n.ps.length n.pc) ∧ w'.cell? ⟨w.heap.size, 2, none⟩ = some (.slice n.TA n.ts.length n.tc) ∧ Hid (Below w.heap.size w w')) (by kernel_rfl) ?_ (fun hHeld => ?_)
    · exact ⟨q0, q1, q2, Dx1.out.drew⟩
    refine wpAnyH_take (oi := ⟨_, _, _, _, _, _⟩) (i := 0) (v := ?_) rfl (by kernel_rfl) (by kernel_rfl) (by kernel_rfl) (fun _ _ _ h => h) (Or.inl ⟨by rfl, ?ya0⟩) (by assumption) ?ra0
    case ya0 => (intro w hSw; (try dsimp only at hSw); go_simp; (try with_reducible rfl))
    try simp only [Act.put, List.setIfInBounds_toArray, List.set_cons_zero, List.set_cons_succ]
    refine wpAnyH_take (oi := ⟨_, _, _, _, _, _⟩) (i := 2) (v := ?_) rfl (by kernel_rfl) (by kernel_rfl) (by kernel_rfl) (fun _ _ _ h => h) (Or.inl ⟨by rfl, ?ya2⟩) (by assumption) ?ra2
    case ya2 => (intro w hSw; (try dsimp only at hSw); go_simp; (try with_reducible rfl))
    try simp only [Act.put, List.setIfInBounds_toArray, List.set_cons_zero, List.set_cons_succ]
    refine wpAnyH_take (oi := ⟨_, _, _, _, _, _⟩) (i := 3) (v := ?_) rfl (by kernel_rfl) (by kernel_rfl) (by kernel_rfl) (fun _ _ _ h => h) (Or.inl ⟨by rfl, ?ya3⟩) (by assumption) ?ra3
    case ya3 => (intro w hSw; (try dsimp only at hSw); go_simp; (try with_reducible rfl))
    try simp only [Act.put, List.setIfInBounds_toArray, List.set_cons_zero, List.set_cons_succ]
    refine wpAnyH_take (oi := ⟨_, _, _, _, _, _⟩) (i := 4) (v := ?_) rfl (by kernel_rfl) (by kernel_rfl) (by kernel_rfl) (fun _ _ _ h => h) (Or.inl ⟨by rfl, ?ya4⟩) (by assumption) ?ra4
    case ya4 => (intro w hSw; (try dsimp only at hSw); go_simp; (try with_reducible rfl))
    try simp only [Act.put, List.setIfInBounds_toArray, List.set_cons_zero, List.set_cons_succ]
    refine wpAnyH_take (oi := ⟨_, _, _, _, _, _⟩) (i := 5) (v := ?_) rfl (by kernel_rfl) (by kernel_rfl) (by kernel_rfl) (fun _ _ _ h => h) (Or.inl ⟨by rfl, ?ya5⟩) (by assumption) ?ra5
    case ya5 => (intro w hSw; (try dsimp only at hSw); go_simp; (try with_reducible rfl))
    try simp only [Act.put, List.setIfInBounds_toArray, List.set_cons_zero, List.set_cons_succ]
    refine wpAnyH_ready (rs := [1]) (by kernel_rfl) (by simp) ?_
    refine AllReadyH.cons (o := ⟨_, _, _, _, _, _⟩) rfl (fun K hK => ?_) AllReadyH.nil
    go_simp
    go_at_call 28; refine (CL.out _ hHeld.2.2.2.out).mono ?_; rintro e w4 ⟨A2, c2, rfl, R2, K⟩; have R2 := Lib.hid R2; (try go_wp2_with fail)
    refine hK.out _ _ ?_ (fun hHeld2 => ?_)
    · exact ⟨keepc hHeld.1 K, keepc hHeld.2.1 K, keepc hHeld.2.2.1 K, hHeld.2.2.2.out.trans (K.mono hHeld.2.2.2.out.size)⟩
    clear hK K hHeld
    have hHeld := hHeld2
    clear hHeld2
    try simp only [Act.put, List.setIfInBounds_toArray, List.set_cons_zero, List.set_cons_succ]
    refine wpAnyH_ready (rs := [6]) (by kernel_rfl) (by simp) ?_
    refine AllReadyH.cons (o := ⟨_, _, _, _, _, _⟩) rfl (fun K hK => ?_) AllReadyH.nil
    go_simp
    go_at_call 31; refine (CA.out _).mono ?_; rintro e w4 ⟨rfl, rfl⟩; (try go_wp2_with fail)
    refine hK.out _ _ ?_ (fun hHeld2 => ?_)
    · exact hHeld
    clear hK K hHeld
    have hHeld := hHeld2
    clear hHeld2
    try simp only [Act.put, List.setIfInBounds_toArray, List.set_cons_zero, List.set_cons_succ]
    refine wpAnyH_take (oi := ⟨_, _, _, _, _, _⟩) (i := 7) (v := ?_) rfl (by kernel_rfl) (by kernel_rfl) (by kernel_rfl) (fun _ _ _ h => h) (Or.inl ⟨by rfl, ?ya7⟩) (by assumption) ?ra7
    case ya7 => (intro w hSw; (try dsimp only at hSw); go_simp; (try with_reducible rfl))
    try simp only [Act.put, List.setIfInBounds_toArray, List.set_cons_zero, List.set_cons_succ]
    refine wpAnyH_ready (rs := [8]) (by kernel_rfl) (by simp) ?_
    refine AllReadyH.cons (o := ⟨_, _, _, _, _, _⟩) rfl (fun K hK => ?_) AllReadyH.nil
    go_simp
    go_at_call 30; refine (CG.out A2 c2 _ R2.out).mono ?_; rintro e w4 ⟨rfl, K⟩; (try go_wp2_with fail)
    refine hK.out _ _ ?_ (fun hHeld2 => ?_)
    · exact ⟨keepc hHeld.1 K, keepc hHeld.2.1 K, keepc hHeld.2.2.1 K, hHeld.2.2.2.out.trans (K.mono hHeld.2.2.2.out.size)⟩
    clear hK K hHeld
    have hHeld := hHeld2
    clear hHeld2
    try simp only [Act.put, List.setIfInBounds_toArray, List.set_cons_zero, List.set_cons_succ]
    refine wpAnyH_take (oi := ⟨_, _, _, _, _, _⟩) (i := 9) (v := ?_) rfl (by kernel_rfl) (by kernel_rfl) (by kernel_rfl) (fun _ _ _ h => h) (Or.inl ⟨by rfl, ?ya9⟩) (by assumption) ?ra9
    case ya9 => (intro w hSw; (try dsimp only at hSw); go_simp; (try with_reducible rfl))
    try simp only [Act.put, List.setIfInBounds_toArray, List.set_cons_zero, List.set_cons_succ]
    refine wpAnyH_done (by kernel_rfl) ?_ _
    have B9 := hHeld.2.2.2
    clear hHeld
    go_wp2
    go_ret
    exact ⟨by rw [E.out]; rfl, B9.out⟩
end Go.Proofs.Ytjibpkaanaphcaa
