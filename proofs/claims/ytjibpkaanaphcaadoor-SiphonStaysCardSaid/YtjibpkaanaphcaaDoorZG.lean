/- The greatest siphon and trap, by the program. The greatest siphon and trap within a set, by the program. -/
import Derived.Test.YtjibpkaanaphcaaDoorSD
import Derived.WalkMore
namespace Go.Proofs.YtjibpkaanaphcaaDoor
open Go.RowKit

theorem LinkR.below' {w w' : World} {A : Option Addr} {N : Nat} {a b : Nat → Nat} (h : LinkR w A N a b) (hb : Below w.heap.size w w') : LinkR w' A N a b := h.below hb
theorem andNot_u64 (a b : Nat) (ha : a < 18446744073709551616) (hb : b < 18446744073709551616) : bits .andNot .u64 (a : Int) (b : Int) = ((Bt.mB a b : Nat) : Int) := Bt.bits_andNot_nat a b ha hb

set_option maxHeartbeats 800000 in
set_option maxRecDepth 100000 in
theorem greatest_any (n : NetV) (b : Bool) (A : Option Addr) (c s : Nat) (w : World) (hL : LinkR w A n.ts.length (trgS n b) (ndS n b)) (hN : n.ts.length ≤ 1000) (hs : s < 18446744073709551616) :
    Calls Tryd.prog 23 #[.slice A n.ts.length c, .int .u64 (s : Nat)] w (VPost w.heap.size w (.int .u64 (grS n b s : Nat))) := by
  have CV : Hid (∀ t (r : Nat) W, r < 18446744073709551616 → Calls Tryd.prog 38 #[.agg #[.int .u64 (trgS n b t : Nat), .int .u64 (ndS n b t : Nat)], .int .u64 (r : Nat)] W (VPost W.heap.size W (.bool (violF n b r t)))) := fun t r W hr => violated_any _ _ _ W (trg_lt n b t) (nd_lt n b t) hr
  have G0 : Hid (OnWay n b s s) := OnWay.start n b s
  have GD : Hid (∀ (r t : Nat), OnWay n b s r → r < 18446744073709551616 → t < n.ts.length → violF n b r t = true → OnWay n b s (Bt.mB r (trgS n b t)) ∧ Bt.card (Bt.mB r (trgS n b t)) < Bt.card r ∧ Bt.mB r (trgS n b t) < 18446744073709551616) := fun r t h hr ht hv => by
    obtain ⟨⟨i, h1, h2⟩, h3⟩ := viol_iff.1 hv
    exact ⟨h.drop hr ht h3, mB_less hr (trg_lt n b t) h1 h2, mB_lt' hr (trg_lt n b t)⟩
  have GE : Hid (∀ (r : Nat), OnWay n b s r → (∀ t, t < n.ts.length → violF n b r t = false) → r = grS n b s) := fun r h hc => grS_eq hs (h.done (closed_iff.2 hc))
  have KM : Hid (∀ (r t : Nat), r < 18446744073709551616 → bits .andNot .u64 (r : Int) (trgS n b t : Int) = ((Bt.mB r (trgS n b t) : Nat) : Int)) := fun r t hr => andNot_u64 _ _ hr (trg_lt n b t)
  have HL := Lib.hid hL
  clear hL
  generalize grS n b s = R at *
  generalize trgS n b = ta at *
  generalize ndS n b = na at *
  generalize n.ts.length = N at *
  go_enter Tryd.func23, Tryd.ntmps23
  go_wp2_with fail
  go_step3
  go_wp2_with fail
  go_step3
  go_wp2_with fail
  go_loopw [1] (fun p wr => ∃ r : Nat, p = .int .u64 (r : Int) ∧ r < 18446744073709551616 ∧ Hid (OnWay n b s r) ∧ Hid (Below w.heap.size w wr)) (fun p _ => Bt.card (intOf p).toNat)
  case atStart => exact ⟨s, rfl, hs, G0, Below.refl _ _⟩
  case round =>
    obtain ⟨r, rfl, hr, HO, BB⟩ := hrel
    obtain ⟨wo, rfl⟩ : ∃ wo, wo = wr := ⟨_, rfl⟩
    go_wp2_with fail
    go_loopw [1, 9] (fun p q wr => ∃ k : Nat, k ≤ N ∧ p = .int .u64 (r : Int) ∧ q = .int .i64 k ∧ Hid (Below w.heap.size w wr) ∧ Hid (∀ j, j < k → violF n b r j = false)) (fun _ q _ => N - (intOf q).toNat)
    case atStart => exact ⟨0, by omega, rfl, rfl, BB, fun j hj => absurd hj (by omega)⟩
    case round =>
      clear BB
      obtain ⟨k, hk, rfl, rfl, BB, HM⟩ := hrel
      by_cases hlt : k < N
      · obtain ⟨g, o, e, h1, h2⟩ := (HL.out.below' BB.out) k hlt
        subst e
        have C := Lib.hid (fun W => CV.out k r W hr)
        have HF : Hid (violF n b r k = false → ∀ j, j < k + 1 → violF n b r j = false) := fun h j hj => by
          by_cases e : j < k
          · exact HM.out j e
          · obtain rfl : j = k := by omega
            exact h
        have GDk := Lib.hid (GD.out r k HO.out hr hlt)
        have KMk := KM.out r k hr
        clear HM
        generalize violF n b r k = v at *
        generalize ta k = ak at *
        generalize na k = bk at *
        have Dx0 := Lib.hid (BB.out.alloc BB.out.size (.cells #[.int .u64 (ak : Nat), .int .u64 (bk : Nat)] 71))
        have c0 : (wr.alloc (.cells #[.int .u64 (ak : Nat), .int .u64 (bk : Nat)] 71)).cell? ⟨wr.heap.size, 0, none⟩ = some (.int .u64 (ak : Nat)) := by simp
        go_wp2_with fail
        refine (C.out _).mono ?_
        rintro e w2 ⟨rfl, K⟩
        have c0 := keepc c0 K
        have K2 := Lib.hid (Dx0.out.trans (K.mono Dx0.out.size))
        clear K
        cases v
        · have HF2 := Lib.hid (HF.out rfl)
          go_wp2
          go_roundw
          case rel => exact ⟨k + 1, by omega, rfl, by go_num, K2, HF2⟩
          case measure => simp [intOf]; omega
        · obtain ⟨g1, g2, g3⟩ := GDk.out rfl
          have G1 := Lib.hid g1
          have G2 := Lib.hid g2
          clear g1 g2 GDk
          go_wp2
          go_roundw
          case rel => exact ⟨_, by first | rfl | rw [KMk], g3, G1, K2⟩
          case measure => (first | exact G2.out | (simp only [intOf, Int.toNat_natCast]; exact G2.out))
      · have E := Lib.hid (GE.out r HO.out (fun j hj => HM.out j (by omega)))
        clear HM
        go_wp2
        rw [Exit.noGoto_ret]
        go_ret
        exact ⟨by first | (rw [← E.out]; rfl) | rw [← E.out], BB.out⟩
end Go.Proofs.YtjibpkaanaphcaaDoor

namespace Go.Proofs.YtjibpkaanaphcaaDoor
open Go.RowKit

def withinS (n : NetV) (s : Nat) : Nat := s &&& Bt.allV n.ps.length
noncomputable def maxG (n : NetV) (b : Bool) (s : Nat) : Nat := if okN n = true then grS n b (withinS n s) else 0
theorem within_lt (n : NetV) {s : Nat} (hs : s < 18446744073709551616) : withinS n s < 18446744073709551616 := Bt.and_lt hs
theorem all_bit (p i : Nat) (h : (Bt.allV p).testBit i = true) : i < p := by
  unfold Bt.allV at h
  rw [Nat.testBit_two_pow_sub_one, decide_eq_true_eq] at h
  omega
theorem within_card (n : NetV) (s : Nat) (hp : n.ps.length ≤ 64) : Bt.card (withinS n s) ≤ n.ps.length := by
  unfold Bt.card Bt.lst
  have e : List.range 64 = List.range (n.ps.length + (64 - n.ps.length)) := by congr 1; omega
  rw [e, List.range_add, List.filter_append]
  have h2 : ((List.range (64 - n.ps.length)).map (n.ps.length + ·)).filter (fun i => (withinS n s).testBit i) = [] := by
    rw [List.filter_eq_nil_iff]
    intro i hi hb
    obtain ⟨j, _, rfl⟩ := List.mem_map.1 hi
    unfold withinS at hb
    rw [Nat.testBit_and, Bool.and_eq_true] at hb
    have := all_bit _ _ hb.2
    omega
  rw [h2, List.append_nil]
  exact Nat.le_trans (List.length_filter_le _ _) (by rw [List.length_range]; exact Nat.le_refl _)

set_option maxHeartbeats 3000000 in
set_option maxRecDepth 100000 in
theorem maxSiphon_any (n : NetV) (s : Nat) (w : World) (hr : NetR w n) (hs : s < 18446744073709551616) :
    Calls Tryd.prog 12 #[.agg #[.string n.nm, .slice n.PA n.ps.length n.pc, .slice n.TA n.ts.length n.tc], .int .u64 (s : Nat)] w (VPost w.heap.size w (.int .u64 (maxG n true s : Nat))) := by
  have CK : Hid (∀ W, Below w.heap.size w W → Calls Tryd.prog 22 #[.agg #[.string n.nm, .slice n.PA n.ps.length n.pc, .slice n.TA n.ts.length n.tc]] W (FPost W.heap.size W (chkV n))) := fun W hW => check_any n W (hr.below hW (Nat.le_refl _))
  have CA : Hid (∀ W, Calls Tryd.prog 25 #[.int .i64 n.ps.length] W (fun e w' => e = .returned (.int .u64 (Bt.allV n.ps.length : Nat)) ∧ W = w')) := fun W => Bt.all_any _ W
  have CL : Hid (okN n = true → ∀ W, Below w.heap.size w W → Calls Tryd.prog 24 #[.agg #[.string n.nm, .slice n.PA n.ps.length n.pc, .slice n.TA n.ts.length n.tc]] W (LinkPost W.heap.size W n.ts.length (outS n) (inS n))) := fun hk W hW => slinks_any n W (hr.below hW (Nat.le_refl _)) hk
  have CG : Hid (∀ A c W, LinkR W A n.ts.length (outS n) (inS n) → Calls Tryd.prog 23 #[.slice A n.ts.length c, .int .u64 (withinS n s : Nat)] W (VPost W.heap.size W (.int .u64 (grS n true (withinS n s) : Nat)))) := fun A c W h => greatest_any n true A c (withinS n s) W h hr.okt.1 (within_lt n hs)
  have hfd : ∀ (a b : Int) (w : World), (Instr.field 54 (.agg #[.int .i64 a, .int .i64 b]) 0).run Tryd.prog w = .ok (.int .i64 a) w := fun _ _ _ => by kernel_rfl
  have KA : bits .and .u64 (s : Int) (Bt.allV n.ps.length : Nat) = ((withinS n s : Nat) : Int) := bits_and_nat s _ hs (all_lt _)
  have HD : maxG n true s = if (chkV n).1 = 0 then grS n true (withinS n s) else 0 := by
    unfold maxG
    by_cases h : (chkV n).1 = 0
    · rw [if_pos (show okN n = true from decide_eq_true h), if_pos h]
    · rw [if_neg (show ¬ okN n = true from fun hh => h (of_decide_eq_true hh)), if_neg h]
  have HK : (chkV n).1 = 0 → okN n = true := fun h => decide_eq_true h
  clear hr
  generalize maxG n true s = R at *
  generalize grS n true (withinS n s) = gr at *
  generalize withinS n s = sw at *
  generalize Bt.allV n.ps.length = av at *
  generalize chkV n = cv at *
  obtain ⟨e0, e1⟩ := cv
  dsimp only at *
  have B0 : Hid (Below w.heap.size w (w.alloc (.cells #[.string n.nm, .slice n.PA n.ps.length n.pc, .slice n.TA n.ts.length n.tc] 29))) := ((Below.refl _ _).alloc (Nat.le_refl _) _)
  have q0 : (w.alloc (.cells #[.string n.nm, .slice n.PA n.ps.length n.pc, .slice n.TA n.ts.length n.tc] 29)).cell? ⟨w.heap.size, 0, none⟩ = some (.string n.nm) := by simp
  have q1 : (w.alloc (.cells #[.string n.nm, .slice n.PA n.ps.length n.pc, .slice n.TA n.ts.length n.tc] 29)).cell? ⟨w.heap.size, 1, none⟩ = some (.slice n.PA n.ps.length n.pc) := by simp
  have q2 : (w.alloc (.cells #[.string n.nm, .slice n.PA n.ps.length n.pc, .slice n.TA n.ts.length n.tc] 29)).cell? ⟨w.heap.size, 2, none⟩ = some (.slice n.TA n.ts.length n.tc) := by simp
  by_cases h0 : e0 = 0
  rotate_left
  · have E : Hid (R = 0) := by show _ = _; rw [HD, if_neg h0]
    have z0 : (e0 != 0) = true := by simpa using h0
    clear HD h0 HK CG CL KA
    go_enter Tryd.func12, Tryd.ntmps12
    go_wp2_with fail
    refine (CK.out _ B0.out).mono ?_
    rintro e x1 ⟨rfl, K⟩
    have q0 := keepc q0 K
    have q1 := keepc q1 K
    have q2 := keepc q2 K
    have Dx1 := Lib.hid (B0.out.trans (K.mono B0.out.size))
    clear K
    go_wp2
    go_ret
    exact ⟨by rw [E.out]; rfl, Dx1.out⟩
  · have E : Hid (R = gr) := by show _ = _; rw [HD, if_pos h0]
    have CL := Lib.hid (CL.out (HK h0))
    subst h0
    clear HD HK
    generalize outS n = aa at *
    generalize inS n = bb at *
    go_enter Tryd.func12, Tryd.ntmps12
    go_wp2_with fail
    refine (CK.out _ B0.out).mono ?_
    rintro e x1 ⟨rfl, K⟩
    have q0 := keepc q0 K
    have q1 := keepc q1 K
    have q2 := keepc q2 K
    have Dx1 := Lib.hid (B0.out.trans (K.mono B0.out.size))
    clear K
    go_upto_region 3 with fail
    refine wp_region_held_drew (S := fun w' => w'.cell? ⟨w.heap.size, 0, none⟩ = some (.string n.nm) ∧ w'.cell? ⟨w.heap.size, 1, none⟩ = some (.slice n.PA n.ps.length n.pc) ∧ w'.cell? ⟨w.heap.size, 2, none⟩ = some (.slice n.TA n.ts.length n.tc) ∧ Hid (Below w.heap.size w w')) (by kernel_rfl) ?_ (fun hHeld => ?_)
    · exact ⟨q0, q1, q2, Dx1.out.drew⟩
    refine wpAnyH_take (oi := ⟨_, _, _, _, _, _⟩) (i := 0) (v := ?_) rfl (by kernel_rfl) (by kernel_rfl) (by kernel_rfl) (fun _ _ _ h => h) (Or.inl ⟨by rfl, ?ya0⟩) (by assumption) ?ra0
    case ya0 => (intro w hSw; (try dsimp only at hSw); go_simp; (try with_reducible rfl))
    try simp only [Act.put, List.setIfInBounds_toArray, List.set_cons_zero, List.set_cons_succ]
    refine wpAnyH_take (oi := ⟨_, _, _, _, _, _⟩) (i := 2) (v := ?_) rfl (by kernel_rfl) (by kernel_rfl) (by kernel_rfl) (fun _ _ _ h => h) (Or.inl ⟨by rfl, ?ya2⟩) (by assumption) ?ra2
    case ya2 => (intro w hSw; (try dsimp only at hSw); go_simp; (try with_reducible rfl))
    try simp only [Act.put, List.setIfInBounds_toArray, List.set_cons_zero, List.set_cons_succ]
    refine wpAnyH_take (oi := ⟨_, _, _, _, _, _⟩) (i := 3) (v := ?_) rfl (by kernel_rfl) (by kernel_rfl) (by kernel_rfl) (fun _ _ _ h => h) (Or.inl ⟨by rfl, ?ya3⟩) (by assumption) ?ra3
    case ya3 => (intro w hSw; (try dsimp only at hSw); go_simp; (try with_reducible rfl))
    try simp only [Act.put, List.setIfInBounds_toArray, List.set_cons_zero, List.set_cons_succ]
    refine wpAnyH_take (oi := ⟨_, _, _, _, _, _⟩) (i := 4) (v := ?_) rfl (by kernel_rfl) (by kernel_rfl) (by kernel_rfl) (fun _ _ _ h => h) (Or.inl ⟨by rfl, ?ya4⟩) (by assumption) ?ra4
    case ya4 => (intro w hSw; (try dsimp only at hSw); go_simp; (try with_reducible rfl))
    try simp only [Act.put, List.setIfInBounds_toArray, List.set_cons_zero, List.set_cons_succ]
    refine wpAnyH_take (oi := ⟨_, _, _, _, _, _⟩) (i := 5) (v := ?_) rfl (by kernel_rfl) (by kernel_rfl) (by kernel_rfl) (fun _ _ _ h => h) (Or.inl ⟨by rfl, ?ya5⟩) (by assumption) ?ra5
    case ya5 => (intro w hSw; (try dsimp only at hSw); go_simp; (try with_reducible rfl))
    try simp only [Act.put, List.setIfInBounds_toArray, List.set_cons_zero, List.set_cons_succ]
    refine wpAnyH_ready (rs := [1]) (by kernel_rfl) (by simp) ?_
    refine AllReadyH.cons (o := ⟨_, _, _, _, _, _⟩) rfl (fun K hK => ?_) AllReadyH.nil
    go_simp
    go_at_call 24; refine (CL.out _ hHeld.2.2.2.out).mono ?_; rintro e w4 ⟨A2, c2, rfl, R2, K⟩; have R2 := Lib.hid R2; (try go_wp2_with fail)
    refine hK.out _ _ ?_ (fun hHeld2 => ?_)
    · exact ⟨keepc hHeld.1 K, keepc hHeld.2.1 K, keepc hHeld.2.2.1 K, hHeld.2.2.2.out.trans (K.mono hHeld.2.2.2.out.size)⟩
    clear hK K hHeld
    have hHeld := hHeld2
    clear hHeld2
    try simp only [Act.put, List.setIfInBounds_toArray, List.set_cons_zero, List.set_cons_succ]
    refine wpAnyH_ready (rs := [6]) (by kernel_rfl) (by simp) ?_
    refine AllReadyH.cons (o := ⟨_, _, _, _, _, _⟩) rfl (fun K hK => ?_) AllReadyH.nil
    go_simp
    go_at_call 25; refine (CA.out _).mono ?_; rintro e w4 ⟨rfl, rfl⟩; (try go_wp2_with fail)
    refine hK.out _ _ ?_ (fun hHeld2 => ?_)
    · exact hHeld
    clear hK K hHeld
    have hHeld := hHeld2
    clear hHeld2
    try simp only [Act.put, List.setIfInBounds_toArray, List.set_cons_zero, List.set_cons_succ]
    refine wpAnyH_take (oi := ⟨_, _, _, _, _, _⟩) (i := 7) (v := ?_) rfl (by kernel_rfl) (by kernel_rfl) (by kernel_rfl) (fun _ _ _ h => h) (Or.inl ⟨by rfl, ?ya7⟩) (by assumption) ?ra7
    case ya7 => (intro w hSw; (try dsimp only at hSw); go_simp; (try with_reducible rfl))
    try simp only [Act.put, List.setIfInBounds_toArray, List.set_cons_zero, List.set_cons_succ]
    refine wpAnyH_ready (rs := [8]) (by kernel_rfl) (by simp) ?_
    refine AllReadyH.cons (o := ⟨_, _, _, _, _, _⟩) rfl (fun K hK => ?_) AllReadyH.nil
    go_simp
    go_at_call 23; refine (CG.out A2 c2 _ R2.out).mono ?_; rintro e w4 ⟨rfl, K⟩; (try go_wp2_with fail)
    refine hK.out _ _ ?_ (fun hHeld2 => ?_)
    · exact ⟨keepc hHeld.1 K, keepc hHeld.2.1 K, keepc hHeld.2.2.1 K, hHeld.2.2.2.out.trans (K.mono hHeld.2.2.2.out.size)⟩
    clear hK K hHeld
    have hHeld := hHeld2
    clear hHeld2
    try simp only [Act.put, List.setIfInBounds_toArray, List.set_cons_zero, List.set_cons_succ]
    refine wpAnyH_take (oi := ⟨_, _, _, _, _, _⟩) (i := 9) (v := ?_) rfl (by kernel_rfl) (by kernel_rfl) (by kernel_rfl) (fun _ _ _ h => h) (Or.inl ⟨by rfl, ?ya9⟩) (by assumption) ?ra9
    case ya9 => (intro w hSw; (try dsimp only at hSw); go_simp; (try with_reducible rfl))
    try simp only [Act.put, List.setIfInBounds_toArray, List.set_cons_zero, List.set_cons_succ]
    refine wpAnyH_done (by kernel_rfl) ?_ _
    have B9 := hHeld.2.2.2
    clear hHeld
    go_wp2
    go_ret
    exact ⟨by rw [E.out]; rfl, B9.out⟩

set_option maxHeartbeats 3000000 in
set_option maxRecDepth 100000 in
theorem maxTrap_any (n : NetV) (s : Nat) (w : World) (hr : NetR w n) (hs : s < 18446744073709551616) :
    Calls Tryd.prog 13 #[.agg #[.string n.nm, .slice n.PA n.ps.length n.pc, .slice n.TA n.ts.length n.tc], .int .u64 (s : Nat)] w (VPost w.heap.size w (.int .u64 (maxG n false s : Nat))) := by
  have CK : Hid (∀ W, Below w.heap.size w W → Calls Tryd.prog 22 #[.agg #[.string n.nm, .slice n.PA n.ps.length n.pc, .slice n.TA n.ts.length n.tc]] W (FPost W.heap.size W (chkV n))) := fun W hW => check_any n W (hr.below hW (Nat.le_refl _))
  have CA : Hid (∀ W, Calls Tryd.prog 25 #[.int .i64 n.ps.length] W (fun e w' => e = .returned (.int .u64 (Bt.allV n.ps.length : Nat)) ∧ W = w')) := fun W => Bt.all_any _ W
  have CL : Hid (okN n = true → ∀ W, Below w.heap.size w W → Calls Tryd.prog 26 #[.agg #[.string n.nm, .slice n.PA n.ps.length n.pc, .slice n.TA n.ts.length n.tc]] W (LinkPost W.heap.size W n.ts.length (inS n) (outS n))) := fun hk W hW => tlinks_any n W (hr.below hW (Nat.le_refl _)) hk
  have CG : Hid (∀ A c W, LinkR W A n.ts.length (inS n) (outS n) → Calls Tryd.prog 23 #[.slice A n.ts.length c, .int .u64 (withinS n s : Nat)] W (VPost W.heap.size W (.int .u64 (grS n false (withinS n s) : Nat)))) := fun A c W h => greatest_any n false A c (withinS n s) W h hr.okt.1 (within_lt n hs)
  have hfd : ∀ (a b : Int) (w : World), (Instr.field 54 (.agg #[.int .i64 a, .int .i64 b]) 0).run Tryd.prog w = .ok (.int .i64 a) w := fun _ _ _ => by kernel_rfl
  have KA : bits .and .u64 (s : Int) (Bt.allV n.ps.length : Nat) = ((withinS n s : Nat) : Int) := bits_and_nat s _ hs (all_lt _)
  have HD : maxG n false s = if (chkV n).1 = 0 then grS n false (withinS n s) else 0 := by
    unfold maxG
    by_cases h : (chkV n).1 = 0
    · rw [if_pos (show okN n = true from decide_eq_true h), if_pos h]
    · rw [if_neg (show ¬ okN n = true from fun hh => h (of_decide_eq_true hh)), if_neg h]
  have HK : (chkV n).1 = 0 → okN n = true := fun h => decide_eq_true h
  clear hr
  generalize maxG n false s = R at *
  generalize grS n false (withinS n s) = gr at *
  generalize withinS n s = sw at *
  generalize Bt.allV n.ps.length = av at *
  generalize chkV n = cv at *
  obtain ⟨e0, e1⟩ := cv
  dsimp only at *
  have B0 : Hid (Below w.heap.size w (w.alloc (.cells #[.string n.nm, .slice n.PA n.ps.length n.pc, .slice n.TA n.ts.length n.tc] 29))) := ((Below.refl _ _).alloc (Nat.le_refl _) _)
  have q0 : (w.alloc (.cells #[.string n.nm, .slice n.PA n.ps.length n.pc, .slice n.TA n.ts.length n.tc] 29)).cell? ⟨w.heap.size, 0, none⟩ = some (.string n.nm) := by simp
  have q1 : (w.alloc (.cells #[.string n.nm, .slice n.PA n.ps.length n.pc, .slice n.TA n.ts.length n.tc] 29)).cell? ⟨w.heap.size, 1, none⟩ = some (.slice n.PA n.ps.length n.pc) := by simp
  have q2 : (w.alloc (.cells #[.string n.nm, .slice n.PA n.ps.length n.pc, .slice n.TA n.ts.length n.tc] 29)).cell? ⟨w.heap.size, 2, none⟩ = some (.slice n.TA n.ts.length n.tc) := by simp
  by_cases h0 : e0 = 0
  rotate_left
  · have E : Hid (R = 0) := by show _ = _; rw [HD, if_neg h0]
    have z0 : (e0 != 0) = true := by simpa using h0
    clear HD h0 HK CG CL KA
    go_enter Tryd.func13, Tryd.ntmps13
    go_wp2_with fail
    refine (CK.out _ B0.out).mono ?_
    rintro e x1 ⟨rfl, K⟩
    have q0 := keepc q0 K
    have q1 := keepc q1 K
    have q2 := keepc q2 K
    have Dx1 := Lib.hid (B0.out.trans (K.mono B0.out.size))
    clear K
    go_wp2
    go_ret
    exact ⟨by rw [E.out]; rfl, Dx1.out⟩
  · have E : Hid (R = gr) := by show _ = _; rw [HD, if_pos h0]
    have CL := Lib.hid (CL.out (HK h0))
    subst h0
    clear HD HK
    generalize inS n = aa at *
    generalize outS n = bb at *
    go_enter Tryd.func13, Tryd.ntmps13
    go_wp2_with fail
    refine (CK.out _ B0.out).mono ?_
    rintro e x1 ⟨rfl, K⟩
    have q0 := keepc q0 K
    have q1 := keepc q1 K
    have q2 := keepc q2 K
    have Dx1 := Lib.hid (B0.out.trans (K.mono B0.out.size))
    clear K
    go_upto_region 3 with fail
    refine wp_region_held_drew (S := fun w' => w'.cell? ⟨w.heap.size, 0, none⟩ = some (.string n.nm) ∧ w'.cell? ⟨w.heap.size, 1, none⟩ = some (.slice n.PA n.ps.length n.pc) ∧ w'.cell? ⟨w.heap.size, 2, none⟩ = some (.slice n.TA n.ts.length n.tc) ∧ Hid (Below w.heap.size w w')) (by kernel_rfl) ?_ (fun hHeld => ?_)
    · exact ⟨q0, q1, q2, Dx1.out.drew⟩
    refine wpAnyH_take (oi := ⟨_, _, _, _, _, _⟩) (i := 0) (v := ?_) rfl (by kernel_rfl) (by kernel_rfl) (by kernel_rfl) (fun _ _ _ h => h) (Or.inl ⟨by rfl, ?ya0⟩) (by assumption) ?ra0
    case ya0 => (intro w hSw; (try dsimp only at hSw); go_simp; (try with_reducible rfl))
    try simp only [Act.put, List.setIfInBounds_toArray, List.set_cons_zero, List.set_cons_succ]
    refine wpAnyH_take (oi := ⟨_, _, _, _, _, _⟩) (i := 2) (v := ?_) rfl (by kernel_rfl) (by kernel_rfl) (by kernel_rfl) (fun _ _ _ h => h) (Or.inl ⟨by rfl, ?ya2⟩) (by assumption) ?ra2
    case ya2 => (intro w hSw; (try dsimp only at hSw); go_simp; (try with_reducible rfl))
    try simp only [Act.put, List.setIfInBounds_toArray, List.set_cons_zero, List.set_cons_succ]
    refine wpAnyH_take (oi := ⟨_, _, _, _, _, _⟩) (i := 3) (v := ?_) rfl (by kernel_rfl) (by kernel_rfl) (by kernel_rfl) (fun _ _ _ h => h) (Or.inl ⟨by rfl, ?ya3⟩) (by assumption) ?ra3
    case ya3 => (intro w hSw; (try dsimp only at hSw); go_simp; (try with_reducible rfl))
    try simp only [Act.put, List.setIfInBounds_toArray, List.set_cons_zero, List.set_cons_succ]
    refine wpAnyH_take (oi := ⟨_, _, _, _, _, _⟩) (i := 4) (v := ?_) rfl (by kernel_rfl) (by kernel_rfl) (by kernel_rfl) (fun _ _ _ h => h) (Or.inl ⟨by rfl, ?ya4⟩) (by assumption) ?ra4
    case ya4 => (intro w hSw; (try dsimp only at hSw); go_simp; (try with_reducible rfl))
    try simp only [Act.put, List.setIfInBounds_toArray, List.set_cons_zero, List.set_cons_succ]
    refine wpAnyH_take (oi := ⟨_, _, _, _, _, _⟩) (i := 5) (v := ?_) rfl (by kernel_rfl) (by kernel_rfl) (by kernel_rfl) (fun _ _ _ h => h) (Or.inl ⟨by rfl, ?ya5⟩) (by assumption) ?ra5
    case ya5 => (intro w hSw; (try dsimp only at hSw); go_simp; (try with_reducible rfl))
    try simp only [Act.put, List.setIfInBounds_toArray, List.set_cons_zero, List.set_cons_succ]
    refine wpAnyH_ready (rs := [1]) (by kernel_rfl) (by simp) ?_
    refine AllReadyH.cons (o := ⟨_, _, _, _, _, _⟩) rfl (fun K hK => ?_) AllReadyH.nil
    go_simp
    go_at_call 26; refine (CL.out _ hHeld.2.2.2.out).mono ?_; rintro e w4 ⟨A2, c2, rfl, R2, K⟩; have R2 := Lib.hid R2; (try go_wp2_with fail)
    refine hK.out _ _ ?_ (fun hHeld2 => ?_)
    · exact ⟨keepc hHeld.1 K, keepc hHeld.2.1 K, keepc hHeld.2.2.1 K, hHeld.2.2.2.out.trans (K.mono hHeld.2.2.2.out.size)⟩
    clear hK K hHeld
    have hHeld := hHeld2
    clear hHeld2
    try simp only [Act.put, List.setIfInBounds_toArray, List.set_cons_zero, List.set_cons_succ]
    refine wpAnyH_ready (rs := [6]) (by kernel_rfl) (by simp) ?_
    refine AllReadyH.cons (o := ⟨_, _, _, _, _, _⟩) rfl (fun K hK => ?_) AllReadyH.nil
    go_simp
    go_at_call 25; refine (CA.out _).mono ?_; rintro e w4 ⟨rfl, rfl⟩; (try go_wp2_with fail)
    refine hK.out _ _ ?_ (fun hHeld2 => ?_)
    · exact hHeld
    clear hK K hHeld
    have hHeld := hHeld2
    clear hHeld2
    try simp only [Act.put, List.setIfInBounds_toArray, List.set_cons_zero, List.set_cons_succ]
    refine wpAnyH_take (oi := ⟨_, _, _, _, _, _⟩) (i := 7) (v := ?_) rfl (by kernel_rfl) (by kernel_rfl) (by kernel_rfl) (fun _ _ _ h => h) (Or.inl ⟨by rfl, ?ya7⟩) (by assumption) ?ra7
    case ya7 => (intro w hSw; (try dsimp only at hSw); go_simp; (try with_reducible rfl))
    try simp only [Act.put, List.setIfInBounds_toArray, List.set_cons_zero, List.set_cons_succ]
    refine wpAnyH_ready (rs := [8]) (by kernel_rfl) (by simp) ?_
    refine AllReadyH.cons (o := ⟨_, _, _, _, _, _⟩) rfl (fun K hK => ?_) AllReadyH.nil
    go_simp
    go_at_call 23; refine (CG.out A2 c2 _ R2.out).mono ?_; rintro e w4 ⟨rfl, K⟩; (try go_wp2_with fail)
    refine hK.out _ _ ?_ (fun hHeld2 => ?_)
    · exact ⟨keepc hHeld.1 K, keepc hHeld.2.1 K, keepc hHeld.2.2.1 K, hHeld.2.2.2.out.trans (K.mono hHeld.2.2.2.out.size)⟩
    clear hK K hHeld
    have hHeld := hHeld2
    clear hHeld2
    try simp only [Act.put, List.setIfInBounds_toArray, List.set_cons_zero, List.set_cons_succ]
    refine wpAnyH_take (oi := ⟨_, _, _, _, _, _⟩) (i := 9) (v := ?_) rfl (by kernel_rfl) (by kernel_rfl) (by kernel_rfl) (fun _ _ _ h => h) (Or.inl ⟨by rfl, ?ya9⟩) (by assumption) ?ra9
    case ya9 => (intro w hSw; (try dsimp only at hSw); go_simp; (try with_reducible rfl))
    try simp only [Act.put, List.setIfInBounds_toArray, List.set_cons_zero, List.set_cons_succ]
    refine wpAnyH_done (by kernel_rfl) ?_ _
    have B9 := hHeld.2.2.2
    clear hHeld
    go_wp2
    go_ret
    exact ⟨by rw [E.out]; rfl, B9.out⟩
end Go.Proofs.YtjibpkaanaphcaaDoor
