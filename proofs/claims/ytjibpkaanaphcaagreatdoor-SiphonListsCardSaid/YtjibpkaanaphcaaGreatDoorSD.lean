/- Siphons and traps: whether a set is one, by the program and by the reference. -/
import Derived.Test.YtjibpkaanaphcaaGreatDoorSC
namespace Go.Proofs.YtjibpkaanaphcaaGreatDoor
open Go.RowKit

def isS (n : NetV) (s : Nat) : Bool := okN n && Bt.subV s (Bt.allV n.ps.length)
def sipB (n : NetV) (b : Bool) (s : Nat) : Bool := isS n s && closedB n b s
theorem all_lt (n : Int) : Bt.allV n < 18446744073709551616 := by
  unfold Bt.allV
  have := Nat.pow_le_pow_right (n := 2) (by omega) (Nat.min_le_right n.toNat 64)
  have e : (2 : Nat) ^ 64 = 18446744073709551616 := by decide
  have p : 0 < 2 ^ min n.toNat 64 := Nat.pow_pos (by omega)
  omega

set_option maxHeartbeats 2000000 in
set_option maxRecDepth 100000 in
theorem meets_any (A : Option Addr) (l : List (Int × Int)) (c s : Nat) (w : World) (hr : ReadsA w A l) (hl : l.length ≤ 1000) (hs : s < 18446744073709551616) :
    Calls Tryz.prog 37 #[.slice A l.length c, .int .u64 (s : Nat)] w (VPost w.heap.size w (.bool (meetsB l s))) := by
  have CH : Hid (∀ i W, Calls Tryz.prog 44 #[.int .u64 (s : Nat), .int .i64 i] W (fun e w' => e = .returned (.bool (Bt.hasV s i)) ∧ W = w')) := fun i W => Bt.rhas_any s i W hs
  have HY : Hid (∀ k, k < l.length → Bt.hasV s (aP l k) = true → meetsB l s = true) := fun k hk h => anyB_yes hk h
  have HN : Hid ((∀ k, k < l.length → Bt.hasV s (aP l k) = false) → meetsB l s = false) := fun h => anyB_no h
  have HR := Lib.hid hr
  clear hr
  generalize meetsB l s = S at *
  generalize hn : l.length = ln at *
  have HL := Lib.hid hn
  clear hn
  go_enter Tryz.func37, Tryz.ntmps37
  go_wp2
  go_loopw [5] (fun q wr => ∃ k : Nat, k ≤ ln ∧ q = .int .i64 k ∧ Hid (Below w.heap.size w wr) ∧ Hid (∀ j, j < k → Bt.hasV s (aP l j) = false)) (fun q _ => ln - (intOf q).toNat)
  case atStart => exact ⟨0, by omega, rfl, Below.refl _ _, fun j hj => absurd hj (by omega)⟩
  case round =>
    obtain ⟨k, hk, rfl, BB, HM⟩ := hrel
    by_cases hlt : k < ln
    · obtain ⟨b0, off, rfl, hb0, hc0, hc1⟩ := (HR.out.below BB.out (Nat.le_refl _)) k (by rw [HL.out]; exact hlt)
      have C := CH.out (aP l k)
      have HF : Hid (Bt.hasV s (aP l k) = false → ∀ j, j < k + 1 → Bt.hasV s (aP l j) = false) := fun h j hj => by
        by_cases e : j < k
        · exact HM.out j e
        · obtain rfl : j = k := by omega
          exact h
      have HT := Lib.hid (HY.out k hlt)
      clear HM
      generalize Bt.hasV s (aP l k) = v at *
      generalize aP l k = p at *
      have C := Lib.hid C
      go_wp2_with fail
      refine (C.out _).mono ?_
      rintro e w2 ⟨rfl, rfl⟩
      cases v
      · have HF2 := Lib.hid (HF.out rfl)
        go_wp2
        go_roundw
        case rel => exact ⟨k + 1, by omega, by go_num, BB, HF2⟩
        case measure => simp [intOf]; omega
      · have HT2 := Lib.hid (HT.out rfl)
        go_wp2
        go_ret
        exact ⟨by rw [HT2.out]; rfl, BB.out⟩
    · have E := Lib.hid (HN.out (fun j hj => HM.out j (by omega)))
      clear HM
      go_wp2
      go_ret
      exact ⟨by rw [E.out]; rfl, BB.out⟩

set_option maxHeartbeats 8000000 in
set_option maxRecDepth 100000 in
theorem rclosed_any (n : NetV) (s : Nat) (b : Bool) (w : World) (hr : NetR w n) (hs : s < 18446744073709551616) :
    Calls Tryz.prog 17 #[.agg #[.string n.nm, .slice n.PA n.ps.length n.pc, .slice n.TA n.ts.length n.tc], .int .u64 (s : Nat), .bool b] w (VPost w.heap.size w (.bool (closedB n b s))) := by
  have TD : Hid (∀ t, t < n.ts.length → ∃ bt ot, n.TA = some ⟨bt, ot, none⟩ ∧ ∀ W, Below w.heap.size w W → W.cell? ⟨bt, ot + t * 5 + 1, none⟩ = some (.slice (tA n.ts t).pre.A (tA n.ts t).pre.l.length (tA n.ts t).pre.c) ∧ W.cell? ⟨bt, ot + t * 5 + 2, none⟩ = some (.slice (tA n.ts t).post.A (tA n.ts t).post.l.length (tA n.ts t).post.c)) := fun t ht => by
    obtain ⟨bt, ot, eT, hbt, d0, d1, d2, _⟩ := hr.rt t ht
    exact ⟨bt, ot, eT, fun W hW => ⟨(hW.cell (World.block_lt_of_cell? w _ d1)).trans d1, (hW.cell (World.block_lt_of_cell? w _ d2)).trans d2⟩⟩
  have C1 : Hid (∀ t, t < n.ts.length → ∀ W, Below w.heap.size w W → Calls Tryz.prog 37 #[.slice (tA n.ts t).pre.A (tA n.ts t).pre.l.length (tA n.ts t).pre.c, .int .u64 (s : Nat)] W (VPost W.heap.size W (.bool (meetsB (tA n.ts t).pre.l s)))) := fun t ht W hW => by
    obtain ⟨bt, ot, eT, hbt, d0, d1, d2, d3, d4, r1, r2, r3⟩ := hr.rt t ht
    exact meets_any _ _ _ s W (r1.below hW (Nat.le_refl _)) (hr.okt.2 t).2.1 hs
  have C2 : Hid (∀ t, t < n.ts.length → ∀ W, Below w.heap.size w W → Calls Tryz.prog 37 #[.slice (tA n.ts t).post.A (tA n.ts t).post.l.length (tA n.ts t).post.c, .int .u64 (s : Nat)] W (VPost W.heap.size W (.bool (meetsB (tA n.ts t).post.l s)))) := fun t ht W hW => by
    obtain ⟨bt, ot, eT, hbt, d0, d1, d2, d3, d4, r1, r2, r3⟩ := hr.rt t ht
    exact meets_any _ _ _ s W (r2.below hW (Nat.le_refl _)) (hr.okt.2 t).2.2.1 hs
  have htl : n.ts.length ≤ 1000 := hr.okt.1
  have VM : Hid (∀ t, violF n b s t = (b && meetsB (tA n.ts t).post.l s && !(meetsB (tA n.ts t).pre.l s) || !b && meetsB (tA n.ts t).pre.l s && !(meetsB (tA n.ts t).post.l s))) := fun t => viol_meets n b s t
  have HY : Hid (∀ k, k < n.ts.length → violF n b s k = true → closedB n b s = false) := fun k hk h => by unfold closedB; rw [anyB_yes hk h]; rfl
  have HN : Hid ((∀ k, k < n.ts.length → violF n b s k = false) → closedB n b s = true) := fun h => closed_iff.2 h
  clear hr
  generalize closedB n b s = R at *
  generalize violF n b s = vf at *
  have B0 : Hid (Below w.heap.size w (w.alloc (.cells #[.string n.nm, .slice n.PA n.ps.length n.pc, .slice n.TA n.ts.length n.tc] 25))) := (Below.refl _ _).alloc (Nat.le_refl _) _
  have q2h : Hid ((w.alloc (.cells #[.string n.nm, .slice n.PA n.ps.length n.pc, .slice n.TA n.ts.length n.tc] 25)).cell? ⟨w.heap.size, 2, none⟩ = some (.slice n.TA n.ts.length n.tc)) := by show _ = _; simp
  have START : Hid (Below (w.heap.size + 1) (w.alloc (.cells #[.string n.nm, .slice n.PA n.ps.length n.pc, .slice n.TA n.ts.length n.tc] 25)) (w.alloc (.cells #[.string n.nm, .slice n.PA n.ps.length n.pc, .slice n.TA n.ts.length n.tc] 25))) := Below.refl _ _
  go_enter Tryz.func17, Tryz.ntmps17
  go_wp2_with fail
  go_loopw [7] (fun q wr => ∃ k : Nat, k ≤ n.ts.length ∧ q = .int .i64 k ∧ Hid (Below (w.heap.size + 1) (w.alloc (.cells #[.string n.nm, .slice n.PA n.ps.length n.pc, .slice n.TA n.ts.length n.tc] 25)) wr) ∧ Hid (∀ j, j < k → vf j = false)) (fun q _ => n.ts.length - (intOf q).toNat)
  case atStart => exact ⟨0, by omega, rfl, START, fun j hj => absurd hj (by omega)⟩
  case round =>
    clear START
    obtain ⟨k, hk, rfl, BB, HM⟩ := hrel
    have q2 : wr.cell? ⟨w.heap.size, 2, none⟩ = some (.slice n.TA n.ts.length n.tc) := (BB.out.cell (by show w.heap.size < w.heap.size + 1; omega)).trans q2h.out
    have BG := Lib.hid (B0.out.trans (BB.out.mono (by omega)))
    by_cases hlt : k < n.ts.length
    · obtain ⟨bt, ot, eT, hd⟩ := TD.out k hlt
      rw [eT] at q2
      obtain ⟨d1, d2⟩ := hd wr BG.out
      have C1k := Lib.hid (C1.out k hlt)
      have C2k := Lib.hid (C2.out k hlt)
      have VMk := VM.out k
      have HF : Hid (vf k = false → ∀ j, j < k + 1 → vf j = false) := fun h j hj => by
        by_cases e : j < k
        · exact HM.out j e
        · obtain rfl : j = k := by omega
          exact h
      have HT := Lib.hid (HY.out k hlt)
      clear HM hd eT
      generalize meetsB (tA n.ts k).pre.l s = mi at *
      generalize meetsB (tA n.ts k).post.l s = mo at *
      generalize (tA n.ts k).pre = xp at *
      generalize (tA n.ts k).post = xq at *
      generalize vf k = v at *
      have VMk := Lib.hid VMk
      clear VM TD C1 C2 HN HY
      go_upto_region 4 with fail
      refine wp_region_held_drew (S := fun w' => w'.cell? ⟨w.heap.size, 2, none⟩ = some (.slice (some ⟨bt, ot, none⟩) n.ts.length n.tc) ∧ w'.cell? ⟨bt, ot + k * 5 + 1, none⟩ = some (.slice xp.A xp.l.length xp.c) ∧ w'.cell? ⟨bt, ot + k * 5 + 2, none⟩ = some (.slice xq.A xq.l.length xq.c) ∧ Hid (Below wr.heap.size wr w')) (by kernel_rfl) ?_ (fun hHeld => ?_)
      · exact ⟨q2, d1, d2, (Below.refl _ _).drew⟩
      refine wpAnyH_take (oi := ⟨_, _, _, _, _, _⟩) (i := 0) (v := ?_) rfl (by kernel_rfl) (by kernel_rfl) (by kernel_rfl) (fun _ _ _ h => h) (Or.inl ⟨by rfl, ?ya0⟩) (by assumption) ?ra0
      case ya0 => (intro w hSw; (try dsimp only at hSw); go_simp; (try with_reducible rfl))
      try simp only [Act.put, List.setIfInBounds_toArray, List.set_cons_zero, List.set_cons_succ]
      refine wpAnyH_take (oi := ⟨_, _, _, _, _, _⟩) (i := 1) (v := ?_) rfl (by kernel_rfl) (by kernel_rfl) (by kernel_rfl) (fun _ _ _ h => h) (Or.inl ⟨by rfl, ?ya1⟩) (by assumption) ?ra1
      case ya1 => (intro w hSw; (try dsimp only at hSw); go_simp; (try with_reducible rfl))
      try simp only [Act.put, List.setIfInBounds_toArray, List.set_cons_zero, List.set_cons_succ]
      refine wpAnyH_take (oi := ⟨_, _, _, _, _, _⟩) (i := 2) (v := ?_) rfl (by kernel_rfl) (by kernel_rfl) (by kernel_rfl) (fun _ _ _ h => h) (Or.inl ⟨by rfl, ?ya2⟩) (by assumption) ?ra2
      case ya2 => (intro w hSw; (try dsimp only at hSw); go_simp; (try with_reducible rfl))
      try simp only [Act.put, List.setIfInBounds_toArray, List.set_cons_zero, List.set_cons_succ]
      refine wpAnyH_take (oi := ⟨_, _, _, _, _, _⟩) (i := 3) (v := ?_) rfl (by kernel_rfl) (by kernel_rfl) (by kernel_rfl) (fun _ _ _ h => h) (Or.inl ⟨by rfl, ?ya3⟩) (by assumption) ?ra3
      case ya3 => (intro w hSw; (try dsimp only at hSw); go_simp; (try with_reducible rfl))
      try simp only [Act.put, List.setIfInBounds_toArray, List.set_cons_zero, List.set_cons_succ]
      refine wpAnyH_take (oi := ⟨_, _, _, _, _, _⟩) (i := 4) (v := ?_) rfl (by kernel_rfl) (by kernel_rfl) (by kernel_rfl) (fun _ _ _ h => h) (Or.inl ⟨by rfl, ?ya4⟩) (by assumption) ?ra4
      case ya4 => (intro w hSw; (try dsimp only at hSw); go_simp; (try with_reducible rfl))
      try simp only [Act.put, List.setIfInBounds_toArray, List.set_cons_zero, List.set_cons_succ]
      refine wpAnyH_take (oi := ⟨_, _, _, _, _, _⟩) (i := 5) (v := ?_) rfl (by kernel_rfl) (by kernel_rfl) (by kernel_rfl) (fun _ _ _ h => h) (Or.inl ⟨by rfl, ?ya5⟩) (by assumption) ?ra5
      case ya5 => (intro w hSw; (try dsimp only at hSw); go_simp; (try with_reducible rfl))
      try simp only [Act.put, List.setIfInBounds_toArray, List.set_cons_zero, List.set_cons_succ]
      refine wpAnyH_take (oi := ⟨_, _, _, _, _, _⟩) (i := 6) (v := ?_) rfl (by kernel_rfl) (by kernel_rfl) (by kernel_rfl) (fun _ _ _ h => h) (Or.inl ⟨by rfl, ?ya6⟩) (by assumption) ?ra6
      case ya6 => (intro w hSw; (try dsimp only at hSw); go_simp; (try with_reducible rfl))
      try simp only [Act.put, List.setIfInBounds_toArray, List.set_cons_zero, List.set_cons_succ]
      refine wpAnyH_take (oi := ⟨_, _, _, _, _, _⟩) (i := 8) (v := ?_) rfl (by kernel_rfl) (by kernel_rfl) (by kernel_rfl) (fun _ _ _ h => h) (Or.inl ⟨by rfl, ?ya8⟩) (by assumption) ?ra8
      case ya8 => (intro w hSw; (try dsimp only at hSw); go_simp; (try with_reducible rfl))
      try simp only [Act.put, List.setIfInBounds_toArray, List.set_cons_zero, List.set_cons_succ]
      refine wpAnyH_take (oi := ⟨_, _, _, _, _, _⟩) (i := 9) (v := ?_) rfl (by kernel_rfl) (by kernel_rfl) (by kernel_rfl) (fun _ _ _ h => h) (Or.inl ⟨by rfl, ?ya9⟩) (by assumption) ?ra9
      case ya9 => (intro w hSw; (try dsimp only at hSw); go_simp; (try with_reducible rfl))
      try simp only [Act.put, List.setIfInBounds_toArray, List.set_cons_zero, List.set_cons_succ]
      refine wpAnyH_take (oi := ⟨_, _, _, _, _, _⟩) (i := 10) (v := ?_) rfl (by kernel_rfl) (by kernel_rfl) (by kernel_rfl) (fun _ _ _ h => h) (Or.inl ⟨by rfl, ?ya10⟩) (by assumption) ?ra10
      case ya10 => (intro w hSw; (try dsimp only at hSw); go_simp; (try with_reducible rfl))
      try simp only [Act.put, List.setIfInBounds_toArray, List.set_cons_zero, List.set_cons_succ]
      refine wpAnyH_take (oi := ⟨_, _, _, _, _, _⟩) (i := 11) (v := ?_) rfl (by kernel_rfl) (by kernel_rfl) (by kernel_rfl) (fun _ _ _ h => h) (Or.inl ⟨by rfl, ?ya11⟩) (by assumption) ?ra11
      case ya11 => (intro w hSw; (try dsimp only at hSw); go_simp; (try with_reducible rfl))
      try simp only [Act.put, List.setIfInBounds_toArray, List.set_cons_zero, List.set_cons_succ]
      refine wpAnyH_take (oi := ⟨_, _, _, _, _, _⟩) (i := 12) (v := ?_) rfl (by kernel_rfl) (by kernel_rfl) (by kernel_rfl) (fun _ _ _ h => h) (Or.inl ⟨by rfl, ?ya12⟩) (by assumption) ?ra12
      case ya12 => (intro w hSw; (try dsimp only at hSw); go_simp; (try with_reducible rfl))
      try simp only [Act.put, List.setIfInBounds_toArray, List.set_cons_zero, List.set_cons_succ]
      refine wpAnyH_take (oi := ⟨_, _, _, _, _, _⟩) (i := 13) (v := ?_) rfl (by kernel_rfl) (by kernel_rfl) (by kernel_rfl) (fun _ _ _ h => h) (Or.inl ⟨by rfl, ?ya13⟩) (by assumption) ?ra13
      case ya13 => (intro w hSw; (try dsimp only at hSw); go_simp; (try with_reducible rfl))
      try simp only [Act.put, List.setIfInBounds_toArray, List.set_cons_zero, List.set_cons_succ]
      refine wpAnyH_take (oi := ⟨_, _, _, _, _, _⟩) (i := 14) (v := ?_) rfl (by kernel_rfl) (by kernel_rfl) (by kernel_rfl) (fun _ _ _ h => h) (Or.inl ⟨by rfl, ?ya14⟩) (by assumption) ?ra14
      case ya14 => (intro w hSw; (try dsimp only at hSw); go_simp; (try with_reducible rfl))
      try simp only [Act.put, List.setIfInBounds_toArray, List.set_cons_zero, List.set_cons_succ]
      refine wpAnyH_ready (rs := [7]) (by kernel_rfl) (by simp) ?_
      refine AllReadyH.cons (o := ⟨_, _, _, _, _, _⟩) rfl (fun K hK => ?_) AllReadyH.nil
      go_simp
      go_at_call 37; refine (C1k.out _ (BG.out.trans (hHeld.2.2.2.out.mono BG.out.size))).mono ?_; rintro e w4 ⟨rfl, K⟩; (try go_wp2_with fail)
      refine hK.out _ _ ?_ (fun hHeld2 => ?_)
      · exact ⟨keepc hHeld.1 K, keepc hHeld.2.1 K, keepc hHeld.2.2.1 K, hHeld.2.2.2.out.trans (K.mono hHeld.2.2.2.out.size)⟩
      clear hK K hHeld
      have hHeld := hHeld2
      clear hHeld2
      try simp only [Act.put, List.setIfInBounds_toArray, List.set_cons_zero, List.set_cons_succ]
      refine wpAnyH_ready (rs := [15]) (by kernel_rfl) (by simp) ?_
      refine AllReadyH.cons (o := ⟨_, _, _, _, _, _⟩) rfl (fun K hK => ?_) AllReadyH.nil
      go_simp
      go_at_call 37; refine (C2k.out _ (BG.out.trans (hHeld.2.2.2.out.mono BG.out.size))).mono ?_; rintro e w4 ⟨rfl, K⟩; (try go_wp2_with fail)
      refine hK.out _ _ ?_ (fun hHeld2 => ?_)
      · exact ⟨keepc hHeld.1 K, keepc hHeld.2.1 K, keepc hHeld.2.2.1 K, hHeld.2.2.2.out.trans (K.mono hHeld.2.2.2.out.size)⟩
      clear hK K hHeld
      have hHeld := hHeld2
      clear hHeld2
      try simp only [Act.put, List.setIfInBounds_toArray, List.set_cons_zero, List.set_cons_succ]
      refine wpAnyH_take (oi := ⟨_, _, _, _, _, _⟩) (i := 16) (v := ?_) rfl (by kernel_rfl) (by kernel_rfl) (by kernel_rfl) (fun _ _ _ h => h) (Or.inl ⟨by rfl, ?ya16⟩) (by assumption) ?ra16
      case ya16 => (intro w hSw; (try dsimp only at hSw); go_simp; (try with_reducible rfl))
      try simp only [Act.put, List.setIfInBounds_toArray, List.set_cons_zero, List.set_cons_succ]
      refine wpAnyH_take (oi := ⟨_, _, _, _, _, _⟩) (i := 17) (v := ?_) rfl (by kernel_rfl) (by kernel_rfl) (by kernel_rfl) (fun _ _ _ h => h) (Or.inl ⟨by rfl, ?ya17⟩) (by assumption) ?ra17
      case ya17 => (intro w hSw; (try dsimp only at hSw); go_simp; (try with_reducible rfl))
      try simp only [Act.put, List.setIfInBounds_toArray, List.set_cons_zero, List.set_cons_succ]
      refine wpAnyH_done (by kernel_rfl) ?_ _
      have B9 := Lib.hid (BB.out.trans (hHeld.2.2.2.out.mono (by have := BB.out.size; rw [World.size_alloc] at this; exact this)))
      have G9 := Lib.hid (BG.out.trans (hHeld.2.2.2.out.mono BG.out.size))
      clear hHeld C1k C2k q2 d1 d2
      cases b <;> cases mi <;> cases mo
      all_goals
        first
          | (have E := VMk.out
             have HF2 := Lib.hid (HF.out E)
             clear HF HT VMk E
             go_wp2
             go_roundw
             case rel => exact ⟨k + 1, by omega, by go_num, B9, HF2⟩
             case measure => simp [intOf]; omega)
          | (have E := VMk.out
             have HT2 := Lib.hid (HT.out E)
             clear HF HT VMk E
             go_wp2
             go_ret
             exact ⟨by rw [HT2.out]; rfl, G9.out⟩)
    · have E := Lib.hid (HN.out (fun j hj => HM.out j (by omega)))
      clear HM
      go_wp2
      go_ret
      exact ⟨by rw [E.out]; rfl, BG.out⟩

end Go.Proofs.YtjibpkaanaphcaaGreatDoor
