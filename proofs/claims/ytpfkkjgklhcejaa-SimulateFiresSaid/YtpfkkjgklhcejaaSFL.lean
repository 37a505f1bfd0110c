/- The law on runs: they are firing sequences. -/
import Derived.Test.YtpfkkjgklhcejaaSN
import Derived.Deep.DeepCutAuto
import Derived.Deep.Cut
import Derived.Deep.CutBlock
import Derived.Deep.RegionWith
namespace Go.Proofs.Ytpfkkjgklhcejaa
open Go.RowKit

set_option maxHeartbeats 8000000 in
set_option maxRecDepth 100000 in
theorem fires_law (n : NetV) (A : Option Addr) (ws : List Int) (c s0 : Nat) (steps : Int) (w : World) (hr : NetW w n) (hw : ReadsV w A ws) (hl : ws.length ≤ maxLen) :
    Calls Try.prog 5 #[.agg #[.string n.nm, .slice n.PA n.ps.length n.pc, .slice n.TA n.ts.length n.tc], .agg #[.slice A ws.length c, .int .u64 (s0 : Nat), .int .i64 steps]] w fun e w' => e = .returned (.bool true) ∧ Below w.heap.size w w' := by
  have CS : Hid (∀ W, Below w.heap.size w W → Calls Try.prog 7 #[.agg #[.string n.nm, .slice n.PA n.ps.length n.pc, .slice n.TA n.ts.length n.tc]] W (SmallPost W.heap.size W n)) := fun W hW => small_any n W (hr.below hW (Nat.le_refl _))
  have CX : Hid (∀ W, Calls Try.prog 9 #[] W (VPost W.heap.size W (.bool true))) := example_any
  have CLG : Hid (∀ W, Calls Try.prog 8 #[.agg #[.slice A ws.length c, .int .u64 (s0 : Nat), .int .i64 steps]] W (VPost W.heap.size W (.bool (longB ws steps)))) := fun W => long_any A ws c s0 steps W
  have B0 : Hid (Below w.heap.size w ((w.alloc (.cells #[.string n.nm, .slice n.PA n.ps.length n.pc, .slice n.TA n.ts.length n.tc] 25)).alloc (.cells #[.slice A ws.length c, .int .u64 (s0 : Nat), .int .i64 steps] 29))) := ((Below.refl _ _).alloc (Nat.le_refl _) _).alloc (by simp) _
  have a0 : ((w.alloc (.cells #[.string n.nm, .slice n.PA n.ps.length n.pc, .slice n.TA n.ts.length n.tc] 25)).alloc (.cells #[.slice A ws.length c, .int .u64 (s0 : Nat), .int .i64 steps] 29)).cell? ⟨w.heap.size + 1, 0, none⟩ = some (.slice A ws.length c) := by rw [← World.size_alloc w (.cells #[.string n.nm, .slice n.PA n.ps.length n.pc, .slice n.TA n.ts.length n.tc] 25)]; simp
  have a1 : ((w.alloc (.cells #[.string n.nm, .slice n.PA n.ps.length n.pc, .slice n.TA n.ts.length n.tc] 25)).alloc (.cells #[.slice A ws.length c, .int .u64 (s0 : Nat), .int .i64 steps] 29)).cell? ⟨w.heap.size + 1, 1, none⟩ = some (.int .u64 (s0 : Nat)) := by rw [← World.size_alloc w (.cells #[.string n.nm, .slice n.PA n.ps.length n.pc, .slice n.TA n.ts.length n.tc] 25)]; simp
  have a2 : ((w.alloc (.cells #[.string n.nm, .slice n.PA n.ps.length n.pc, .slice n.TA n.ts.length n.tc] 25)).alloc (.cells #[.slice A ws.length c, .int .u64 (s0 : Nat), .int .i64 steps] 29)).cell? ⟨w.heap.size + 1, 2, none⟩ = some (.int .i64 steps) := by rw [← World.size_alloc w (.cells #[.string n.nm, .slice n.PA n.ps.length n.pc, .slice n.TA n.ts.length n.tc] 25)]; simp
  cases hs : smallN n
  · have CS2 : Hid (∀ W, Below w.heap.size w W → Calls Try.prog 7 #[.agg #[.string n.nm, .slice n.PA n.ps.length n.pc, .slice n.TA n.ts.length n.tc]] W (fun e w' => e = .returned (.tuple #[.agg #[.string ⟨#[]⟩, .slice none 0 0, .slice none 0 0], .bool false]) ∧ Below W.heap.size W w')) := fun W hW => (CS.out W hW).mono fun e w' h => by
      unfold SmallPost at h
      rw [hs, if_neg (by simp)] at h
      exact h
    clear CS hs CLG hr hw hl
    go_enter Try.func5, Try.ntmps5
    go_wp2_with fail
    refine (CS2.out _ B0.out).mono ?_
    rintro e x1 ⟨rfl, K⟩
    have a0 := keepc a0 K
    have a1 := keepc a1 K
    have a2 := keepc a2 K
    have Dx1 := Lib.hid (B0.out.trans (K.mono B0.out.size))
    clear K
    have Dx1a := Lib.hid (Dx1.out.alloc Dx1.out.size (.cells #[.string ⟨#[]⟩, .slice none 0 0, .slice none 0 0] 25))
    have a0 := cellA a0 (.cells #[.string ⟨#[]⟩, .slice none 0 0, .slice none 0 0] 25)
    have a1 := cellA a1 (.cells #[.string ⟨#[]⟩, .slice none 0 0, .slice none 0 0] 25)
    have a2 := cellA a2 (.cells #[.string ⟨#[]⟩, .slice none 0 0, .slice none 0 0] 25)
    go_wp2_with fail
    refine (CX.out _).mono ?_
    rintro e x2 ⟨rfl, K⟩
    have a0 := keepc a0 K
    have a1 := keepc a1 K
    have a2 := keepc a2 K
    have Dx2 := Lib.hid (Dx1a.out.trans (K.mono Dx1a.out.size))
    clear K
    go_wp2
    go_ret
    exact ⟨rfl, Dx2.out⟩
  have hr0 := small_ok hr hs
  have CS2 : Hid (∀ W, Below w.heap.size w W → Calls Try.prog 7 #[.agg #[.string n.nm, .slice n.PA n.ps.length n.pc, .slice n.TA n.ts.length n.tc]] W (fun e w' => e = .returned (.tuple #[.agg #[.string n.nm, .slice n.PA n.ps.length n.pc, .slice n.TA n.ts.length n.tc], .bool true]) ∧ Below W.heap.size W w')) := fun W hW => (CS.out W hW).mono fun e w' h => by
    unfold SmallPost at h
    rw [hs, if_pos rfl] at h
    exact h
  clear CS
  cases hlg : longB ws steps
  rotate_left
  · rw [hlg] at CLG
    clear hs hr hr0 hw hl hlg
    go_enter Try.func5, Try.ntmps5
    go_wp2_with fail
    refine (CS2.out _ B0.out).mono ?_
    rintro e x1 ⟨rfl, K⟩
    have a0 := keepc a0 K
    have a1 := keepc a1 K
    have a2 := keepc a2 K
    have Dx1 := Lib.hid (B0.out.trans (K.mono B0.out.size))
    clear K
    have a0 := cellA a0 (.cells #[.string n.nm, .slice n.PA n.ps.length n.pc, .slice n.TA n.ts.length n.tc] 25)
    have a1 := cellA a1 (.cells #[.string n.nm, .slice n.PA n.ps.length n.pc, .slice n.TA n.ts.length n.tc] 25)
    have a2 := cellA a2 (.cells #[.string n.nm, .slice n.PA n.ps.length n.pc, .slice n.TA n.ts.length n.tc] 25)
    have q0 : (x1.alloc (.cells #[.string n.nm, .slice n.PA n.ps.length n.pc, .slice n.TA n.ts.length n.tc] 25)).cell? ⟨x1.heap.size, 0, none⟩ = some (.string n.nm) := by simp
    have q1 : (x1.alloc (.cells #[.string n.nm, .slice n.PA n.ps.length n.pc, .slice n.TA n.ts.length n.tc] 25)).cell? ⟨x1.heap.size, 1, none⟩ = some (.slice n.PA n.ps.length n.pc) := by simp
    have q2 : (x1.alloc (.cells #[.string n.nm, .slice n.PA n.ps.length n.pc, .slice n.TA n.ts.length n.tc] 25)).cell? ⟨x1.heap.size, 2, none⟩ = some (.slice n.TA n.ts.length n.tc) := by simp
    have Dx1a := Lib.hid (Dx1.out.alloc Dx1.out.size (.cells #[.string n.nm, .slice n.PA n.ps.length n.pc, .slice n.TA n.ts.length n.tc] 25))
    go_wp2_with fail
    refine (CLG.out _).mono ?_
    rintro e x2 ⟨rfl, K⟩
    have q0 := keepc q0 K
    have q1 := keepc q1 K
    have q2 := keepc q2 K
    have a0 := keepc a0 K
    have a1 := keepc a1 K
    have a2 := keepc a2 K
    have Dx2 := Lib.hid (Dx1a.out.trans (K.mono Dx1a.out.size))
    clear K
    go_wp2_with fail
    refine (CX.out _).mono ?_
    rintro e x3 ⟨rfl, K⟩
    have q0 := keepc q0 K
    have q1 := keepc q1 K
    have q2 := keepc q2 K
    have a0 := keepc a0 K
    have a1 := keepc a1 K
    have a2 := keepc a2 K
    have Dx3 := Lib.hid (Dx2.out.trans (K.mono Dx2.out.size))
    clear K
    go_wp2
    go_ret
    exact ⟨rfl, Dx3.out⟩
  rw [hlg] at CLG
  have hlg2 : ¬ (60 < steps ∧ steps ≤ 10000) ∧ ws.length ≤ 200 := by
    unfold longB at hlg
    rw [Bool.or_eq_false_iff, decide_eq_false_iff_not, decide_eq_false_iff_not] at hlg
    exact ⟨hlg.1, by omega⟩
  have CR : Hid (∀ W, Below w.heap.size w W → Calls Try.prog 10 #[.agg #[.string n.nm, .slice n.PA n.ps.length n.pc, .slice n.TA n.ts.length n.tc], .slice A ws.length c, .int .u64 (s0 : Nat), .int .i64 steps] W (RPost W.heap.size W (runR n ws steps s0))) := fun W hW => srun_any n A ws c s0 steps W (hr0.below hW (Nat.le_refl _)) (hw.below hW (Nat.le_refl _)) (by omega)
  by_cases hE : (runR n ws steps s0).2.2 = 0
  rotate_left
  · have hz : ((runR n ws steps s0).2.2 != 0) = true := by simpa using hE
    clear hs hr hr0 hw hl hlg hlg2
    generalize runR n ws steps s0 = X at *
    obtain ⟨X1, X2, X3⟩ := X
    dsimp only at *
    clear hE
    go_enter Try.func5, Try.ntmps5
    go_wp2_with fail
    refine (CS2.out _ B0.out).mono ?_
    rintro e x1 ⟨rfl, K⟩
    have a0 := keepc a0 K
    have a1 := keepc a1 K
    have a2 := keepc a2 K
    have Dx1 := Lib.hid (B0.out.trans (K.mono B0.out.size))
    clear K
    have a0 := cellA a0 (.cells #[.string n.nm, .slice n.PA n.ps.length n.pc, .slice n.TA n.ts.length n.tc] 25)
    have a1 := cellA a1 (.cells #[.string n.nm, .slice n.PA n.ps.length n.pc, .slice n.TA n.ts.length n.tc] 25)
    have a2 := cellA a2 (.cells #[.string n.nm, .slice n.PA n.ps.length n.pc, .slice n.TA n.ts.length n.tc] 25)
    have q0 : (x1.alloc (.cells #[.string n.nm, .slice n.PA n.ps.length n.pc, .slice n.TA n.ts.length n.tc] 25)).cell? ⟨x1.heap.size, 0, none⟩ = some (.string n.nm) := by simp
    have q1 : (x1.alloc (.cells #[.string n.nm, .slice n.PA n.ps.length n.pc, .slice n.TA n.ts.length n.tc] 25)).cell? ⟨x1.heap.size, 1, none⟩ = some (.slice n.PA n.ps.length n.pc) := by simp
    have q2 : (x1.alloc (.cells #[.string n.nm, .slice n.PA n.ps.length n.pc, .slice n.TA n.ts.length n.tc] 25)).cell? ⟨x1.heap.size, 2, none⟩ = some (.slice n.TA n.ts.length n.tc) := by simp
    have Dx1a := Lib.hid (Dx1.out.alloc Dx1.out.size (.cells #[.string n.nm, .slice n.PA n.ps.length n.pc, .slice n.TA n.ts.length n.tc] 25))
    go_wp2_with fail
    refine (CLG.out _).mono ?_
    rintro e x2 ⟨rfl, K⟩
    have q0 := keepc q0 K
    have q1 := keepc q1 K
    have q2 := keepc q2 K
    have a0 := keepc a0 K
    have a1 := keepc a1 K
    have a2 := keepc a2 K
    have Dx2 := Lib.hid (Dx1a.out.trans (K.mono Dx1a.out.size))
    clear K
    go_wp2_with fail
    refine (CR.out _ Dx2.out).mono ?_
    rintro e x3 ⟨A1, c1, B1, d1, rfl, R1, R2, K⟩
    have q0 := keepc q0 K
    have q1 := keepc q1 K
    have q2 := keepc q2 K
    have a0 := keepc a0 K
    have a1 := keepc a1 K
    have a2 := keepc a2 K
    have Dx3 := Lib.hid (Dx2.out.trans (K.mono Dx2.out.size))
    clear K
    clear R1 R2
    go_wp2_with fail
    refine (CX.out _).mono ?_
    rintro e x4 ⟨rfl, K⟩
    have q0 := keepc q0 K
    have q1 := keepc q1 K
    have q2 := keepc q2 K
    have a0 := keepc a0 K
    have a1 := keepc a1 K
    have a2 := keepc a2 K
    have Dx4 := Lib.hid (Dx3.out.trans (K.mono Dx3.out.size))
    clear K
    go_wp2
    go_ret
    exact ⟨rfl, Dx4.out⟩
  obtain ⟨hA, r, hR⟩ : argE n ws steps = 0 ∧ ∃ r, simR n ws steps.toNat (initialN n) s0 = some r := by
    by_cases hA : argE n ws steps = 0
    · refine ⟨hA, ?_⟩
      cases e : simR n ws steps.toNat (initialN n) s0 with
      | none => rw [runR_none hA e] at hE; exact absurd hE (by decide)
      | some r => exact ⟨r, rfl⟩
    · rw [runR_err s0 hA] at hE; exact absurd hE hA
  obtain ⟨hok, hlen, hWO, hst0, hst1⟩ := argE_ok hA
  obtain ⟨N, rfl⟩ : ∃ N : Nat, steps = N := ⟨steps.toNat, by omega⟩
  rw [Int.toNat_natCast] at hR
  have htl := (okN_parts hok).2.2.2.1
  have hgI := goodN_init hok
  obtain ⟨f1, f2, f3, f4, f5⟩ := sim_facts hWO hlen N _ _ _ hgI hR
  rw [runR_some hA (by rw [Int.toNat_natCast]; exact hR)] at CR
  have hN60 : N ≤ 60 := by omega
  have RUN := runV_of hgI f4
  have LT : Hid (∀ j, j < r.1.length → ∃ t : Nat, at0 (seqT r.1) j = (t : Int) ∧ t < ws.length ∧ 1 ≤ at0 ws t) := fun j hj => by
    obtain ⟨x, hx, e⟩ := seqT_at hj
    exact ⟨x.1, e, by have := (f2 x hx).1; omega, (f2 x hx).2⟩
  have MAY : Hid (r.1.length < N → ∀ j, j < (listL n (lastM (initialN n) r.1)).length → ∃ t : Nat, at0 (listL n (lastM (initialN n) r.1)) j = (t : Int) ∧ t < ws.length ∧ at0 ws t ≤ 0) := fun h j hj => may_low hWO hlen htl f3 (f5 h) j hj
  have hML := good_len f3
  have hMAYL := listL_len n (lastM (initialN n) r.1) htl
  have CI : Hid (∀ W, Below w.heap.size w W → Calls Try.prog 19 #[.agg #[.string n.nm, .slice n.PA n.ps.length n.pc, .slice n.TA n.ts.length n.tc]] W (IsPost W.heap.size W (initialN n))) := fun W hW => rinitialN_any n W (hr0.below hW (Nat.le_refl _))
  have CQ : Hid (∀ W B cb Q cq, Below w.heap.size w W → ReadsV W B (initialN n) → ReadsV W Q (seqT r.1) → Calls Try.prog 18 #[.agg #[.string n.nm, .slice n.PA n.ps.length n.pc, .slice n.TA n.ts.length n.tc], .slice B (initialN n).length cb, .slice Q (seqT r.1).length cq] W (PairPost W.heap.size W (lastM (initialN n) r.1) (.agg #[.int .i64 0, .int .i64 0]))) := fun W B cb Q cq hW h1 h2 => by
    have := rrun_any n B (initialN n) cb Q (seqT r.1) cq W (hr0.below hW (Nat.le_refl _)) h1 (by have := good_len hgI; omega) h2 (by rw [seqT_len]; omega)
    rw [RUN] at this
    exact this
  have CM : Hid (∀ W B cb D cd, ReadsV W B (lastM (initialN n) r.1) → ReadsV W D (lastM (initialN n) r.1) → Calls Try.prog 14 #[.slice B (lastM (initialN n) r.1).length cb, .slice D (lastM (initialN n) r.1).length cd] W (BPost W.heap.size W true)) := fun W B cb D cd h1 h2 => by
    have := same_law B D _ _ cb cd W h1 h2 (by omega)
    rw [sameL_iff.2 rfl] at this
    exact this
  have CLS : Hid (∀ W B cb, Below w.heap.size w W → ReadsV W B (lastM (initialN n) r.1) → Calls Try.prog 20 #[.agg #[.string n.nm, .slice n.PA n.ps.length n.pc, .slice n.TA n.ts.length n.tc], .slice B (lastM (initialN n) r.1).length cb] W (IsPost W.heap.size W (listL n (lastM (initialN n) r.1)))) := fun W B cb hW h => rlist_any n B _ cb W (hr0.below hW (Nat.le_refl _)) h (by omega)
  have hSL := seqT_len r.1
  have CWS : Hid (∀ W, Below w.heap.size w W → ReadsV W A ws) := fun W hW => hw.below hW (Nat.le_refl _)
  clear hs hr hr0 hw hl hlg hlg2 hE hA hR hok hlen hWO hst0 hst1 htl hgI f2 f3 f4 f5 RUN hML
  rw [← hSL] at LT MAY f1
  clear hSL
  generalize listL n (lastM (initialN n) r.1) = MY at *
  generalize lastM (initialN n) r.1 = M at *
  generalize seqT r.1 = Q at *
  generalize initialN n = I0 at *
  have hQ60 : Q.length ≤ 60 := by omega
  go_enter Try.func5, Try.ntmps5
  go_wp2_with fail
  refine (CS2.out _ B0.out).mono ?_
  rintro e x1 ⟨rfl, K⟩
  have a0 := keepc a0 K
  have a1 := keepc a1 K
  have a2 := keepc a2 K
  have Dx1 := Lib.hid (B0.out.trans (K.mono B0.out.size))
  clear K
  have a0 := cellA a0 (.cells #[.string n.nm, .slice n.PA n.ps.length n.pc, .slice n.TA n.ts.length n.tc] 25)
  have a1 := cellA a1 (.cells #[.string n.nm, .slice n.PA n.ps.length n.pc, .slice n.TA n.ts.length n.tc] 25)
  have a2 := cellA a2 (.cells #[.string n.nm, .slice n.PA n.ps.length n.pc, .slice n.TA n.ts.length n.tc] 25)
  have q0 : (x1.alloc (.cells #[.string n.nm, .slice n.PA n.ps.length n.pc, .slice n.TA n.ts.length n.tc] 25)).cell? ⟨x1.heap.size, 0, none⟩ = some (.string n.nm) := by simp
  have q1 : (x1.alloc (.cells #[.string n.nm, .slice n.PA n.ps.length n.pc, .slice n.TA n.ts.length n.tc] 25)).cell? ⟨x1.heap.size, 1, none⟩ = some (.slice n.PA n.ps.length n.pc) := by simp
  have q2 : (x1.alloc (.cells #[.string n.nm, .slice n.PA n.ps.length n.pc, .slice n.TA n.ts.length n.tc] 25)).cell? ⟨x1.heap.size, 2, none⟩ = some (.slice n.TA n.ts.length n.tc) := by simp
  have Dx1a := Lib.hid (Dx1.out.alloc Dx1.out.size (.cells #[.string n.nm, .slice n.PA n.ps.length n.pc, .slice n.TA n.ts.length n.tc] 25))
  go_wp2_with fail
  refine (CLG.out _).mono ?_
  rintro e x2 ⟨rfl, K⟩
  have q0 := keepc q0 K
  have q1 := keepc q1 K
  have q2 := keepc q2 K
  have a0 := keepc a0 K
  have a1 := keepc a1 K
  have a2 := keepc a2 K
  have Dx2 := Lib.hid (Dx1a.out.trans (K.mono Dx1a.out.size))
  clear K
  go_wp2_with fail
  refine (CR.out _ Dx2.out).mono ?_
  rintro e x3 ⟨A1, c1, B1, d1, rfl, R1, R2, K⟩
  have R1 := Lib.hid R1
  have R2 := Lib.hid R2
  have q0 := keepc q0 K
  have q1 := keepc q1 K
  have q2 := keepc q2 K
  have a0 := keepc a0 K
  have a1 := keepc a1 K
  have a2 := keepc a2 K
  have Dx3 := Lib.hid (Dx2.out.trans (K.mono Dx2.out.size))
  clear K
  clear CLG CR Dx1 Dx1a Dx2 CS2
  go_wp2_with fail
  obtain ⟨z, hz⟩ : ∃ z, z = x3.heap.size := ⟨_, rfl⟩
  have hx1 : x1.heap.size < x3.heap.size := World.block_lt_of_cell? x3 ⟨x1.heap.size, 0, none⟩ q0
  have PZ : Hid (∀ W, Below z x3 W → (W.cell? ⟨x1.heap.size, 0, none⟩ = some (.string n.nm) ∧ W.cell? ⟨x1.heap.size, 1, none⟩ = some (.slice n.PA n.ps.length n.pc) ∧ W.cell? ⟨x1.heap.size, 2, none⟩ = some (.slice n.TA n.ts.length n.tc)) ∧ (W.cell? ⟨w.heap.size + 1, 0, none⟩ = some (.slice A ws.length c) ∧ W.cell? ⟨w.heap.size + 1, 2, none⟩ = some (.int .i64 (N : Int))) ∧ Below w.heap.size w W ∧ ReadsV W A1 Q ∧ ReadsV W B1 M) := fun W hW => by
    rw [hz] at hW
    exact ⟨⟨keepc q0 hW, keepc q1 hW, keepc q2 hW⟩, ⟨keepc a0 hW, keepc a2 hW⟩, Dx3.out.trans (hW.mono Dx3.out.size), R1.out.below hW (Nat.le_refl _), R2.out.below hW (Nat.le_refl _)⟩
  have HZ := Lib.hid hz
  clear hz hx1 q0 q1 q2 a0 a1 a2 Dx3 R1 R2 B0
  go_loopw [10] (fun p wr => ∃ i : Nat, i ≤ Q.length ∧ p = .int .i64 i ∧ Hid (Below z x3 wr)) (fun p _ => Q.length - (intOf p).toNat)
  case atStart => exact ⟨0, by omega, rfl, Below.refl _ _⟩
  case round =>
    obtain ⟨i, hi, rfl, HB2⟩ := hrel
    obtain ⟨⟨q0, q1, q2⟩, ⟨a0, a2⟩, hW, rq, rm⟩ := PZ.out _ HB2.out
    have HW := Lib.hid hW
    have RQ := Lib.hid rq
    have RM := Lib.hid rm
    clear hW rq rm
    by_cases hlt : i < Q.length
    · obtain ⟨t, et, ht, hw1⟩ := LT.out i hlt
      obtain ⟨bq, oq, e1, hxq⟩ := at_of_reads RQ.out i hlt
      rw [et] at hxq
      obtain ⟨bw, ow, e2, hxw⟩ := at_of_reads (CWS.out _ HW.out) t ht
      subst e1
      subst e2
      have z1 : ((t : Int) < 0) = False := by simp
      have z2 : decide ((t : Int) < 0) = false := decide_eq_false (by omega)
      have z3 : decide ((ws.length : Int) ≤ (t : Int)) = false := decide_eq_false (by omega)
      have z4 : decide (at0 ws t < 1) = false := decide_eq_false (by omega)
      have z5 : ¬ ws.length ≤ t := by omega
      have z6 : decide (ws.length ≤ t) = false := decide_eq_false z5
      clear et LT MAY
      generalize at0 ws t = x at *
      generalize ws.length = wl at *
      go_wp2_with fail
      go_upto_region 10 with fail
      refine wp_region_held_drew (S := fun w' => w'.cell? ⟨bq, oq + i, none⟩ = some (.int .i64 (t : Int)) ∧ w'.cell? ⟨bw, ow + t, none⟩ = some (.int .i64 x) ∧ w'.cell? ⟨w.heap.size + 1, 0, none⟩ = some (.slice (some ⟨bw, ow, none⟩) wl c) ∧ Hid (Below z x3 w')) (by kernel_rfl) ?_ (fun hHeld => ?_)
      · exact ⟨hxq, hxw, a0, HB2.out.drew⟩
      refine wpAnyH_take (oi := ⟨_, _, _, _, _, _⟩) (i := 0) (v := ?_) rfl (by kernel_rfl) (by kernel_rfl) (by kernel_rfl) (fun _ _ _ h => h) (Or.inl ⟨by rfl, ?yp0⟩) (by assumption) ?rp0
      case yp0 => (intro w hSw; (try dsimp only at hSw); go_simp; (try with_reducible rfl))
      try simp only [Act.put, List.setIfInBounds_toArray, List.set_cons_zero, List.set_cons_succ]
      refine wpAnyH_take (oi := ⟨_, _, _, _, _, _⟩) (i := 1) (v := ?_) rfl (by kernel_rfl) (by kernel_rfl) (by kernel_rfl) (fun _ _ _ h => h) (Or.inl ⟨by rfl, ?yp1⟩) (by assumption) ?rp1
      case yp1 => (intro w hSw; (try dsimp only at hSw); go_simp; (try with_reducible rfl))
      try simp only [Act.put, List.setIfInBounds_toArray, List.set_cons_zero, List.set_cons_succ]
      refine wpAnyH_take (oi := ⟨_, _, _, _, _, _⟩) (i := 2) (v := ?_) rfl (by kernel_rfl) (by kernel_rfl) (by kernel_rfl) (fun _ _ _ h => h) (Or.inl ⟨by rfl, ?yp2⟩) (by assumption) ?rp2
      case yp2 => (intro w hSw; (try dsimp only at hSw); go_simp; (try with_reducible rfl))
      try simp only [Act.put, List.setIfInBounds_toArray, List.set_cons_zero, List.set_cons_succ]
      refine wpAnyH_take (oi := ⟨_, _, _, _, _, _⟩) (i := 3) (v := ?_) rfl (by kernel_rfl) (by kernel_rfl) (by kernel_rfl) (fun _ _ _ h => h) (Or.inl ⟨by rfl, ?yp3⟩) (by assumption) ?rp3
      case yp3 => (intro w hSw; (try dsimp only at hSw); go_simp; (try with_reducible rfl))
      try simp only [Act.put, List.setIfInBounds_toArray, List.set_cons_zero, List.set_cons_succ]
      refine wpAnyH_take (oi := ⟨_, _, _, _, _, _⟩) (i := 4) (v := ?_) rfl (by kernel_rfl) (by kernel_rfl) (by kernel_rfl) (fun _ _ _ h => h) (Or.inl ⟨by rfl, ?yp4⟩) (by assumption) ?rp4
      case yp4 => (intro w hSw; (try dsimp only at hSw); go_simp; (try with_reducible rfl))
      try simp only [Act.put, List.setIfInBounds_toArray, List.set_cons_zero, List.set_cons_succ]
      refine wpAnyH_take (oi := ⟨_, _, _, _, _, _⟩) (i := 5) (v := ?_) rfl (by kernel_rfl) (by kernel_rfl) (by kernel_rfl) (fun _ _ _ h => h) (Or.inl ⟨by rfl, ?yp5⟩) (by assumption) ?rp5
      case yp5 => (intro w hSw; (try dsimp only at hSw); go_simp; (try with_reducible rfl))
      try simp only [Act.put, List.setIfInBounds_toArray, List.set_cons_zero, List.set_cons_succ]
      refine wpAnyH_take (oi := ⟨_, _, _, _, _, _⟩) (i := 6) (v := ?_) rfl (by kernel_rfl) (by kernel_rfl) (by kernel_rfl) (fun _ _ _ h => h) (Or.inl ⟨by rfl, ?yp6⟩) (by assumption) ?rp6
      case yp6 => (intro w hSw; (try dsimp only at hSw); go_simp; (try with_reducible rfl))
      try simp only [Act.put, List.setIfInBounds_toArray, List.set_cons_zero, List.set_cons_succ]
      refine wpAnyH_take (oi := ⟨_, _, _, _, _, _⟩) (i := 7) (v := ?_) rfl (by kernel_rfl) (by kernel_rfl) (by kernel_rfl) (fun _ _ _ h => h) (Or.inl ⟨by rfl, ?yp7⟩) (by assumption) ?rp7
      case yp7 => (intro w hSw; (try dsimp only at hSw); go_simp; (try with_reducible rfl))
      try simp only [Act.put, List.setIfInBounds_toArray, List.set_cons_zero, List.set_cons_succ]
      refine wpAnyH_take (oi := ⟨_, _, _, _, _, _⟩) (i := 8) (v := ?_) rfl (by kernel_rfl) (by kernel_rfl) (by kernel_rfl) (fun _ _ _ h => h) (Or.inl ⟨by rfl, ?yp8⟩) (by assumption) ?rp8
      case yp8 => (intro w hSw; (try dsimp only at hSw); go_simp; (try with_reducible rfl))
      try simp only [Act.put, List.setIfInBounds_toArray, List.set_cons_zero, List.set_cons_succ]
      refine wpAnyH_take (oi := ⟨_, _, _, _, _, _⟩) (i := 9) (v := ?_) rfl (by kernel_rfl) (by kernel_rfl) (by kernel_rfl) (fun _ _ _ h => h) (Or.inl ⟨by rfl, ?yp9⟩) (by assumption) ?rp9
      case yp9 => (intro w hSw; (try dsimp only at hSw); go_simp; (try with_reducible rfl))
      try simp only [Act.put, List.setIfInBounds_toArray, List.set_cons_zero, List.set_cons_succ]
      refine wpAnyH_take (oi := ⟨_, _, _, _, _, _⟩) (i := 10) (v := ?_) rfl (by kernel_rfl) (by kernel_rfl) (by kernel_rfl) (fun _ _ _ h => h) (Or.inl ⟨by rfl, ?yp10⟩) (by assumption) ?rp10
      case yp10 => (intro w hSw; (try dsimp only at hSw); go_simp; (try with_reducible rfl))
      try simp only [Act.put, List.setIfInBounds_toArray, List.set_cons_zero, List.set_cons_succ]
      refine wpAnyH_take (oi := ⟨_, _, _, _, _, _⟩) (i := 11) (v := ?_) rfl (by kernel_rfl) (by kernel_rfl) (by kernel_rfl) (fun _ _ _ h => h) (Or.inl ⟨by rfl, ?yp11⟩) (by assumption) ?rp11
      case yp11 => (intro w hSw; (try dsimp only at hSw); go_simp; (try with_reducible rfl))
      try simp only [Act.put, List.setIfInBounds_toArray, List.set_cons_zero, List.set_cons_succ]
      refine wpAnyH_take (oi := ⟨_, _, _, _, _, _⟩) (i := 12) (v := ?_) rfl (by kernel_rfl) (by kernel_rfl) (by kernel_rfl) (fun _ _ _ h => h) (Or.inl ⟨by rfl, ?yp12⟩) (by assumption) ?rp12
      case yp12 => (intro w hSw; (try dsimp only at hSw); go_simp; (try with_reducible rfl))
      try simp only [Act.put, List.setIfInBounds_toArray, List.set_cons_zero, List.set_cons_succ]
      refine wpAnyH_take (oi := ⟨_, _, _, _, _, _⟩) (i := 13) (v := ?_) rfl (by kernel_rfl) (by kernel_rfl) (by kernel_rfl) (fun _ _ _ h => h) (Or.inl ⟨by rfl, ?yp13⟩) (by assumption) ?rp13
      case yp13 => (intro w hSw; (try dsimp only at hSw); go_simp; (try with_reducible rfl))
      try simp only [Act.put, List.setIfInBounds_toArray, List.set_cons_zero, List.set_cons_succ]
      refine wpAnyH_take (oi := ⟨_, _, _, _, _, _⟩) (i := 14) (v := ?_) rfl (by kernel_rfl) (by kernel_rfl) (by kernel_rfl) (fun _ _ _ h => h) (Or.inl ⟨by rfl, ?yp14⟩) (by assumption) ?rp14
      case yp14 => (intro w hSw; (try dsimp only at hSw); go_simp; (try with_reducible rfl))
      try simp only [Act.put, List.setIfInBounds_toArray, List.set_cons_zero, List.set_cons_succ]
      refine wpAnyH_take (oi := ⟨_, _, _, _, _, _⟩) (i := 15) (v := ?_) rfl (by kernel_rfl) (by kernel_rfl) (by kernel_rfl) (fun _ _ _ h => h) (Or.inl ⟨by rfl, ?yp15⟩) (by assumption) ?rp15
      case yp15 => (intro w hSw; (try dsimp only at hSw); go_simp; (try with_reducible rfl))
      try simp only [Act.put, List.setIfInBounds_toArray, List.set_cons_zero, List.set_cons_succ]
      refine wpAnyH_take (oi := ⟨_, _, _, _, _, _⟩) (i := 16) (v := ?_) rfl (by kernel_rfl) (by kernel_rfl) (by kernel_rfl) (fun _ _ _ h => h) (Or.inl ⟨by rfl, ?yp16⟩) (by assumption) ?rp16
      case yp16 => (intro w hSw; (try dsimp only at hSw); go_simp; (try with_reducible rfl))
      try simp only [Act.put, List.setIfInBounds_toArray, List.set_cons_zero, List.set_cons_succ]
      refine wpAnyH_take (oi := ⟨_, _, _, _, _, _⟩) (i := 17) (v := ?_) rfl (by kernel_rfl) (by kernel_rfl) (by kernel_rfl) (fun _ _ _ h => h) (Or.inl ⟨by rfl, ?yp17⟩) (by assumption) ?rp17
      case yp17 => (intro w hSw; (try dsimp only at hSw); go_simp; (try with_reducible rfl))
      try simp only [Act.put, List.setIfInBounds_toArray, List.set_cons_zero, List.set_cons_succ]
      refine wpAnyH_take (oi := ⟨_, _, _, _, _, _⟩) (i := 18) (v := ?_) rfl (by kernel_rfl) (by kernel_rfl) (by kernel_rfl) (fun _ _ _ h => h) (Or.inl ⟨by rfl, ?yp18⟩) (by assumption) ?rp18
      case yp18 => (intro w hSw; (try dsimp only at hSw); go_simp; (try with_reducible rfl))
      try simp only [Act.put, List.setIfInBounds_toArray, List.set_cons_zero, List.set_cons_succ]
      refine wpAnyH_take (oi := ⟨_, _, _, _, _, _⟩) (i := 19) (v := ?_) rfl (by kernel_rfl) (by kernel_rfl) (by kernel_rfl) (fun _ _ _ h => h) (Or.inl ⟨by rfl, ?yp19⟩) (by assumption) ?rp19
      case yp19 => (intro w hSw; (try dsimp only at hSw); go_simp; (try with_reducible rfl))
      try simp only [Act.put, List.setIfInBounds_toArray, List.set_cons_zero, List.set_cons_succ]
      refine wpAnyH_take (oi := ⟨_, _, _, _, _, _⟩) (i := 20) (v := ?_) rfl (by kernel_rfl) (by kernel_rfl) (by kernel_rfl) (fun _ _ _ h => h) (Or.inl ⟨by rfl, ?yp20⟩) (by assumption) ?rp20
      case yp20 => (intro w hSw; (try dsimp only at hSw); go_simp; (try with_reducible rfl))
      try simp only [Act.put, List.setIfInBounds_toArray, List.set_cons_zero, List.set_cons_succ]
      refine wpAnyH_take (oi := ⟨_, _, _, _, _, _⟩) (i := 21) (v := ?_) rfl (by kernel_rfl) (by kernel_rfl) (by kernel_rfl) (fun _ _ _ h => h) (Or.inl ⟨by rfl, ?yp21⟩) (by assumption) ?rp21
      case yp21 => (intro w hSw; (try dsimp only at hSw); go_simp; (try with_reducible rfl))
      try simp only [Act.put, List.setIfInBounds_toArray, List.set_cons_zero, List.set_cons_succ]
      refine wpAnyH_take (oi := ⟨_, _, _, _, _, _⟩) (i := 22) (v := ?_) rfl (by kernel_rfl) (by kernel_rfl) (by kernel_rfl) (fun _ _ _ h => h) (Or.inl ⟨by rfl, ?yp22⟩) (by assumption) ?rp22
      case yp22 => (intro w hSw; (try dsimp only at hSw); go_simp; (try with_reducible rfl))
      try simp only [Act.put, List.setIfInBounds_toArray, List.set_cons_zero, List.set_cons_succ]
      refine wpAnyH_take (oi := ⟨_, _, _, _, _, _⟩) (i := 23) (v := ?_) rfl (by kernel_rfl) (by kernel_rfl) (by kernel_rfl) (fun _ _ _ h => h) (Or.inl ⟨by rfl, ?yp23⟩) (by assumption) ?rp23
      case yp23 => (intro w hSw; (try dsimp only at hSw); go_simp; (try with_reducible rfl))
      try simp only [Act.put, List.setIfInBounds_toArray, List.set_cons_zero, List.set_cons_succ]
      refine wpAnyH_take (oi := ⟨_, _, _, _, _, _⟩) (i := 24) (v := ?_) rfl (by kernel_rfl) (by kernel_rfl) (by kernel_rfl) (fun _ _ _ h => h) (Or.inl ⟨by rfl, ?yp24⟩) (by assumption) ?rp24
      case yp24 => (intro w hSw; (try dsimp only at hSw); go_simp; (try with_reducible rfl))
      try simp only [Act.put, List.setIfInBounds_toArray, List.set_cons_zero, List.set_cons_succ]
      refine wpAnyH_take (oi := ⟨_, _, _, _, _, _⟩) (i := 25) (v := ?_) rfl (by kernel_rfl) (by kernel_rfl) (by kernel_rfl) (fun _ _ _ h => h) (Or.inl ⟨by rfl, ?yp25⟩) (by assumption) ?rp25
      case yp25 => (intro w hSw; (try dsimp only at hSw); go_simp; (try with_reducible rfl))
      try simp only [Act.put, List.setIfInBounds_toArray, List.set_cons_zero, List.set_cons_succ]
      refine wpAnyH_done (by kernel_rfl) ?_ _
      have HB3 := hHeld.2.2.2
      clear hHeld
      go_wp2
      go_roundw
      case rel => exact ⟨i + 1, by omega, by go_num, HB3⟩
      case measure => simp [intOf]; omega
    · obtain rfl : i = Q.length := by omega
      clear LT
      go_wp2_with fail
      go_upto_region 12 with fail
      go_cut [11, 12] (fun s11 s12 wx => ∃ D cd fb, s11 = .slice D M.length cd ∧ s12 = .pointer (some ⟨fb, 0, none⟩) ∧ Hid (ReadsV wx D M) ∧ wx.cell? ⟨fb, 0, none⟩ = some (.int .i64 0) ∧ Hid (Below z x3 wx))
      case first =>
        refine wp_region_held_drew (S := fun w' => w'.cell? ⟨x1.heap.size, 0, none⟩ = some (.string n.nm) ∧ w'.cell? ⟨x1.heap.size, 1, none⟩ = some (.slice n.PA n.ps.length n.pc) ∧ w'.cell? ⟨x1.heap.size, 2, none⟩ = some (.slice n.TA n.ts.length n.tc) ∧ Hid (Below z x3 w')) (by kernel_rfl) ?_ (fun hHeld => ?_)
        · exact ⟨q0, q1, q2, HB2.out.drew⟩
        refine wpAnyH_take (oi := ⟨_, _, _, _, _, _⟩) (i := 0) (v := ?_) rfl (by kernel_rfl) (by kernel_rfl) (by kernel_rfl) (fun _ _ _ h => h) (Or.inl ⟨by rfl, ?yz1⟩) (by assumption) ?rz1
        case yz1 => (intro w hSw; (try dsimp only at hSw); go_simp; (try with_reducible rfl))
        try simp only [Act.put, List.setIfInBounds_toArray, List.set_cons_zero, List.set_cons_succ]
        refine wpAnyH_take (oi := ⟨_, _, _, _, _, _⟩) (i := 1) (v := ?_) rfl (by kernel_rfl) (by kernel_rfl) (by kernel_rfl) (fun _ _ _ h => h) (Or.inl ⟨by rfl, ?yz2⟩) (by assumption) ?rz2
        case yz2 => (intro w hSw; (try dsimp only at hSw); go_simp; (try with_reducible rfl))
        try simp only [Act.put, List.setIfInBounds_toArray, List.set_cons_zero, List.set_cons_succ]
        refine wpAnyH_take (oi := ⟨_, _, _, _, _, _⟩) (i := 3) (v := ?_) rfl (by kernel_rfl) (by kernel_rfl) (by kernel_rfl) (fun _ _ _ h => h) (Or.inl ⟨by rfl, ?yz3⟩) (by assumption) ?rz3
        case yz3 => (intro w hSw; (try dsimp only at hSw); go_simp; (try with_reducible rfl))
        try simp only [Act.put, List.setIfInBounds_toArray, List.set_cons_zero, List.set_cons_succ]
        generalize wr.drew = wdr at *
        refine wpAnyH_ready (rs := [2, 8]) (by kernel_rfl) (by simp) ?_
        refine (AllReadyH.cons (o := ⟨_, _, _, _, _, _⟩) rfl (fun K hK => ?_) (AllReadyH.cons (o := ⟨_, _, _, _, _, _⟩) rfl (fun K hK => ?_) AllReadyH.nil))
        · skip
          go_simp
          go_at_call 19; refine (CI.out _ (PZ.out _ hHeld.2.2.2.out).2.2.1).mono ?_; rintro e wc4 ⟨B4, c4, rfl, R4, K⟩; (try go_wp2_with fail)
          have R4 := Lib.hid R4
          refine hK.out _ _ ?_ (fun hHeld2 => ?_)
          · exact ⟨keepc hHeld.1 K, keepc hHeld.2.1 K, keepc hHeld.2.2.1 K, hHeld.2.2.2.out.trans (K.mono (by have := hHeld.2.2.2.out.size; rw [HZ.out]; exact this))⟩
          clear hK K hHeld
          have hHeld := hHeld2
          clear hHeld2
          try simp only [Act.put, List.setIfInBounds_toArray, List.set_cons_zero, List.set_cons_succ]
          refine wpAnyH_ready (rs := [4, 8]) (by kernel_rfl) (by simp) ?_
          refine (AllReadyH.cons (o := ⟨_, _, _, _, _, _⟩) rfl (fun K hK => ?_) (AllReadyH.cons (o := ⟨_, _, _, _, _, _⟩) rfl (fun K hK => ?_) AllReadyH.nil))
          · skip
            go_simp
            go_at_call 18; refine (CQ.out _ _ _ _ _ (PZ.out _ hHeld.2.2.2.out).2.2.1 R4.out (PZ.out _ hHeld.2.2.2.out).2.2.2.1).mono ?_; rintro e wc5 ⟨B5, c5, rfl, R5, K⟩; (try go_wp2_with fail)
            have R5 := Lib.hid R5
            have R4 := Lib.hid (R4.out.below K (Nat.le_refl _))
            refine hK.out _ _ ?_ (fun hHeld2 => ?_)
            · exact ⟨keepc hHeld.1 K, keepc hHeld.2.1 K, keepc hHeld.2.2.1 K, hHeld.2.2.2.out.trans (K.mono (by have := hHeld.2.2.2.out.size; rw [HZ.out]; exact this))⟩
            clear hK K hHeld
            have hHeld := hHeld2
            clear hHeld2
            try simp only [Act.put, List.setIfInBounds_toArray, List.set_cons_zero, List.set_cons_succ]
            refine wpAnyH_take (oi := ⟨_, _, _, _, _, _⟩) (i := 5) (v := ?_) rfl (by kernel_rfl) (by kernel_rfl) (by kernel_rfl) (fun _ _ _ h => h) (Or.inl ⟨by rfl, ?yz6⟩) (by assumption) ?rz6
            case yz6 => (intro w hSw; (try dsimp only at hSw); go_simp; (try with_reducible rfl))
            try simp only [Act.put, List.setIfInBounds_toArray, List.set_cons_zero, List.set_cons_succ]
            refine wpAnyH_take (oi := ⟨_, _, _, _, _, _⟩) (i := 6) (v := ?_) rfl (by kernel_rfl) (by kernel_rfl) (by kernel_rfl) (fun _ _ _ h => h) (Or.inl ⟨by rfl, ?yz7⟩) (by assumption) ?rz7
            case yz7 => (intro w hSw; (try dsimp only at hSw); go_simp; (try with_reducible rfl))
            try simp only [Act.put, List.setIfInBounds_toArray, List.set_cons_zero, List.set_cons_succ]
            refine wpAnyH_take (oi := ⟨_, _, _, _, _, _⟩) (i := 7) (v := ?_) rfl (by kernel_rfl) (by kernel_rfl) (by kernel_rfl) (fun _ _ _ h => h) (Or.inl ⟨by rfl, ?yz8⟩) (by assumption) ?rz8
            case yz8 => (intro w hSw; (try dsimp only at hSw); go_simp; (try with_reducible rfl))
            try simp only [Act.put, List.setIfInBounds_toArray, List.set_cons_zero, List.set_cons_succ]
            refine wpAnyH_ready (rs := [8]) (by kernel_rfl) (by simp) ?_
            refine (AllReadyH.cons (o := ⟨_, _, _, _, _, _⟩) rfl (fun K hK => ?_) AllReadyH.nil)
            have LA : Below wc5.heap.size wc5 (wc5.alloc (.cells #[.int .i64 0, .int .i64 0] 57)) := (Below.refl _ _).alloc (Nat.le_refl _) _
            have c0 : (wc5.alloc (.cells #[.int .i64 0, .int .i64 0] 57)).cell? ⟨wc5.heap.size, 0, none⟩ = some (.int .i64 0) := by simp
            have c1 : (wc5.alloc (.cells #[.int .i64 0, .int .i64 0] 57)).cell? ⟨wc5.heap.size, 1, none⟩ = some (.int .i64 0) := by simp
            have f0 : ∀ o, (wc5.alloc (.cells #[.int .i64 0, .int .i64 0] 57)).frozen? ⟨wc5.heap.size, o, none⟩ = false := fun o => by simp
            have hfz : z ≤ wc5.heap.size := by have := hHeld.2.2.2.out.size; rw [HZ.out]; exact this
            have R4 := Lib.hid (R4.out.below LA (Nat.le_refl _))
            have R5 := Lib.hid (R5.out.below LA (Nat.le_refl _))
            go_simp
            refine hK.out _ _ ?_ (fun hHeld2 => ?_)
            · exact ⟨keepc hHeld.1 LA, keepc hHeld.2.1 LA, keepc hHeld.2.2.1 LA, hHeld.2.2.2.out.trans (LA.mono (by have := hHeld.2.2.2.out.size; rw [HZ.out]; exact this))⟩
            clear hK K hHeld
            have hHeld := hHeld2
            clear hHeld2
            try simp only [Act.put, List.setIfInBounds_toArray, List.set_cons_zero, List.set_cons_succ]
            obtain ⟨wd9, hw2⟩ : ∃ wd9, wd9 = wc5.alloc (.cells #[.int .i64 0, .int .i64 0] 57) := ⟨_, rfl⟩
            rw [← hw2] at hHeld c0 c1 f0 R4 R5 ⊢
            clear hw2 LA
            obtain ⟨fb, hfb⟩ : ∃ fb, fb = wc5.heap.size := ⟨_, rfl⟩
            rw [← hfb] at c0 c1 f0 hfz ⊢
            clear hfb
            refine wpAnyH_take (oi := ⟨_, _, _, _, _, _⟩) (i := 9) (v := ?_) rfl (by kernel_rfl) (by kernel_rfl) (by kernel_rfl) (fun _ _ _ h => h) (Or.inl ⟨by rfl, ?yz10⟩) (by assumption) ?rz10
            case yz10 => (intro w hSw; (try dsimp only at hSw); go_simp; (try with_reducible rfl))
            try simp only [Act.put, List.setIfInBounds_toArray, List.set_cons_zero, List.set_cons_succ]
            refine wpAnyH_ready (rs := [10]) (by kernel_rfl) (by simp) ?_
            refine (AllReadyH.cons (o := ⟨_, _, _, _, _, _⟩) rfl (fun K hK => ?_) AllReadyH.nil)
            have f00 := f0 0
            have f01 := f0 1
            go_simp
            refine hK.out _ _ ?_ (fun hHeld2 => ?_)
            · exact ⟨cell_same (cell_same c0 c1) (cell_same c0 hHeld.1), cell_same (cell_same c0 c1) (cell_same c0 hHeld.2.1), cell_same (cell_same c0 c1) (cell_same c0 hHeld.2.2.1), (hHeld.2.2.2.out.setCell (p := ⟨fb, 0, none⟩) hfz _).setCell (p := ⟨fb, 1, none⟩) hfz _⟩
            have R9 := Lib.hid ((R5.out.same c0).same (cell_same c0 c1))
            have c9 := cell_same (cell_same c0 c1) (cell_same c0 c0)
            clear hK K hHeld
            have hHeld := hHeld2
            clear hHeld2
            try simp only [Act.put, List.setIfInBounds_toArray, List.set_cons_zero, List.set_cons_succ]
            refine wpAnyH_done (by kernel_rfl) ?_ _
            go_wp2_with fail
            go_meet
            exact ⟨_, _, _, rfl, rfl, R9, c9, hHeld.2.2.2⟩
          · skip
            have LA : Below wc4.heap.size wc4 (wc4.alloc (.cells #[.int .i64 0, .int .i64 0] 57)) := (Below.refl _ _).alloc (Nat.le_refl _) _
            have c0 : (wc4.alloc (.cells #[.int .i64 0, .int .i64 0] 57)).cell? ⟨wc4.heap.size, 0, none⟩ = some (.int .i64 0) := by simp
            have c1 : (wc4.alloc (.cells #[.int .i64 0, .int .i64 0] 57)).cell? ⟨wc4.heap.size, 1, none⟩ = some (.int .i64 0) := by simp
            have f0 : ∀ o, (wc4.alloc (.cells #[.int .i64 0, .int .i64 0] 57)).frozen? ⟨wc4.heap.size, o, none⟩ = false := fun o => by simp
            have hfz : z ≤ wc4.heap.size := by have := hHeld.2.2.2.out.size; rw [HZ.out]; exact this
            have R4 := Lib.hid (R4.out.below LA (Nat.le_refl _))
            go_simp
            refine hK.out _ _ ?_ (fun hHeld2 => ?_)
            · exact ⟨keepc hHeld.1 LA, keepc hHeld.2.1 LA, keepc hHeld.2.2.1 LA, hHeld.2.2.2.out.trans (LA.mono (by have := hHeld.2.2.2.out.size; rw [HZ.out]; exact this))⟩
            clear hK K hHeld
            have hHeld := hHeld2
            clear hHeld2
            try simp only [Act.put, List.setIfInBounds_toArray, List.set_cons_zero, List.set_cons_succ]
            obtain ⟨wd11, hw2⟩ : ∃ wd11, wd11 = wc4.alloc (.cells #[.int .i64 0, .int .i64 0] 57) := ⟨_, rfl⟩
            rw [← hw2] at hHeld c0 c1 f0 R4 ⊢
            clear hw2 LA
            obtain ⟨fb, hfb⟩ : ∃ fb, fb = wc4.heap.size := ⟨_, rfl⟩
            rw [← hfb] at c0 c1 f0 hfz ⊢
            clear hfb
            refine wpAnyH_ready (rs := [4]) (by kernel_rfl) (by simp) ?_
            refine (AllReadyH.cons (o := ⟨_, _, _, _, _, _⟩) rfl (fun K hK => ?_) AllReadyH.nil)
            go_simp
            go_at_call 18; refine (CQ.out _ _ _ _ _ (PZ.out _ hHeld.2.2.2.out).2.2.1 R4.out (PZ.out _ hHeld.2.2.2.out).2.2.2.1).mono ?_; rintro e wc12 ⟨B5, c5, rfl, R5, K⟩; (try go_wp2_with fail)
            have R5 := Lib.hid R5
            have R4 := Lib.hid (R4.out.below K (Nat.le_refl _))
            have f0 : ∀ o, _ = false := fun o => (K.frozen (p := ⟨fb, o, none⟩) (World.block_lt_of_cell? _ ⟨fb, 0, none⟩ c0)).trans (f0 o)
            have c0 := keepc c0 K
            have c1 := keepc c1 K
            refine hK.out _ _ ?_ (fun hHeld2 => ?_)
            · exact ⟨keepc hHeld.1 K, keepc hHeld.2.1 K, keepc hHeld.2.2.1 K, hHeld.2.2.2.out.trans (K.mono (by have := hHeld.2.2.2.out.size; rw [HZ.out]; exact this))⟩
            clear hK K hHeld
            have hHeld := hHeld2
            clear hHeld2
            try simp only [Act.put, List.setIfInBounds_toArray, List.set_cons_zero, List.set_cons_succ]
            refine wpAnyH_take (oi := ⟨_, _, _, _, _, _⟩) (i := 5) (v := ?_) rfl (by kernel_rfl) (by kernel_rfl) (by kernel_rfl) (fun _ _ _ h => h) (Or.inl ⟨by rfl, ?yz13⟩) (by assumption) ?rz13
            case yz13 => (intro w hSw; (try dsimp only at hSw); go_simp; (try with_reducible rfl))
            try simp only [Act.put, List.setIfInBounds_toArray, List.set_cons_zero, List.set_cons_succ]
            refine wpAnyH_take (oi := ⟨_, _, _, _, _, _⟩) (i := 6) (v := ?_) rfl (by kernel_rfl) (by kernel_rfl) (by kernel_rfl) (fun _ _ _ h => h) (Or.inl ⟨by rfl, ?yz14⟩) (by assumption) ?rz14
            case yz14 => (intro w hSw; (try dsimp only at hSw); go_simp; (try with_reducible rfl))
            try simp only [Act.put, List.setIfInBounds_toArray, List.set_cons_zero, List.set_cons_succ]
            refine wpAnyH_take (oi := ⟨_, _, _, _, _, _⟩) (i := 7) (v := ?_) rfl (by kernel_rfl) (by kernel_rfl) (by kernel_rfl) (fun _ _ _ h => h) (Or.inl ⟨by rfl, ?yz15⟩) (by assumption) ?rz15
            case yz15 => (intro w hSw; (try dsimp only at hSw); go_simp; (try with_reducible rfl))
            try simp only [Act.put, List.setIfInBounds_toArray, List.set_cons_zero, List.set_cons_succ]
            refine wpAnyH_take (oi := ⟨_, _, _, _, _, _⟩) (i := 9) (v := ?_) rfl (by kernel_rfl) (by kernel_rfl) (by kernel_rfl) (fun _ _ _ h => h) (Or.inl ⟨by rfl, ?yz16⟩) (by assumption) ?rz16
            case yz16 => (intro w hSw; (try dsimp only at hSw); go_simp; (try with_reducible rfl))
            try simp only [Act.put, List.setIfInBounds_toArray, List.set_cons_zero, List.set_cons_succ]
            refine wpAnyH_ready (rs := [10]) (by kernel_rfl) (by simp) ?_
            refine (AllReadyH.cons (o := ⟨_, _, _, _, _, _⟩) rfl (fun K hK => ?_) AllReadyH.nil)
            have f00 := f0 0
            have f01 := f0 1
            go_simp
            refine hK.out _ _ ?_ (fun hHeld2 => ?_)
            · exact ⟨cell_same (cell_same c0 c1) (cell_same c0 hHeld.1), cell_same (cell_same c0 c1) (cell_same c0 hHeld.2.1), cell_same (cell_same c0 c1) (cell_same c0 hHeld.2.2.1), (hHeld.2.2.2.out.setCell (p := ⟨fb, 0, none⟩) hfz _).setCell (p := ⟨fb, 1, none⟩) hfz _⟩
            have R9 := Lib.hid ((R5.out.same c0).same (cell_same c0 c1))
            have c9 := cell_same (cell_same c0 c1) (cell_same c0 c0)
            clear hK K hHeld
            have hHeld := hHeld2
            clear hHeld2
            try simp only [Act.put, List.setIfInBounds_toArray, List.set_cons_zero, List.set_cons_succ]
            refine wpAnyH_done (by kernel_rfl) ?_ _
            go_wp2_with fail
            go_meet
            exact ⟨_, _, _, rfl, rfl, R9, c9, hHeld.2.2.2⟩
        · skip
          have LA : Below wdr.heap.size wdr (wdr.alloc (.cells #[.int .i64 0, .int .i64 0] 57)) := (Below.refl _ _).alloc (Nat.le_refl _) _
          have c0 : (wdr.alloc (.cells #[.int .i64 0, .int .i64 0] 57)).cell? ⟨wdr.heap.size, 0, none⟩ = some (.int .i64 0) := by simp
          have c1 : (wdr.alloc (.cells #[.int .i64 0, .int .i64 0] 57)).cell? ⟨wdr.heap.size, 1, none⟩ = some (.int .i64 0) := by simp
          have f0 : ∀ o, (wdr.alloc (.cells #[.int .i64 0, .int .i64 0] 57)).frozen? ⟨wdr.heap.size, o, none⟩ = false := fun o => by simp
          have hfz : z ≤ wdr.heap.size := by have := hHeld.2.2.2.out.size; rw [HZ.out]; exact this
          go_simp
          refine hK.out _ _ ?_ (fun hHeld2 => ?_)
          · exact ⟨keepc hHeld.1 LA, keepc hHeld.2.1 LA, keepc hHeld.2.2.1 LA, hHeld.2.2.2.out.trans (LA.mono (by have := hHeld.2.2.2.out.size; rw [HZ.out]; exact this))⟩
          clear hK K hHeld
          have hHeld := hHeld2
          clear hHeld2
          try simp only [Act.put, List.setIfInBounds_toArray, List.set_cons_zero, List.set_cons_succ]
          obtain ⟨wd17, hw2⟩ : ∃ wd17, wd17 = wdr.alloc (.cells #[.int .i64 0, .int .i64 0] 57) := ⟨_, rfl⟩
          rw [← hw2] at hHeld c0 c1 f0  ⊢
          clear hw2 LA
          obtain ⟨fb, hfb⟩ : ∃ fb, fb = wdr.heap.size := ⟨_, rfl⟩
          rw [← hfb] at c0 c1 f0 hfz ⊢
          clear hfb
          refine wpAnyH_ready (rs := [2]) (by kernel_rfl) (by simp) ?_
          refine (AllReadyH.cons (o := ⟨_, _, _, _, _, _⟩) rfl (fun K hK => ?_) AllReadyH.nil)
          go_simp
          go_at_call 19; refine (CI.out _ (PZ.out _ hHeld.2.2.2.out).2.2.1).mono ?_; rintro e wc18 ⟨B4, c4, rfl, R4, K⟩; (try go_wp2_with fail)
          have R4 := Lib.hid R4
          have f0 : ∀ o, _ = false := fun o => (K.frozen (p := ⟨fb, o, none⟩) (World.block_lt_of_cell? _ ⟨fb, 0, none⟩ c0)).trans (f0 o)
          have c0 := keepc c0 K
          have c1 := keepc c1 K
          refine hK.out _ _ ?_ (fun hHeld2 => ?_)
          · exact ⟨keepc hHeld.1 K, keepc hHeld.2.1 K, keepc hHeld.2.2.1 K, hHeld.2.2.2.out.trans (K.mono (by have := hHeld.2.2.2.out.size; rw [HZ.out]; exact this))⟩
          clear hK K hHeld
          have hHeld := hHeld2
          clear hHeld2
          try simp only [Act.put, List.setIfInBounds_toArray, List.set_cons_zero, List.set_cons_succ]
          refine wpAnyH_ready (rs := [4]) (by kernel_rfl) (by simp) ?_
          refine (AllReadyH.cons (o := ⟨_, _, _, _, _, _⟩) rfl (fun K hK => ?_) AllReadyH.nil)
          go_simp
          go_at_call 18; refine (CQ.out _ _ _ _ _ (PZ.out _ hHeld.2.2.2.out).2.2.1 R4.out (PZ.out _ hHeld.2.2.2.out).2.2.2.1).mono ?_; rintro e wc19 ⟨B5, c5, rfl, R5, K⟩; (try go_wp2_with fail)
          have R5 := Lib.hid R5
          have R4 := Lib.hid (R4.out.below K (Nat.le_refl _))
          have f0 : ∀ o, _ = false := fun o => (K.frozen (p := ⟨fb, o, none⟩) (World.block_lt_of_cell? _ ⟨fb, 0, none⟩ c0)).trans (f0 o)
          have c0 := keepc c0 K
          have c1 := keepc c1 K
          refine hK.out _ _ ?_ (fun hHeld2 => ?_)
          · exact ⟨keepc hHeld.1 K, keepc hHeld.2.1 K, keepc hHeld.2.2.1 K, hHeld.2.2.2.out.trans (K.mono (by have := hHeld.2.2.2.out.size; rw [HZ.out]; exact this))⟩
          clear hK K hHeld
          have hHeld := hHeld2
          clear hHeld2
          try simp only [Act.put, List.setIfInBounds_toArray, List.set_cons_zero, List.set_cons_succ]
          refine wpAnyH_take (oi := ⟨_, _, _, _, _, _⟩) (i := 5) (v := ?_) rfl (by kernel_rfl) (by kernel_rfl) (by kernel_rfl) (fun _ _ _ h => h) (Or.inl ⟨by rfl, ?yz20⟩) (by assumption) ?rz20
          case yz20 => (intro w hSw; (try dsimp only at hSw); go_simp; (try with_reducible rfl))
          try simp only [Act.put, List.setIfInBounds_toArray, List.set_cons_zero, List.set_cons_succ]
          refine wpAnyH_take (oi := ⟨_, _, _, _, _, _⟩) (i := 6) (v := ?_) rfl (by kernel_rfl) (by kernel_rfl) (by kernel_rfl) (fun _ _ _ h => h) (Or.inl ⟨by rfl, ?yz21⟩) (by assumption) ?rz21
          case yz21 => (intro w hSw; (try dsimp only at hSw); go_simp; (try with_reducible rfl))
          try simp only [Act.put, List.setIfInBounds_toArray, List.set_cons_zero, List.set_cons_succ]
          refine wpAnyH_take (oi := ⟨_, _, _, _, _, _⟩) (i := 7) (v := ?_) rfl (by kernel_rfl) (by kernel_rfl) (by kernel_rfl) (fun _ _ _ h => h) (Or.inl ⟨by rfl, ?yz22⟩) (by assumption) ?rz22
          case yz22 => (intro w hSw; (try dsimp only at hSw); go_simp; (try with_reducible rfl))
          try simp only [Act.put, List.setIfInBounds_toArray, List.set_cons_zero, List.set_cons_succ]
          refine wpAnyH_take (oi := ⟨_, _, _, _, _, _⟩) (i := 9) (v := ?_) rfl (by kernel_rfl) (by kernel_rfl) (by kernel_rfl) (fun _ _ _ h => h) (Or.inl ⟨by rfl, ?yz23⟩) (by assumption) ?rz23
          case yz23 => (intro w hSw; (try dsimp only at hSw); go_simp; (try with_reducible rfl))
          try simp only [Act.put, List.setIfInBounds_toArray, List.set_cons_zero, List.set_cons_succ]
          refine wpAnyH_ready (rs := [10]) (by kernel_rfl) (by simp) ?_
          refine (AllReadyH.cons (o := ⟨_, _, _, _, _, _⟩) rfl (fun K hK => ?_) AllReadyH.nil)
          have f00 := f0 0
          have f01 := f0 1
          go_simp
          refine hK.out _ _ ?_ (fun hHeld2 => ?_)
          · exact ⟨cell_same (cell_same c0 c1) (cell_same c0 hHeld.1), cell_same (cell_same c0 c1) (cell_same c0 hHeld.2.1), cell_same (cell_same c0 c1) (cell_same c0 hHeld.2.2.1), (hHeld.2.2.2.out.setCell (p := ⟨fb, 0, none⟩) hfz _).setCell (p := ⟨fb, 1, none⟩) hfz _⟩
          have R9 := Lib.hid ((R5.out.same c0).same (cell_same c0 c1))
          have c9 := cell_same (cell_same c0 c1) (cell_same c0 c0)
          clear hK K hHeld
          have hHeld := hHeld2
          clear hHeld2
          try simp only [Act.put, List.setIfInBounds_toArray, List.set_cons_zero, List.set_cons_succ]
          refine wpAnyH_done (by kernel_rfl) ?_ _
          go_wp2_with fail
          go_meet
          exact ⟨_, _, _, rfl, rfl, R9, c9, hHeld.2.2.2⟩
      obtain ⟨wq, rfl⟩ : ∃ v, v = wc := ⟨_, rfl⟩
      obtain ⟨D, cd, fb, rfl, rfl, RD, cf, HB3⟩ := hcut
      clear CI CQ HW RQ RM HB2 q0 q1 q2 a0 a2
      obtain ⟨⟨q0, q1, q2⟩, ⟨a0, a2⟩, hW, rq, rm⟩ := PZ.out _ HB3.out
      have C1 := Lib.hid (CM.out _ _ cd _ d1 RD.out rm)
      have hzq := HB3.out.size
      rw [← HZ.out] at hzq
      have z1 : decide ((N : Int) < (Q.length : Int)) = false := decide_eq_false (by omega)
      have z2 : ¬ N < Q.length := by omega
      have z3 : decide (N < Q.length) = false := decide_eq_false z2
      clear hW rq rm CM
      generalize hql : Q.length = ql at *
      have HQL := Lib.hid hql
      clear hql
      go_wp2_with fail
      refine C1.out.mono ?_
      rintro e x5 ⟨rfl, K⟩
      have q0 := keepc q0 K
      have q1 := keepc q1 K
      have q2 := keepc q2 K
      have a0 := keepc a0 K
      have a2 := keepc a2 K
      have HB5 := Lib.hid (HB3.out.trans (K.mono hzq))
      clear K HB3 C1 RD cf
      have C2 := Lib.hid (CLS.out _ _ d1 (PZ.out _ HB5.out).2.2.1 (PZ.out _ HB5.out).2.2.2.2)
      go_wp2_with fail
      refine C2.out.mono ?_
      rintro e x6 ⟨AM, cm, rfl, RMY, K⟩
      have hz5 := HB5.out.size
      rw [← HZ.out] at hz5
      have HB6 := Lib.hid (HB5.out.trans (K.mono hz5))
      have RMY := Lib.hid RMY
      clear K HB5 C2 CLS q0 q1 q2 a0 a2
      have hz6 := HB6.out.size
      rw [← HZ.out] at hz6
      go_wp2_with fail
      go_loopw [14] (fun p wr => ∃ i : Nat, i ≤ MY.length ∧ p = .int .i64 i ∧ Hid (Below x6.heap.size x6 wr)) (fun p _ => MY.length - (intOf p).toNat)
      case atStart => exact ⟨0, by omega, rfl, Below.refl _ _⟩
      case round =>
        obtain ⟨i, hi, rfl, HB7⟩ := hrel
        have HB8 := Lib.hid (HB6.out.trans (HB7.out.mono hz6))
        obtain ⟨-, ⟨a0, a2⟩, hW, -, -⟩ := PZ.out _ HB8.out
        have HW := Lib.hid hW
        clear hW
        by_cases hlt : i < MY.length
        · by_cases hqn : ql < N
          · obtain ⟨t, et, ht, hw1⟩ := MAY.out hqn i hlt
            obtain ⟨bq, oq, e1, hxq⟩ := at_of_reads (RMY.out.below HB7.out (Nat.le_refl _)) i hlt
            rw [et] at hxq
            obtain ⟨bw, ow, e2, hxw⟩ := at_of_reads (CWS.out _ HW.out) t ht
            subst e1
            subst e2
            have z4 : decide (0 < at0 ws t) = false := decide_eq_false (by omega)
            clear et MAY
            generalize at0 ws t = x at *
            generalize ws.length = wl at *
            go_wp2_with fail
            go_upto_region 19 with fail
            refine wp_region_held_drew (S := fun w' => w'.cell? ⟨bq, oq + i, none⟩ = some (.int .i64 (t : Int)) ∧ w'.cell? ⟨bw, ow + t, none⟩ = some (.int .i64 x) ∧ w'.cell? ⟨w.heap.size + 1, 0, none⟩ = some (.slice (some ⟨bw, ow, none⟩) wl c) ∧ Hid (Below x6.heap.size x6 w')) (by kernel_rfl) ?_ (fun hHeld => ?_)
            · exact ⟨hxq, hxw, a0, HB7.out.drew⟩
            refine wpAnyH_take (oi := ⟨_, _, _, _, _, _⟩) (i := 0) (v := ?_) rfl (by kernel_rfl) (by kernel_rfl) (by kernel_rfl) (fun _ _ _ h => h) (Or.inl ⟨by rfl, ?yr0⟩) (by assumption) ?rr0
            case yr0 => (intro w hSw; (try dsimp only at hSw); go_simp; (try with_reducible rfl))
            try simp only [Act.put, List.setIfInBounds_toArray, List.set_cons_zero, List.set_cons_succ]
            refine wpAnyH_take (oi := ⟨_, _, _, _, _, _⟩) (i := 1) (v := ?_) rfl (by kernel_rfl) (by kernel_rfl) (by kernel_rfl) (fun _ _ _ h => h) (Or.inl ⟨by rfl, ?yr1⟩) (by assumption) ?rr1
            case yr1 => (intro w hSw; (try dsimp only at hSw); go_simp; (try with_reducible rfl))
            try simp only [Act.put, List.setIfInBounds_toArray, List.set_cons_zero, List.set_cons_succ]
            refine wpAnyH_take (oi := ⟨_, _, _, _, _, _⟩) (i := 2) (v := ?_) rfl (by kernel_rfl) (by kernel_rfl) (by kernel_rfl) (fun _ _ _ h => h) (Or.inl ⟨by rfl, ?yr2⟩) (by assumption) ?rr2
            case yr2 => (intro w hSw; (try dsimp only at hSw); go_simp; (try with_reducible rfl))
            try simp only [Act.put, List.setIfInBounds_toArray, List.set_cons_zero, List.set_cons_succ]
            refine wpAnyH_take (oi := ⟨_, _, _, _, _, _⟩) (i := 3) (v := ?_) rfl (by kernel_rfl) (by kernel_rfl) (by kernel_rfl) (fun _ _ _ h => h) (Or.inl ⟨by rfl, ?yr3⟩) (by assumption) ?rr3
            case yr3 => (intro w hSw; (try dsimp only at hSw); go_simp; (try with_reducible rfl))
            try simp only [Act.put, List.setIfInBounds_toArray, List.set_cons_zero, List.set_cons_succ]
            refine wpAnyH_take (oi := ⟨_, _, _, _, _, _⟩) (i := 4) (v := ?_) rfl (by kernel_rfl) (by kernel_rfl) (by kernel_rfl) (fun _ _ _ h => h) (Or.inl ⟨by rfl, ?yr4⟩) (by assumption) ?rr4
            case yr4 => (intro w hSw; (try dsimp only at hSw); go_simp; (try with_reducible rfl))
            try simp only [Act.put, List.setIfInBounds_toArray, List.set_cons_zero, List.set_cons_succ]
            refine wpAnyH_take (oi := ⟨_, _, _, _, _, _⟩) (i := 5) (v := ?_) rfl (by kernel_rfl) (by kernel_rfl) (by kernel_rfl) (fun _ _ _ h => h) (Or.inl ⟨by rfl, ?yr5⟩) (by assumption) ?rr5
            case yr5 => (intro w hSw; (try dsimp only at hSw); go_simp; (try with_reducible rfl))
            try simp only [Act.put, List.setIfInBounds_toArray, List.set_cons_zero, List.set_cons_succ]
            refine wpAnyH_take (oi := ⟨_, _, _, _, _, _⟩) (i := 6) (v := ?_) rfl (by kernel_rfl) (by kernel_rfl) (by kernel_rfl) (fun _ _ _ h => h) (Or.inl ⟨by rfl, ?yr6⟩) (by assumption) ?rr6
            case yr6 => (intro w hSw; (try dsimp only at hSw); go_simp; (try with_reducible rfl))
            try simp only [Act.put, List.setIfInBounds_toArray, List.set_cons_zero, List.set_cons_succ]
            refine wpAnyH_take (oi := ⟨_, _, _, _, _, _⟩) (i := 7) (v := ?_) rfl (by kernel_rfl) (by kernel_rfl) (by kernel_rfl) (fun _ _ _ h => h) (Or.inl ⟨by rfl, ?yr7⟩) (by assumption) ?rr7
            case yr7 => (intro w hSw; (try dsimp only at hSw); go_simp; (try with_reducible rfl))
            try simp only [Act.put, List.setIfInBounds_toArray, List.set_cons_zero, List.set_cons_succ]
            refine wpAnyH_take (oi := ⟨_, _, _, _, _, _⟩) (i := 8) (v := ?_) rfl (by kernel_rfl) (by kernel_rfl) (by kernel_rfl) (fun _ _ _ h => h) (Or.inl ⟨by rfl, ?yr8⟩) (by assumption) ?rr8
            case yr8 => (intro w hSw; (try dsimp only at hSw); go_simp; (try with_reducible rfl))
            try simp only [Act.put, List.setIfInBounds_toArray, List.set_cons_zero, List.set_cons_succ]
            refine wpAnyH_done (by kernel_rfl) ?_ _
            have HB9 := hHeld.2.2.2
            clear hHeld
            go_wp2
            go_roundw
            case rel => exact ⟨i + 1, by omega, by go_num, HB9⟩
            case measure => simp [intOf]; omega
          · have z7 : decide (ql < N) = false := decide_eq_false hqn
            clear MAY
            go_wp2_with fail
            refine (CX.out _).mono ?_
            rintro e x9 ⟨rfl, K⟩
            have D9 := Lib.hid (HW.out.trans (K.mono HW.out.size))
            clear K
            go_wp2
            go_ret
            exact ⟨rfl, D9.out⟩
        · clear MAY
          go_wp2_with fail
          refine (CX.out _).mono ?_
          rintro e x9 ⟨rfl, K⟩
          have D9 := Lib.hid (HW.out.trans (K.mono HW.out.size))
          clear K
          go_wp2
          go_ret
          exact ⟨rfl, D9.out⟩
end Go.Proofs.Ytpfkkjgklhcejaa
