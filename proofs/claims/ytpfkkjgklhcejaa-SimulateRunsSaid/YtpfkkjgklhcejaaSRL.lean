/- The law on runs: they are those of the reference. -/
import Derived.Test.YtpfkkjgklhcejaaSRR
import Derived.Test.YtpfkkjgklhcejaaSN
namespace Go.Proofs.Ytpfkkjgklhcejaa
open Go.RowKit

theorem last_at (m0 : List Int) (h : Hist) : (m0 :: marks h)[h.length]?.getD [] = lastM m0 h := by
  unfold lastM
  rw [List.getLast?_eq_getElem?]
  cases h with
  | nil => rfl
  | cons x xs =>
    unfold marks
    rw [List.length_cons, List.getElem?_cons_succ, List.getElem?_map, show xs.length + 1 - 1 = xs.length from rfl, List.getElem?_eq_getElem (by simp)]
    rfl
theorem len0_of {L : List Row} (h : rowsL L = []) : L.length = 0 := by rw [← rowsL_len, h]; rfl

set_option maxHeartbeats 16000000 in
set_option maxRecDepth 100000 in
theorem runs_law (n : NetV) (A : Option Addr) (ws : List Int) (c s0 : Nat) (steps : Int) (w : World) (hr : NetW w n) (hw : ReadsV w A ws) (hl : ws.length ≤ maxLen) :
    Calls Try.prog 3 #[.agg #[.string n.nm, .slice n.PA n.ps.length n.pc, .slice n.TA n.ts.length n.tc], .agg #[.slice A ws.length c, .int .u64 (s0 : Nat), .int .i64 steps]] w fun e w' => e = .returned (.bool true) ∧ Below w.heap.size w w' := by
  have CS : Hid (∀ W, Below w.heap.size w W → Calls Try.prog 7 #[.agg #[.string n.nm, .slice n.PA n.ps.length n.pc, .slice n.TA n.ts.length n.tc]] W (SmallPost W.heap.size W n)) := fun W hW => small_any n W (hr.below hW (Nat.le_refl _))
  have CX : Hid (∀ W, Calls Try.prog 9 #[] W (VPost W.heap.size W (.bool true))) := example_any
  have CLG : Hid (∀ W, Calls Try.prog 8 #[.agg #[.slice A ws.length c, .int .u64 (s0 : Nat), .int .i64 steps]] W (VPost W.heap.size W (.bool (longB ws steps)))) := fun W => long_any A ws c s0 steps W
  have B0 : Hid (Below w.heap.size w ((w.alloc (.cells #[.string n.nm, .slice n.PA n.ps.length n.pc, .slice n.TA n.ts.length n.tc] 25)).alloc (.cells #[.slice A ws.length c, .int .u64 (s0 : Nat), .int .i64 steps] 29))) := ((Below.refl _ _).alloc (Nat.le_refl _) _).alloc (by simp) _
  have a0 : ((w.alloc (.cells #[.string n.nm, .slice n.PA n.ps.length n.pc, .slice n.TA n.ts.length n.tc] 25)).alloc (.cells #[.slice A ws.length c, .int .u64 (s0 : Nat), .int .i64 steps] 29)).cell? ⟨w.heap.size + 1, 0, none⟩ = some (.slice A ws.length c) := by rw [← World.size_alloc w (.cells #[.string n.nm, .slice n.PA n.ps.length n.pc, .slice n.TA n.ts.length n.tc] 25)]; simp
  have a1 : ((w.alloc (.cells #[.string n.nm, .slice n.PA n.ps.length n.pc, .slice n.TA n.ts.length n.tc] 25)).alloc (.cells #[.slice A ws.length c, .int .u64 (s0 : Nat), .int .i64 steps] 29)).cell? ⟨w.heap.size + 1, 1, none⟩ = some (.int .u64 (s0 : Nat)) := by rw [← World.size_alloc w (.cells #[.string n.nm, .slice n.PA n.ps.length n.pc, .slice n.TA n.ts.length n.tc] 25)]; simp
  have a2 : ((w.alloc (.cells #[.string n.nm, .slice n.PA n.ps.length n.pc, .slice n.TA n.ts.length n.tc] 25)).alloc (.cells #[.slice A ws.length c, .int .u64 (s0 : Nat), .int .i64 steps] 29)).cell? ⟨w.heap.size + 1, 2, none⟩ = some (.int .i64 steps) := by rw [← World.size_alloc w (.cells #[.string n.nm, .slice n.PA n.ps.length n.pc, .slice n.TA n.ts.length n.tc] 25)]; simp
  cases hs : smallN n
  · have CS2 : Hid (∀ W, Below w.heap.size w W → Calls Try.prog 7 #[.agg #[.string n.nm, .slice n.PA n.ps.length n.pc, .slice n.TA n.ts.length n.tc]] W (fun e w' => e = .returned (.tuple #[.agg #[.string ⟨#[]⟩, .slice none 0 0, .slice none 0 0], .bool false]) ∧ Below W.heap.size W w')) := fun W hW => (CS.out W hW).mono fun e w' h => by
      unfold SmallPost at h
      rw [hs, if_neg (by simp)] at h
      exact h
    clear CS hs CLG hr hw hl
    go_enter Try.func3, Try.ntmps3
    go_wp2_with fail
    refine (CS2.out _ B0.out).mono ?_
    rintro e x1 ⟨rfl, K⟩
    have a0 := keepc a0 K
    have a1 := keepc a1 K
    have a2 := keepc a2 K
    have Dx1 := Lib.hid (B0.out.trans (K.mono B0.out.size))
    clear K
    have Dx1a := Lib.hid (Dx1.out.alloc Dx1.out.size (.cells #[.string ⟨#[]⟩, .slice none 0 0, .slice none 0 0] 25))
    have a0 := cellA a0 (.cells #[.string ⟨#[]⟩, .slice none 0 0, .slice none 0 0] 25)
    have a1 := cellA a1 (.cells #[.string ⟨#[]⟩, .slice none 0 0, .slice none 0 0] 25)
    have a2 := cellA a2 (.cells #[.string ⟨#[]⟩, .slice none 0 0, .slice none 0 0] 25)
    go_wp2_with fail
    refine (CX.out _).mono ?_
    rintro e x2 ⟨rfl, K⟩
    have a0 := keepc a0 K
    have a1 := keepc a1 K
    have a2 := keepc a2 K
    have Dx2 := Lib.hid (Dx1a.out.trans (K.mono Dx1a.out.size))
    clear K
    go_wp2
    go_ret
    exact ⟨rfl, Dx2.out⟩
  have hr0 := small_ok hr hs
  have CS2 : Hid (∀ W, Below w.heap.size w W → Calls Try.prog 7 #[.agg #[.string n.nm, .slice n.PA n.ps.length n.pc, .slice n.TA n.ts.length n.tc]] W (fun e w' => e = .returned (.tuple #[.agg #[.string n.nm, .slice n.PA n.ps.length n.pc, .slice n.TA n.ts.length n.tc], .bool true]) ∧ Below W.heap.size W w')) := fun W hW => (CS.out W hW).mono fun e w' h => by
    unfold SmallPost at h
    rw [hs, if_pos rfl] at h
    exact h
  clear CS
  cases hlg : longB ws steps
  rotate_left
  · rw [hlg] at CLG
    clear hs hr hr0 hw hl hlg
    go_enter Try.func3, Try.ntmps3
    go_wp2_with fail
    refine (CS2.out _ B0.out).mono ?_
    rintro e x1 ⟨rfl, K⟩
    have a0 := keepc a0 K
    have a1 := keepc a1 K
    have a2 := keepc a2 K
    have Dx1 := Lib.hid (B0.out.trans (K.mono B0.out.size))
    clear K
    have a0 := cellA a0 (.cells #[.string n.nm, .slice n.PA n.ps.length n.pc, .slice n.TA n.ts.length n.tc] 25)
    have a1 := cellA a1 (.cells #[.string n.nm, .slice n.PA n.ps.length n.pc, .slice n.TA n.ts.length n.tc] 25)
    have a2 := cellA a2 (.cells #[.string n.nm, .slice n.PA n.ps.length n.pc, .slice n.TA n.ts.length n.tc] 25)
    have q0 : (x1.alloc (.cells #[.string n.nm, .slice n.PA n.ps.length n.pc, .slice n.TA n.ts.length n.tc] 25)).cell? ⟨x1.heap.size, 0, none⟩ = some (.string n.nm) := by simp
    have q1 : (x1.alloc (.cells #[.string n.nm, .slice n.PA n.ps.length n.pc, .slice n.TA n.ts.length n.tc] 25)).cell? ⟨x1.heap.size, 1, none⟩ = some (.slice n.PA n.ps.length n.pc) := by simp
    have q2 : (x1.alloc (.cells #[.string n.nm, .slice n.PA n.ps.length n.pc, .slice n.TA n.ts.length n.tc] 25)).cell? ⟨x1.heap.size, 2, none⟩ = some (.slice n.TA n.ts.length n.tc) := by simp
    have Dx1a := Lib.hid (Dx1.out.alloc Dx1.out.size (.cells #[.string n.nm, .slice n.PA n.ps.length n.pc, .slice n.TA n.ts.length n.tc] 25))
    go_wp2_with fail
    refine (CLG.out _).mono ?_
    rintro e x2 ⟨rfl, K⟩
    have q0 := keepc q0 K
    have q1 := keepc q1 K
    have q2 := keepc q2 K
    have a0 := keepc a0 K
    have a1 := keepc a1 K
    have a2 := keepc a2 K
    have Dx2 := Lib.hid (Dx1a.out.trans (K.mono Dx1a.out.size))
    clear K
    go_wp2_with fail
    refine (CX.out _).mono ?_
    rintro e x3 ⟨rfl, K⟩
    have q0 := keepc q0 K
    have q1 := keepc q1 K
    have q2 := keepc q2 K
    have a0 := keepc a0 K
    have a1 := keepc a1 K
    have a2 := keepc a2 K
    have Dx3 := Lib.hid (Dx2.out.trans (K.mono Dx2.out.size))
    clear K
    go_wp2
    go_ret
    exact ⟨rfl, Dx3.out⟩
  rw [hlg] at CLG
  have hlg2 : ¬ (60 < steps ∧ steps ≤ 10000) ∧ ws.length ≤ 200 := by
    unfold longB at hlg
    rw [Bool.or_eq_false_iff, decide_eq_false_iff_not, decide_eq_false_iff_not] at hlg
    exact ⟨hlg.1, by omega⟩
  have CR : Hid (∀ W, Below w.heap.size w W → Calls Try.prog 10 #[.agg #[.string n.nm, .slice n.PA n.ps.length n.pc, .slice n.TA n.ts.length n.tc], .slice A ws.length c, .int .u64 (s0 : Nat), .int .i64 steps] W (RPost W.heap.size W (runR n ws steps s0))) := fun W hW => srun_any n A ws c s0 steps W (hr0.below hW (Nat.le_refl _)) (hw.below hW (Nat.le_refl _)) (by omega)
  have CT : Hid (∀ W, Below w.heap.size w W → Calls Try.prog 11 #[.agg #[.string n.nm, .slice n.PA n.ps.length n.pc, .slice n.TA n.ts.length n.tc], .slice A ws.length c, .int .u64 (s0 : Nat), .int .i64 steps] W (TPost W.heap.size W (trR n ws steps s0))) := fun W hW => strace_any n A ws c s0 steps W (hr0.below hW (Nat.le_refl _)) (hw.below hW (Nat.le_refl _)) (by omega)
  have CA : Hid (∀ W, Below w.heap.size w W → Calls Try.prog 12 #[.agg #[.string n.nm, .slice n.PA n.ps.length n.pc, .slice n.TA n.ts.length n.tc], .slice A ws.length c, .int .i64 steps] W (VPost W.heap.size W (.int .i64 (argE n ws steps)))) := fun W hW => rargs_any n A ws c steps W (hr0.below hW (Nat.le_refl _)) (hw.below hW (Nat.le_refl _)) (by omega)
  by_cases hE : argE n ws steps = 0
  rotate_left
  · rw [runR_err s0 hE] at CR
    rw [trR_err s0 hE] at CT
    have hz : (argE n ws steps != 0) = true := by simpa using hE
    generalize argE n ws steps = E at *
    have CR2 : Hid (∀ W, Below w.heap.size w W → Calls Try.prog 10 #[.agg #[.string n.nm, .slice n.PA n.ps.length n.pc, .slice n.TA n.ts.length n.tc], .slice A ws.length c, .int .u64 (s0 : Nat), .int .i64 steps] W (fun e w' => ∃ A1 c1 B1 d1, e = .returned (.tuple #[.slice A1 0 c1, .slice B1 0 d1, .int .i64 E]) ∧ Below W.heap.size W w')) := fun W hW => (CR.out W hW).mono fun e w' ⟨A1, c1, B1, d1, h1, _, _, h2⟩ => ⟨A1, c1, B1, d1, h1, h2⟩
    have CT2 : Hid (∀ W, Below w.heap.size w W → Calls Try.prog 11 #[.agg #[.string n.nm, .slice n.PA n.ps.length n.pc, .slice n.TA n.ts.length n.tc], .slice A ws.length c, .int .u64 (s0 : Nat), .int .i64 steps] W (fun e w' => ∃ A1 c1, e = .returned (.tuple #[.slice A1 0 c1, .int .i64 E]) ∧ Below W.heap.size W w')) := fun W hW => (CT.out W hW).mono fun e w' ⟨A1, c1, L, h1, h2, _, h3⟩ => ⟨A1, c1, by rw [h1, len0_of h2], h3⟩
    clear hs hr hr0 hw hl hlg hlg2 hE CR CT
    go_enter Try.func3, Try.ntmps3
    go_wp2_with fail
    refine (CS2.out _ B0.out).mono ?_
    rintro e x1 ⟨rfl, K⟩
    have a0 := keepc a0 K
    have a1 := keepc a1 K
    have a2 := keepc a2 K
    have Dx1 := Lib.hid (B0.out.trans (K.mono B0.out.size))
    clear K
    have a0 := cellA a0 (.cells #[.string n.nm, .slice n.PA n.ps.length n.pc, .slice n.TA n.ts.length n.tc] 25)
    have a1 := cellA a1 (.cells #[.string n.nm, .slice n.PA n.ps.length n.pc, .slice n.TA n.ts.length n.tc] 25)
    have a2 := cellA a2 (.cells #[.string n.nm, .slice n.PA n.ps.length n.pc, .slice n.TA n.ts.length n.tc] 25)
    have q0 : (x1.alloc (.cells #[.string n.nm, .slice n.PA n.ps.length n.pc, .slice n.TA n.ts.length n.tc] 25)).cell? ⟨x1.heap.size, 0, none⟩ = some (.string n.nm) := by simp
    have q1 : (x1.alloc (.cells #[.string n.nm, .slice n.PA n.ps.length n.pc, .slice n.TA n.ts.length n.tc] 25)).cell? ⟨x1.heap.size, 1, none⟩ = some (.slice n.PA n.ps.length n.pc) := by simp
    have q2 : (x1.alloc (.cells #[.string n.nm, .slice n.PA n.ps.length n.pc, .slice n.TA n.ts.length n.tc] 25)).cell? ⟨x1.heap.size, 2, none⟩ = some (.slice n.TA n.ts.length n.tc) := by simp
    have Dx1a := Lib.hid (Dx1.out.alloc Dx1.out.size (.cells #[.string n.nm, .slice n.PA n.ps.length n.pc, .slice n.TA n.ts.length n.tc] 25))
    go_wp2_with fail
    refine (CLG.out _).mono ?_
    rintro e x2 ⟨rfl, K⟩
    have q0 := keepc q0 K
    have q1 := keepc q1 K
    have q2 := keepc q2 K
    have a0 := keepc a0 K
    have a1 := keepc a1 K
    have a2 := keepc a2 K
    have Dx2 := Lib.hid (Dx1a.out.trans (K.mono Dx1a.out.size))
    clear K
    go_wp2_with fail
    refine (CR2.out _ Dx2.out).mono ?_
    rintro e x3 ⟨A1, c1, B1, d1, rfl, K⟩
    have q0 := keepc q0 K
    have q1 := keepc q1 K
    have q2 := keepc q2 K
    have a0 := keepc a0 K
    have a1 := keepc a1 K
    have a2 := keepc a2 K
    have Dx3 := Lib.hid (Dx2.out.trans (K.mono Dx2.out.size))
    clear K
    go_wp2_with fail
    refine (CT2.out _ Dx3.out).mono ?_
    rintro e x4 ⟨A2, c2, rfl, K⟩
    have q0 := keepc q0 K
    have q1 := keepc q1 K
    have q2 := keepc q2 K
    have a0 := keepc a0 K
    have a1 := keepc a1 K
    have a2 := keepc a2 K
    have Dx4 := Lib.hid (Dx3.out.trans (K.mono Dx3.out.size))
    clear K
    go_wp2_with fail
    refine (CA.out _ Dx4.out).mono ?_
    rintro e x5 ⟨rfl, K⟩
    have q0 := keepc q0 K
    have q1 := keepc q1 K
    have q2 := keepc q2 K
    have a0 := keepc a0 K
    have a1 := keepc a1 K
    have a2 := keepc a2 K
    have Dx5 := Lib.hid (Dx4.out.trans (K.mono Dx4.out.size))
    clear K
    go_wp2_with fail
    refine (CX.out _).mono ?_
    rintro e x6 ⟨rfl, K⟩
    have q0 := keepc q0 K
    have q1 := keepc q1 K
    have q2 := keepc q2 K
    have a0 := keepc a0 K
    have a1 := keepc a1 K
    have a2 := keepc a2 K
    have Dx6 := Lib.hid (Dx5.out.trans (K.mono Dx5.out.size))
    clear K
    go_wp2
    go_ret
    exact ⟨rfl, Dx6.out⟩
  obtain ⟨hok, hlen, hWO, hst0, hst1⟩ := argE_ok hE
  have hgI := goodN_init hok
  have CQ : Hid (∀ W, Below w.heap.size w W → Calls Try.prog 13 #[.agg #[.string n.nm, .slice n.PA n.ps.length n.pc, .slice n.TA n.ts.length n.tc], .slice A ws.length c, .int .u64 (s0 : Nat), .int .i64 steps] W (XPost W.heap.size W n (simR n ws steps.toNat (initialN n) s0))) := fun W hW => rrun53 n A ws c s0 steps W (hr0.below hW (Nat.le_refl _)) (hw.below hW (Nat.le_refl _)) hE
  rw [hE] at CA
  cases hR : simR n ws steps.toNat (initialN n) s0 with
  | none =>
    rw [runR_none hE hR] at CR
    rw [trR_none hE hR] at CT
    rw [hR] at CQ
    have CR2 : Hid (∀ W, Below w.heap.size w W → Calls Try.prog 10 #[.agg #[.string n.nm, .slice n.PA n.ps.length n.pc, .slice n.TA n.ts.length n.tc], .slice A ws.length c, .int .u64 (s0 : Nat), .int .i64 steps] W (fun e w' => ∃ A1 c1 B1 d1, e = .returned (.tuple #[.slice A1 0 c1, .slice B1 0 d1, .int .i64 3]) ∧ Below W.heap.size W w')) := fun W hW => (CR.out W hW).mono fun e w' ⟨A1, c1, B1, d1, h1, _, _, h2⟩ => ⟨A1, c1, B1, d1, h1, h2⟩
    have CT2 : Hid (∀ W, Below w.heap.size w W → Calls Try.prog 11 #[.agg #[.string n.nm, .slice n.PA n.ps.length n.pc, .slice n.TA n.ts.length n.tc], .slice A ws.length c, .int .u64 (s0 : Nat), .int .i64 steps] W (fun e w' => ∃ A1 c1, e = .returned (.tuple #[.slice A1 0 c1, .int .i64 3]) ∧ Below W.heap.size W w')) := fun W hW => (CT.out W hW).mono fun e w' ⟨A1, c1, L, h1, h2, _, h3⟩ => ⟨A1, c1, by rw [h1, len0_of h2], h3⟩
    have CQ2 : Hid (∀ W, Below w.heap.size w W → Calls Try.prog 13 #[.agg #[.string n.nm, .slice n.PA n.ps.length n.pc, .slice n.TA n.ts.length n.tc], .slice A ws.length c, .int .u64 (s0 : Nat), .int .i64 steps] W (fun e w' => e = .returned (.tuple #[.agg #[.slice none 0 0, .slice none 0 0, .int .u64 0], .bool false]) ∧ Below W.heap.size W w')) := fun W hW => (CQ.out W hW).mono fun e w' h => by
      rcases h with ⟨r, _, _, _, _, _, h, _⟩ | ⟨_, h1, h2⟩
      · cases h
      · exact ⟨h1, h2⟩
    clear hs hr hr0 hw hl hlg hlg2 hE CR CT CQ hok hlen hWO hst0 hst1 hgI hR
    go_enter Try.func3, Try.ntmps3
    go_wp2_with fail
    refine (CS2.out _ B0.out).mono ?_
    rintro e x1 ⟨rfl, K⟩
    have a0 := keepc a0 K
    have a1 := keepc a1 K
    have a2 := keepc a2 K
    have Dx1 := Lib.hid (B0.out.trans (K.mono B0.out.size))
    clear K
    have a0 := cellA a0 (.cells #[.string n.nm, .slice n.PA n.ps.length n.pc, .slice n.TA n.ts.length n.tc] 25)
    have a1 := cellA a1 (.cells #[.string n.nm, .slice n.PA n.ps.length n.pc, .slice n.TA n.ts.length n.tc] 25)
    have a2 := cellA a2 (.cells #[.string n.nm, .slice n.PA n.ps.length n.pc, .slice n.TA n.ts.length n.tc] 25)
    have q0 : (x1.alloc (.cells #[.string n.nm, .slice n.PA n.ps.length n.pc, .slice n.TA n.ts.length n.tc] 25)).cell? ⟨x1.heap.size, 0, none⟩ = some (.string n.nm) := by simp
    have q1 : (x1.alloc (.cells #[.string n.nm, .slice n.PA n.ps.length n.pc, .slice n.TA n.ts.length n.tc] 25)).cell? ⟨x1.heap.size, 1, none⟩ = some (.slice n.PA n.ps.length n.pc) := by simp
    have q2 : (x1.alloc (.cells #[.string n.nm, .slice n.PA n.ps.length n.pc, .slice n.TA n.ts.length n.tc] 25)).cell? ⟨x1.heap.size, 2, none⟩ = some (.slice n.TA n.ts.length n.tc) := by simp
    have Dx1a := Lib.hid (Dx1.out.alloc Dx1.out.size (.cells #[.string n.nm, .slice n.PA n.ps.length n.pc, .slice n.TA n.ts.length n.tc] 25))
    go_wp2_with fail
    refine (CLG.out _).mono ?_
    rintro e x2 ⟨rfl, K⟩
    have q0 := keepc q0 K
    have q1 := keepc q1 K
    have q2 := keepc q2 K
    have a0 := keepc a0 K
    have a1 := keepc a1 K
    have a2 := keepc a2 K
    have Dx2 := Lib.hid (Dx1a.out.trans (K.mono Dx1a.out.size))
    clear K
    go_wp2_with fail
    refine (CR2.out _ Dx2.out).mono ?_
    rintro e x3 ⟨A1, c1, B1, d1, rfl, K⟩
    have q0 := keepc q0 K
    have q1 := keepc q1 K
    have q2 := keepc q2 K
    have a0 := keepc a0 K
    have a1 := keepc a1 K
    have a2 := keepc a2 K
    have Dx3 := Lib.hid (Dx2.out.trans (K.mono Dx2.out.size))
    clear K
    go_wp2_with fail
    refine (CT2.out _ Dx3.out).mono ?_
    rintro e x4 ⟨A2, c2, rfl, K⟩
    have q0 := keepc q0 K
    have q1 := keepc q1 K
    have q2 := keepc q2 K
    have a0 := keepc a0 K
    have a1 := keepc a1 K
    have a2 := keepc a2 K
    have Dx4 := Lib.hid (Dx3.out.trans (K.mono Dx3.out.size))
    clear K
    go_wp2_with fail
    refine (CA.out _ Dx4.out).mono ?_
    rintro e x5 ⟨rfl, K⟩
    have q0 := keepc q0 K
    have q1 := keepc q1 K
    have q2 := keepc q2 K
    have a0 := keepc a0 K
    have a1 := keepc a1 K
    have a2 := keepc a2 K
    have Dx5 := Lib.hid (Dx4.out.trans (K.mono Dx4.out.size))
    clear K
    go_wp2_with fail
    refine (CQ2.out _ Dx5.out).mono ?_
    rintro e x6 ⟨rfl, K⟩
    have q0 := keepc q0 K
    have q1 := keepc q1 K
    have q2 := keepc q2 K
    have a0 := keepc a0 K
    have a1 := keepc a1 K
    have a2 := keepc a2 K
    have Dx6 := Lib.hid (Dx5.out.trans (K.mono Dx5.out.size))
    clear K
    have Dxa := Lib.hid (Dx6.out.alloc Dx6.out.size (.cells #[.slice none 0 0, .slice none 0 0, .int .u64 0] 42))
    go_wp2_with fail
    refine (CX.out _).mono ?_
    rintro e x7 ⟨rfl, K⟩
    have Dx7 := Lib.hid (Dxa.out.trans (K.mono Dxa.out.size))
    clear K
    go_wp2
    go_ret
    exact ⟨rfl, Dx7.out⟩
  | some r =>
    obtain ⟨f1, f2, f3, f4, f5⟩ := sim_facts hWO hlen steps.toNat _ _ _ hgI hR
    rw [runR_some hE hR] at CR
    rw [trR_some hE hR] at CT
    rw [hR] at CQ
    have h60 : r.1.length ≤ 60 := by omega
    have hQ60 : (seqT r.1).length ≤ 60 := by rw [seqT_len]; exact h60
    have hM24 : (lastM (initialN n) r.1).length ≤ 24 := good_len f3
    have CQ2 : Hid (∀ W, Below w.heap.size w W → Calls Try.prog 13 #[.agg #[.string n.nm, .slice n.PA n.ps.length n.pc, .slice n.TA n.ts.length n.tc], .slice A ws.length c, .int .u64 (s0 : Nat), .int .i64 steps] W (fun e w' => ∃ A1 c1 A2 c2 L, e = .returned (.tuple #[.agg #[.slice A1 (seqT r.1).length c1, .slice A2 (List.length L) c2, .int .u64 (r.2 : Nat)], .bool true]) ∧ ReadsV w' A1 (seqT r.1) ∧ ReadsL w' A2 L ∧ rowsL L = initialN n :: marks r.1 ∧ Below W.heap.size W w')) := fun W hW => (CQ.out W hW).mono fun e w' h => by
      rcases h with ⟨r', A1, c1, A2, c2, L, h0, h1, h2⟩ | ⟨h0, _⟩
      · cases h0
        exact ⟨A1, c1, A2, c2, L, h1, h2⟩
      · cases h0
    have LK : Hid (∀ L : List Row, rowsL L = initialN n :: marks r.1 → L.length = r.1.length + 1 ∧ (rA L r.1.length).zs = lastM (initialN n) r.1) := fun L h => by
      refine ⟨by rw [← rowsL_len, h]; simp [marks], ?_⟩
      rw [← rowsL_get, h, last_at]
    have CM : Hid (∀ (a b : List Int) B cb D cd W, a.length ≤ 100 → a = b → ReadsV W B a → ReadsV W D b → Calls Try.prog 14 #[.slice B a.length cb, .slice D b.length cd] W (BPost W.heap.size W true)) := fun a b B cb D cd W hl e h1 h2 => by
      have := same_law B D a b cb cd W h1 h2 (by omega)
      rw [sameL_iff.2 e] at this
      exact this
    have CN : Hid (∀ (L M : List Row) B cb D cd W, rowsL L = initialN n :: marks r.1 → rowsL M = initialN n :: marks r.1 → ReadsL W B L → ReadsL W D M → Calls Try.prog 15 #[.slice B L.length cb, .slice D M.length cd] W (BPost W.heap.size W true)) := fun L M B cb D cd W e1 e2 h1 h2 => by
      have l1 := (LK.out L e1).1
      have l2 := (LK.out M e2).1
      have := lists_any B D L M cb cd W h1 (by omega) h2 (by omega)
      rw [sameR_of e1 e2] at this
      exact this
    clear hs hr hr0 hw hl hlg hlg2 hE CQ hok hlen hWO hst0 hst1 hgI hR f1 f2 f3 f4 f5
    generalize seqT r.1 = Q at *
    generalize lastM (initialN n) r.1 = M at *
    generalize hML : initialN n :: marks r.1 = ML at *
    clear hML
    generalize r.1.length = k at *
    go_enter Try.func3, Try.ntmps3
    go_wp2_with fail
    refine (CS2.out _ B0.out).mono ?_
    rintro e x1 ⟨rfl, K⟩
    have a0 := keepc a0 K
    have a1 := keepc a1 K
    have a2 := keepc a2 K
    have Dx1 := Lib.hid (B0.out.trans (K.mono B0.out.size))
    clear K
    have a0 := cellA a0 (.cells #[.string n.nm, .slice n.PA n.ps.length n.pc, .slice n.TA n.ts.length n.tc] 25)
    have a1 := cellA a1 (.cells #[.string n.nm, .slice n.PA n.ps.length n.pc, .slice n.TA n.ts.length n.tc] 25)
    have a2 := cellA a2 (.cells #[.string n.nm, .slice n.PA n.ps.length n.pc, .slice n.TA n.ts.length n.tc] 25)
    have q0 : (x1.alloc (.cells #[.string n.nm, .slice n.PA n.ps.length n.pc, .slice n.TA n.ts.length n.tc] 25)).cell? ⟨x1.heap.size, 0, none⟩ = some (.string n.nm) := by simp
    have q1 : (x1.alloc (.cells #[.string n.nm, .slice n.PA n.ps.length n.pc, .slice n.TA n.ts.length n.tc] 25)).cell? ⟨x1.heap.size, 1, none⟩ = some (.slice n.PA n.ps.length n.pc) := by simp
    have q2 : (x1.alloc (.cells #[.string n.nm, .slice n.PA n.ps.length n.pc, .slice n.TA n.ts.length n.tc] 25)).cell? ⟨x1.heap.size, 2, none⟩ = some (.slice n.TA n.ts.length n.tc) := by simp
    have Dx1a := Lib.hid (Dx1.out.alloc Dx1.out.size (.cells #[.string n.nm, .slice n.PA n.ps.length n.pc, .slice n.TA n.ts.length n.tc] 25))
    go_wp2_with fail
    refine (CLG.out _).mono ?_
    rintro e x2 ⟨rfl, K⟩
    have q0 := keepc q0 K
    have q1 := keepc q1 K
    have q2 := keepc q2 K
    have a0 := keepc a0 K
    have a1 := keepc a1 K
    have a2 := keepc a2 K
    have Dx2 := Lib.hid (Dx1a.out.trans (K.mono Dx1a.out.size))
    clear K
    go_wp2_with fail
    refine (CR.out _ Dx2.out).mono ?_
    rintro e x3 ⟨A1, c1, B1, d1, rfl, R1, R2, K⟩
    have R1 := Lib.hid R1
    have R2 := Lib.hid R2
    have q0 := keepc q0 K
    have q1 := keepc q1 K
    have q2 := keepc q2 K
    have a0 := keepc a0 K
    have a1 := keepc a1 K
    have a2 := keepc a2 K
    have Dx3 := Lib.hid (Dx2.out.trans (K.mono Dx2.out.size))
    clear K
    go_wp2_with fail
    refine (CT.out _ Dx3.out).mono ?_
    rintro e x4 ⟨A2, c2, L2, rfl, E2, R3, K⟩
    have R3 := Lib.hid R3
    have E2 := Lib.hid E2
    have q0 := keepc q0 K
    have q1 := keepc q1 K
    have q2 := keepc q2 K
    have a0 := keepc a0 K
    have a1 := keepc a1 K
    have a2 := keepc a2 K
    have R1 := Lib.hid (R1.out.below K (Nat.le_refl _))
    have R2 := Lib.hid (R2.out.below K (Nat.le_refl _))
    have Dx4 := Lib.hid (Dx3.out.trans (K.mono Dx3.out.size))
    clear K
    go_wp2_with fail
    refine (CA.out _ Dx4.out).mono ?_
    rintro e x5 ⟨rfl, K⟩
    have q0 := keepc q0 K
    have q1 := keepc q1 K
    have q2 := keepc q2 K
    have a0 := keepc a0 K
    have a1 := keepc a1 K
    have a2 := keepc a2 K
    have R1 := Lib.hid (R1.out.below K (Nat.le_refl _))
    have R2 := Lib.hid (R2.out.below K (Nat.le_refl _))
    have R3 := Lib.hid (R3.out.below K (Nat.le_refl _))
    have Dx5 := Lib.hid (Dx4.out.trans (K.mono Dx4.out.size))
    clear K
    go_wp2_with fail
    refine (CQ2.out _ Dx5.out).mono ?_
    rintro e x6 ⟨A4, c4, A5, c5, L5, rfl, R4, R5, E5, K⟩
    have R4 := Lib.hid R4
    have R5 := Lib.hid R5
    have E5 := Lib.hid E5
    have q0 := keepc q0 K
    have q1 := keepc q1 K
    have q2 := keepc q2 K
    have a0 := keepc a0 K
    have a1 := keepc a1 K
    have a2 := keepc a2 K
    have R1 := Lib.hid (R1.out.below K (Nat.le_refl _))
    have R2 := Lib.hid (R2.out.below K (Nat.le_refl _))
    have R3 := Lib.hid (R3.out.below K (Nat.le_refl _))
    have Dx6 := Lib.hid (Dx5.out.trans (K.mono Dx5.out.size))
    clear K
    obtain ⟨l5, z5⟩ := LK.out L5 E5.out
    have CNk := Lib.hid (fun W h1 h2 => CN.out L2 L5 A2 c2 A5 c5 W E2.out E5.out h1 h2)
    obtain ⟨b5, of5, e5, cl5⟩ := R5.out.1.at k (by omega)
    have RLst : Hid (ReadsV x6 (rA L5 k).A (rA L5 k).zs) := (R5.out.2 _ (rA_mem (by omega))).1
    have hl2' : L2.length ≤ 9223372036854775807 := by have := (LK.out L2 E2.out).1; omega
    clear CR CT CA CQ2 CLG CN q0 q1 q2 a0 a1 a2 LK E2 E5 CS2 Dx1 Dx1a Dx2 Dx3 Dx4 Dx5
    subst e5
    have CMl := Lib.hid (fun W h1 h2 => CM.out M (rA L5 k).zs B1 d1 (rA L5 k).A (rA L5 k).cap W (by omega) z5.symm h1 h2)
    clear z5
    generalize rA L5 k = row at *
    obtain ⟨rA5, rz5, rc5⟩ := row
    dsimp only at *
    rw [l5] at *
    generalize hl2 : L2.length = len2 at *
    clear hl2
    have LA : Below x6.heap.size x6 (x6.alloc (.cells #[.slice A4 Q.length c4, .slice (some ⟨b5, of5, none⟩) (k + 1) c5, .int .u64 (r.2 : Nat)] 42)) := (Below.refl _ _).alloc (Nat.le_refl _) _
    have Dxa := Lib.hid (Dx6.out.alloc Dx6.out.size (.cells #[.slice A4 Q.length c4, .slice (some ⟨b5, of5, none⟩) (k + 1) c5, .int .u64 (r.2 : Nat)] 42))
    have R1 := Lib.hid (R1.out.below LA (Nat.le_refl _))
    have R2 := Lib.hid (R2.out.below LA (Nat.le_refl _))
    have R3 := Lib.hid (R3.out.below LA (Nat.le_refl _))
    have R4 := Lib.hid (R4.out.below LA (Nat.le_refl _))
    have R5 := Lib.hid (R5.out.below LA (Nat.le_refl _))
    have RLst := Lib.hid (RLst.out.below LA (Nat.le_refl _))
    have cl5 := keepc cl5 LA
    have p0 : (x6.alloc (.cells #[.slice A4 Q.length c4, .slice (some ⟨b5, of5, none⟩) (k + 1) c5, .int .u64 (r.2 : Nat)] 42)).cell? ⟨x6.heap.size, 0, none⟩ = some (.slice A4 Q.length c4) := by simp [go_sem]
    have p1 : (x6.alloc (.cells #[.slice A4 Q.length c4, .slice (some ⟨b5, of5, none⟩) (k + 1) c5, .int .u64 (r.2 : Nat)] 42)).cell? ⟨x6.heap.size, 1, none⟩ = some (.slice (some ⟨b5, of5, none⟩) (k + 1) c5) := by simp [go_sem]
    clear LA
    go_wp2_with fail
    refine (CM.out Q Q A1 c1 A4 c4 _ (by omega) rfl R1.out R4.out).mono ?_
    rintro e x7 ⟨rfl, K⟩
    have p0 := keepc p0 K
    have p1 := keepc p1 K
    have cl5 := keepc cl5 K
    have R2 := Lib.hid (R2.out.below K (Nat.le_refl _))
    have R3 := Lib.hid (R3.out.below K (Nat.le_refl _))
    have R5 := Lib.hid (R5.out.below K (Nat.le_refl _))
    have RLst := Lib.hid (RLst.out.below K (Nat.le_refl _))
    have Dx7 := Lib.hid (Dxa.out.trans (K.mono Dxa.out.size))
    clear K
    go_wp2_with fail
    refine (CMl.out _ R2.out RLst.out).mono ?_
    rintro e x8 ⟨rfl, K⟩
    have p0 := keepc p0 K
    have p1 := keepc p1 K
    have cl5 := keepc cl5 K
    have R3 := Lib.hid (R3.out.below K (Nat.le_refl _))
    have R5 := Lib.hid (R5.out.below K (Nat.le_refl _))
    have Dx8 := Lib.hid (Dx7.out.trans (K.mono Dx7.out.size))
    clear K
    go_wp2_with fail
    refine (CNk.out _ R3.out R5.out).mono ?_
    rintro e x9 ⟨rfl, K⟩
    have p0 := keepc p0 K
    have p1 := keepc p1 K
    have cl5 := keepc cl5 K
    have Dx9 := Lib.hid (Dx8.out.trans (K.mono Dx8.out.size))
    clear K
    go_wp2_with fail
    refine (CX.out _).mono ?_
    rintro e x10 ⟨rfl, K⟩
    have p0 := keepc p0 K
    have p1 := keepc p1 K
    have cl5 := keepc cl5 K
    have Dx10 := Lib.hid (Dx9.out.trans (K.mono Dx9.out.size))
    clear K
    go_wp2
    go_ret
    exact ⟨rfl, Dx10.out⟩
end Go.Proofs.Ytpfkkjgklhcejaa
