/- The law on runs. -/
import Derived.Test.YtaomgfmlnjdoaaaFN
namespace Go.Proofs.Ytaomgfmlnjdoaaa
open Go.RowKit

theorem runS_len (n : NetV) : ∀ (seq m : List Int) (k : Nat), m.length ≤ 26 → n.ps.length ≤ 26 → (runS n m seq k).1.length ≤ 26
  | [], m, _, h, _ => h
  | t :: r, m, k, h, h2 => by
    unfold runS
    split
    · exact runS_len n r _ _ (Nat.le_trans (fireL_len n m t) h2) h2
    · exact Nat.zero_le _
theorem runV_len {n : NetV} {m seq : List Int} (h2 : n.ps.length ≤ 26) : (runV n m seq).1.length ≤ 26 := by
  unfold runV
  split
  · rename_i h
    exact runS_len n seq m 0 (Nat.le_trans (good_len (errN_zero.1 h)) (by decide)) h2
  · exact Nat.zero_le _

set_option maxHeartbeats 16000000 in
set_option maxRecDepth 100000 in
theorem runs_law (n : NetV) (A : Option Addr) (m : List Int) (c : Nat) (Q : Option Addr) (seq : List Int) (sc : Nat) (w : World) (hr : NetW w n) (hm : ReadsV w A m) (hl : m.length ≤ maxLen) (hq : ReadsV w Q seq) (hql : seq.length ≤ maxLen) :
    Calls Try.prog 5 #[.agg #[.string n.nm, .slice n.PA n.ps.length n.pc, .slice n.TA n.ts.length n.tc], .slice A m.length c, .slice Q seq.length sc] w fun e w' => e = .returned (.bool true) ∧ Below w.heap.size w w' := by
  have CS : Hid (∀ W, Below w.heap.size w W → Calls Try.prog 9 #[.agg #[.string n.nm, .slice n.PA n.ps.length n.pc, .slice n.TA n.ts.length n.tc]] W (SmallPost W.heap.size W n)) := fun W hW => small_any n W (hr.below hW (Nat.le_refl _))
  have CX : Hid (∀ W, Calls Try.prog 10 #[] W (VPost W.heap.size W (.bool true))) := example_any
  have B0 : Hid (Below w.heap.size w (w.alloc (.cells #[.string n.nm, .slice n.PA n.ps.length n.pc, .slice n.TA n.ts.length n.tc] 25))) := (Below.refl _ _).alloc (Nat.le_refl _) _
  cases hs : smallN n
  · have CS2 : Hid (∀ W, Below w.heap.size w W → Calls Try.prog 9 #[.agg #[.string n.nm, .slice n.PA n.ps.length n.pc, .slice n.TA n.ts.length n.tc]] W (fun e w' => e = .returned (.tuple #[.agg #[.string ⟨#[]⟩, .slice none 0 0, .slice none 0 0], .bool false]) ∧ Below W.heap.size W w')) := fun W hW => (CS.out W hW).mono fun e w' h => by
      unfold SmallPost at h
      rw [hs, if_neg (by simp)] at h
      exact h
    clear CS hs hm hq
    go_enter Try.func5, Try.ntmps5
    go_wp2_with fail
    refine (CS2.out _ B0.out).mono ?_
    rintro e x1 ⟨rfl, K⟩
    have Dx1 := Lib.hid (B0.out.trans (K.mono B0.out.size))
    clear K
    have Dx1a := Lib.hid (Dx1.out.alloc Dx1.out.size (.cells #[.string ⟨#[]⟩, .slice none 0 0, .slice none 0 0] 25))
    go_wp2_with fail
    refine (CX.out _).mono ?_
    rintro e x2 ⟨rfl, K⟩
    have Dx2 := Lib.hid (Dx1a.out.trans (K.mono Dx1a.out.size))
    clear K
    go_wp2
    go_ret
    exact ⟨rfl, Dx2.out⟩
  · have CS2 : Hid (∀ W, Below w.heap.size w W → Calls Try.prog 9 #[.agg #[.string n.nm, .slice n.PA n.ps.length n.pc, .slice n.TA n.ts.length n.tc]] W (fun e w' => e = .returned (.tuple #[.agg #[.string n.nm, .slice n.PA n.ps.length n.pc, .slice n.TA n.ts.length n.tc], .bool true]) ∧ Below W.heap.size W w')) := fun W hW => (CS.out W hW).mono fun e w' h => by
      unfold SmallPost at h
      rw [hs, if_pos rfl] at h
      exact h
    have hr0 := small_ok hr hs
    have hsl := small_len hs
    have hl2 : m.length ≤ 9223372036854775807 := by unfold maxLen at hl; omega
    have hql2 : seq.length ≤ 9223372036854775807 := by unfold maxLen at hql; omega
    by_cases h60 : 60 < seq.length
    · have z60 : decide (60 < seq.length) = true := decide_eq_true h60
      clear CS hs hr hr0 hm hq hl hl2 hsl
      go_enter Try.func5, Try.ntmps5
      go_wp2_with fail
      refine (CS2.out _ B0.out).mono ?_
      rintro e x1 ⟨rfl, K⟩
      have Dx1 := Lib.hid (B0.out.trans (K.mono B0.out.size))
      clear K
      have q0 : (x1.alloc (.cells #[.string n.nm, .slice n.PA n.ps.length n.pc, .slice n.TA n.ts.length n.tc] 25)).cell? ⟨x1.heap.size, 0, none⟩ = some (.string n.nm) := by simp
      have q1 : (x1.alloc (.cells #[.string n.nm, .slice n.PA n.ps.length n.pc, .slice n.TA n.ts.length n.tc] 25)).cell? ⟨x1.heap.size, 1, none⟩ = some (.slice n.PA n.ps.length n.pc) := by simp
      have q2 : (x1.alloc (.cells #[.string n.nm, .slice n.PA n.ps.length n.pc, .slice n.TA n.ts.length n.tc] 25)).cell? ⟨x1.heap.size, 2, none⟩ = some (.slice n.TA n.ts.length n.tc) := by simp
      have Dx1a := Lib.hid (Dx1.out.alloc Dx1.out.size (.cells #[.string n.nm, .slice n.PA n.ps.length n.pc, .slice n.TA n.ts.length n.tc] 25))
      go_wp2_with fail
      refine (CX.out _).mono ?_
      rintro e x2 ⟨rfl, K⟩
      have q0 := keepc q0 K
      have q1 := keepc q1 K
      have q2 := keepc q2 K
      have Dx2 := Lib.hid (Dx1a.out.trans (K.mono Dx1a.out.size))
      clear K
      go_wp2
      go_ret
      exact ⟨rfl, Dx2.out⟩
    have h61 : seq.length ≤ 60 := by omega
    have CF : Hid (∀ W, Below w.heap.size w W → Calls Try.prog 23 #[.agg #[.string n.nm, .slice n.PA n.ps.length n.pc, .slice n.TA n.ts.length n.tc], .slice A m.length c, .slice Q seq.length sc] W (PairPost W.heap.size W (runV n m seq).1 (.agg #[.int .i64 (runV n m seq).2.1, .int .i64 (runV n m seq).2.2]))) := fun W hW => run_any n A m c Q seq sc W (hr0.below hW (Nat.le_refl _)) (hm.below hW (Nat.le_refl _)) hl2 (hq.below hW (Nat.le_refl _)) h61
    have RF : Hid (∀ W, Below w.heap.size w W → Calls Try.prog 24 #[.agg #[.string n.nm, .slice n.PA n.ps.length n.pc, .slice n.TA n.ts.length n.tc], .slice A m.length c, .slice Q seq.length sc] W (PairPost W.heap.size W (runV n m seq).1 (.agg #[.int .i64 (runV n m seq).2.1, .int .i64 (runV n m seq).2.2]))) := fun W hW => rrun_any n A m c Q seq sc W (hr0.below hW (Nat.le_refl _)) (hm.below hW (Nat.le_refl _)) hl2 (hq.below hW (Nat.le_refl _)) h61
    have hLL := runV_len (m := m) (seq := seq) hsl.1
    clear CS hs hr hr0 hm hq hl hl2 hsl
    generalize runV n m seq = S at *
    obtain ⟨L, E, at'⟩ := S
    dsimp only at *
    have z1 : (E == E) = true := by simp
    have z2 : (at' == at') = true := by simp
    go_enter Try.func5, Try.ntmps5
    go_wp2_with fail
    refine (CS2.out _ B0.out).mono ?_
    rintro e x1 ⟨rfl, K⟩
    have Dx1 := Lib.hid (B0.out.trans (K.mono B0.out.size))
    clear K
    have q0 : (x1.alloc (.cells #[.string n.nm, .slice n.PA n.ps.length n.pc, .slice n.TA n.ts.length n.tc] 25)).cell? ⟨x1.heap.size, 0, none⟩ = some (.string n.nm) := by simp
    have q1 : (x1.alloc (.cells #[.string n.nm, .slice n.PA n.ps.length n.pc, .slice n.TA n.ts.length n.tc] 25)).cell? ⟨x1.heap.size, 1, none⟩ = some (.slice n.PA n.ps.length n.pc) := by simp
    have q2 : (x1.alloc (.cells #[.string n.nm, .slice n.PA n.ps.length n.pc, .slice n.TA n.ts.length n.tc] 25)).cell? ⟨x1.heap.size, 2, none⟩ = some (.slice n.TA n.ts.length n.tc) := by simp
    have Dx1a := Lib.hid (Dx1.out.alloc Dx1.out.size (.cells #[.string n.nm, .slice n.PA n.ps.length n.pc, .slice n.TA n.ts.length n.tc] 25))
    go_wp2_with fail
    refine (CF.out _ Dx1a.out).mono ?_
    rintro e x2 ⟨A2, c2, rfl, R2, K⟩
    have R2 := Lib.hid R2
    have q0 := keepc q0 K
    have q1 := keepc q1 K
    have q2 := keepc q2 K
    have Dx2 := Lib.hid (Dx1a.out.trans (K.mono Dx1a.out.size))
    clear K
    have Dx2a := Lib.hid (Dx2.out.alloc Dx2.out.size (.cells #[.int .i64 E, .int .i64 at'] 38))
    have q0 := cellA q0 (.cells #[.int .i64 E, .int .i64 at'] 38)
    have q1 := cellA q1 (.cells #[.int .i64 E, .int .i64 at'] 38)
    have q2 := cellA q2 (.cells #[.int .i64 E, .int .i64 at'] 38)
    have e0 : (x2.alloc (.cells #[.int .i64 E, .int .i64 at'] 38)).cell? ⟨x2.heap.size, 0, none⟩ = some (.int .i64 E) := by simp
    have e1 : (x2.alloc (.cells #[.int .i64 E, .int .i64 at'] 38)).cell? ⟨x2.heap.size, 1, none⟩ = some (.int .i64 at') := by simp
    have R2 := Lib.hid (R2.out.alloc (.cells #[.int .i64 E, .int .i64 at'] 38))
    go_wp2_with fail
    refine (RF.out _ Dx2a.out).mono ?_
    rintro e x3 ⟨A3, c3, rfl, R3, K⟩
    have R3 := Lib.hid R3
    have q0 := keepc q0 K
    have q1 := keepc q1 K
    have q2 := keepc q2 K
    have e0 := keepc e0 K
    have e1 := keepc e1 K
    have R2 := Lib.hid (R2.out.below K (Nat.le_refl _))
    have Dx3 := Lib.hid (Dx2a.out.trans (K.mono Dx2a.out.size))
    clear K
    have Dx3a := Lib.hid (Dx3.out.alloc Dx3.out.size (.cells #[.int .i64 E, .int .i64 at'] 38))
    have e0 := cellA e0 (.cells #[.int .i64 E, .int .i64 at'] 38)
    have e1 := cellA e1 (.cells #[.int .i64 E, .int .i64 at'] 38)
    have f0 : (x3.alloc (.cells #[.int .i64 E, .int .i64 at'] 38)).cell? ⟨x3.heap.size, 0, none⟩ = some (.int .i64 E) := by simp
    have f1 : (x3.alloc (.cells #[.int .i64 E, .int .i64 at'] 38)).cell? ⟨x3.heap.size, 1, none⟩ = some (.int .i64 at') := by simp
    have SM := same_law A2 A3 L L c2 c3 (x3.alloc (.cells #[.int .i64 E, .int .i64 at'] 38)) (R2.out.alloc _) (R3.out.alloc _) (by omega)
    rw [sameL_iff.2 rfl] at SM
    replace SM := Lib.hid SM
    go_wp2_with fail
    refine (SM.out).mono ?_
    rintro e x4 ⟨rfl, K⟩
    have e0 := keepc e0 K
    have e1 := keepc e1 K
    have f0 := keepc f0 K
    have f1 := keepc f1 K
    have Dx4 := Lib.hid (Dx3a.out.trans (K.mono Dx3a.out.size))
    clear K
    go_wp2_with fail
    refine (CX.out _).mono ?_
    rintro e x5 ⟨rfl, K⟩
    have e0 := keepc e0 K
    have e1 := keepc e1 K
    have f0 := keepc f0 K
    have f1 := keepc f1 K
    have Dx5 := Lib.hid (Dx4.out.trans (K.mono Dx4.out.size))
    clear K
    go_wp2
    go_ret
    exact ⟨rfl, Dx5.out⟩
end Go.Proofs.Ytaomgfmlnjdoaaa
