/- The law on counts and names. -/
import Derived.Test.YtaomgfmlnjdoaaaFCN
namespace Go.Proofs.Ytaomgfmlnjdoaaa
open Go.RowKit

theorem par_len (n : NetV) (seq : List Int) : (parL n seq).length ≤ n.ts.length := by
  unfold parL
  split
  · rw [tab_len]; exact Nat.le_refl _
  · exact Nat.zero_le _
theorem nam_len (n : NetV) (seq : List Int) : namN n seq ≤ seq.length := by
  unfold namN
  split
  · exact Nat.le_refl _
  · exact Nat.zero_le _

set_option maxHeartbeats 16000000 in
set_option maxRecDepth 100000 in
theorem counts_law (n : NetV) (Q : Option Addr) (seq : List Int) (sc : Nat) (w : World) (hr : NetW w n) (hq : ReadsV w Q seq) (hql : seq.length ≤ maxLen) :
    Calls Try.prog 6 #[.agg #[.string n.nm, .slice n.PA n.ps.length n.pc, .slice n.TA n.ts.length n.tc], .slice Q seq.length sc] w fun e w' => e = .returned (.bool true) ∧ Below w.heap.size w w' := by
  have CS : Hid (∀ W, Below w.heap.size w W → Calls Try.prog 9 #[.agg #[.string n.nm, .slice n.PA n.ps.length n.pc, .slice n.TA n.ts.length n.tc]] W (SmallPost W.heap.size W n)) := fun W hW => small_any n W (hr.below hW (Nat.le_refl _))
  have CX : Hid (∀ W, Calls Try.prog 10 #[] W (VPost W.heap.size W (.bool true))) := example_any
  have B0 : Hid (Below w.heap.size w (w.alloc (.cells #[.string n.nm, .slice n.PA n.ps.length n.pc, .slice n.TA n.ts.length n.tc] 25))) := (Below.refl _ _).alloc (Nat.le_refl _) _
  cases hs : smallN n
  · have CS2 : Hid (∀ W, Below w.heap.size w W → Calls Try.prog 9 #[.agg #[.string n.nm, .slice n.PA n.ps.length n.pc, .slice n.TA n.ts.length n.tc]] W (fun e w' => e = .returned (.tuple #[.agg #[.string ⟨#[]⟩, .slice none 0 0, .slice none 0 0], .bool false]) ∧ Below W.heap.size W w')) := fun W hW => (CS.out W hW).mono fun e w' h => by
      unfold SmallPost at h
      rw [hs, if_neg (by simp)] at h
      exact h
    clear CS hs hq
    go_enter Try.func6, Try.ntmps6
    go_wp2_with fail
    refine (CS2.out _ B0.out).mono ?_
    rintro e x1 ⟨rfl, K⟩
    have Dx1 := Lib.hid (B0.out.trans (K.mono B0.out.size))
    clear K
    have Dx1a := Lib.hid (Dx1.out.alloc Dx1.out.size (.cells #[.string ⟨#[]⟩, .slice none 0 0, .slice none 0 0] 25))
    go_wp2_with fail
    refine (CX.out _).mono ?_
    rintro e x2 ⟨rfl, K⟩
    have Dx2 := Lib.hid (Dx1a.out.trans (K.mono Dx1a.out.size))
    clear K
    go_wp2
    go_ret
    exact ⟨rfl, Dx2.out⟩
  · have CS2 : Hid (∀ W, Below w.heap.size w W → Calls Try.prog 9 #[.agg #[.string n.nm, .slice n.PA n.ps.length n.pc, .slice n.TA n.ts.length n.tc]] W (fun e w' => e = .returned (.tuple #[.agg #[.string n.nm, .slice n.PA n.ps.length n.pc, .slice n.TA n.ts.length n.tc], .bool true]) ∧ Below W.heap.size W w')) := fun W hW => (CS.out W hW).mono fun e w' h => by
      unfold SmallPost at h
      rw [hs, if_pos rfl] at h
      exact h
    have hr0 := small_ok hr hs
    have hsl := small_len hs
    have hql2 : seq.length ≤ 9223372036854775807 := by unfold maxLen at hql; omega
    by_cases h200 : 200 < seq.length
    · have z200 : decide (200 < seq.length) = true := decide_eq_true h200
      clear CS hs hr hr0 hq hsl
      go_enter Try.func6, Try.ntmps6
      go_wp2_with fail
      refine (CS2.out _ B0.out).mono ?_
      rintro e x1 ⟨rfl, K⟩
      have Dx1 := Lib.hid (B0.out.trans (K.mono B0.out.size))
      clear K
      have q0 : (x1.alloc (.cells #[.string n.nm, .slice n.PA n.ps.length n.pc, .slice n.TA n.ts.length n.tc] 25)).cell? ⟨x1.heap.size, 0, none⟩ = some (.string n.nm) := by simp
      have q1 : (x1.alloc (.cells #[.string n.nm, .slice n.PA n.ps.length n.pc, .slice n.TA n.ts.length n.tc] 25)).cell? ⟨x1.heap.size, 1, none⟩ = some (.slice n.PA n.ps.length n.pc) := by simp
      have q2 : (x1.alloc (.cells #[.string n.nm, .slice n.PA n.ps.length n.pc, .slice n.TA n.ts.length n.tc] 25)).cell? ⟨x1.heap.size, 2, none⟩ = some (.slice n.TA n.ts.length n.tc) := by simp
      have Dx1a := Lib.hid (Dx1.out.alloc Dx1.out.size (.cells #[.string n.nm, .slice n.PA n.ps.length n.pc, .slice n.TA n.ts.length n.tc] 25))
      go_wp2_with fail
      refine (CX.out _).mono ?_
      rintro e x2 ⟨rfl, K⟩
      have q0 := keepc q0 K
      have q1 := keepc q1 K
      have q2 := keepc q2 K
      have Dx2 := Lib.hid (Dx1a.out.trans (K.mono Dx1a.out.size))
      clear K
      go_wp2
      go_ret
      exact ⟨rfl, Dx2.out⟩
    have h201 : seq.length ≤ 1000 := by omega
    have P1 : Hid (∀ W, Below w.heap.size w W → Calls Try.prog 25 #[.agg #[.string n.nm, .slice n.PA n.ps.length n.pc, .slice n.TA n.ts.length n.tc], .slice Q seq.length sc] W (PairPost W.heap.size W (parL n seq) (.int .i64 (seqE n seq)))) := fun W hW => parikh_any n Q seq sc W (hr0.below hW (Nat.le_refl _)) (hq.below hW (Nat.le_refl _)) h201
    have P2 : Hid (∀ W, Below w.heap.size w W → Calls Try.prog 26 #[.agg #[.string n.nm, .slice n.PA n.ps.length n.pc, .slice n.TA n.ts.length n.tc], .slice Q seq.length sc] W (PairPost W.heap.size W (parL n seq) (.int .i64 (seqE n seq)))) := fun W hW => rparikh_any n Q seq sc W (hr0.below hW (Nat.le_refl _)) (hq.below hW (Nat.le_refl _)) h201
    have N1 : Hid (∀ W, Below w.heap.size w W → Calls Try.prog 27 #[.agg #[.string n.nm, .slice n.PA n.ps.length n.pc, .slice n.TA n.ts.length n.tc], .slice Q seq.length sc] W (PairS W.heap.size W (namN n seq) (nmF n seq) (.int .i64 (seqE n seq)))) := fun W hW => names_any n Q seq sc W (hr0.below hW (Nat.le_refl _)) (hq.below hW (Nat.le_refl _)) h201
    have N2 : Hid (∀ W, Below w.heap.size w W → Calls Try.prog 28 #[.agg #[.string n.nm, .slice n.PA n.ps.length n.pc, .slice n.TA n.ts.length n.tc], .slice Q seq.length sc] W (PairS W.heap.size W (namN n seq) (nmF n seq) (.int .i64 (seqE n seq)))) := fun W hW => rnames_any n Q seq sc W (hr0.below hW (Nat.le_refl _)) (hq.below hW (Nat.le_refl _)) h201
    have hL1 := Nat.le_trans (par_len n seq) hsl.2
    have hL2 := nam_len n seq
    have hNL : namN n seq ≤ 100000 := by omega
    clear CS hs hr hr0 hq hsl hL2
    generalize parL n seq = L at *
    generalize namN n seq = NN at *
    generalize nmF n seq = nf at *
    generalize seqE n seq = E at *
    have z1 : (E == E) = true := by simp
    go_enter Try.func6, Try.ntmps6
    go_wp2_with fail
    refine (CS2.out _ B0.out).mono ?_
    rintro e x1 ⟨rfl, K⟩
    have Dx1 := Lib.hid (B0.out.trans (K.mono B0.out.size))
    clear K
    have q0 : (x1.alloc (.cells #[.string n.nm, .slice n.PA n.ps.length n.pc, .slice n.TA n.ts.length n.tc] 25)).cell? ⟨x1.heap.size, 0, none⟩ = some (.string n.nm) := by simp
    have q1 : (x1.alloc (.cells #[.string n.nm, .slice n.PA n.ps.length n.pc, .slice n.TA n.ts.length n.tc] 25)).cell? ⟨x1.heap.size, 1, none⟩ = some (.slice n.PA n.ps.length n.pc) := by simp
    have q2 : (x1.alloc (.cells #[.string n.nm, .slice n.PA n.ps.length n.pc, .slice n.TA n.ts.length n.tc] 25)).cell? ⟨x1.heap.size, 2, none⟩ = some (.slice n.TA n.ts.length n.tc) := by simp
    have Dx1a := Lib.hid (Dx1.out.alloc Dx1.out.size (.cells #[.string n.nm, .slice n.PA n.ps.length n.pc, .slice n.TA n.ts.length n.tc] 25))
    go_wp2_with fail
    refine (P1.out _ Dx1a.out).mono ?_
    rintro e x2 ⟨A2, c2, rfl, R2, K⟩
    have R2 := Lib.hid R2
    have q0 := keepc q0 K
    have q1 := keepc q1 K
    have q2 := keepc q2 K
    have Dx2 := Lib.hid (Dx1a.out.trans (K.mono Dx1a.out.size))
    clear K
    go_wp2_with fail
    refine (P2.out _ Dx2.out).mono ?_
    rintro e x3 ⟨A3, c3, rfl, R3, K⟩
    have R3 := Lib.hid R3
    have q0 := keepc q0 K
    have q1 := keepc q1 K
    have q2 := keepc q2 K
    have R2 := Lib.hid (R2.out.below K (Nat.le_refl _))
    have Dx3 := Lib.hid (Dx2.out.trans (K.mono Dx2.out.size))
    clear K
    go_wp2_with fail
    refine (N1.out _ Dx3.out).mono ?_
    rintro e x4 ⟨A4, c4, rfl, R4, K⟩
    have R4 := Lib.hid R4
    have q0 := keepc q0 K
    have q1 := keepc q1 K
    have q2 := keepc q2 K
    have R2 := Lib.hid (R2.out.below K (Nat.le_refl _))
    have R3 := Lib.hid (R3.out.below K (Nat.le_refl _))
    have Dx4 := Lib.hid (Dx3.out.trans (K.mono Dx3.out.size))
    clear K
    go_wp2_with fail
    refine (N2.out _ Dx4.out).mono ?_
    rintro e x5 ⟨A5, c5, rfl, R5, K⟩
    have R5 := Lib.hid R5
    have q0 := keepc q0 K
    have q1 := keepc q1 K
    have q2 := keepc q2 K
    have R2 := Lib.hid (R2.out.below K (Nat.le_refl _))
    have R3 := Lib.hid (R3.out.below K (Nat.le_refl _))
    have R4 := Lib.hid (R4.out.below K (Nat.le_refl _))
    have Dx5 := Lib.hid (Dx4.out.trans (K.mono Dx4.out.size))
    clear K
    have SM := nums_law_eq A2 A3 L L c2 c3 x5 R2.out R3.out (by omega) rfl
    rw [sameL_iff.2 rfl] at SM
    replace SM := Lib.hid SM
    go_wp2_with fail
    refine (SM.out).mono ?_
    rintro e x6 ⟨rfl, K⟩
    have R4 := Lib.hid (R4.out.below K (Nat.le_refl _))
    have R5 := Lib.hid (R5.out.below K (Nat.le_refl _))
    have Dx6 := Lib.hid (Dx5.out.trans (K.mono Dx5.out.size))
    clear K
    have ST := Lib.hid (strs_law A4 A5 NN nf c4 c5 x6 R4.out R5.out hNL)
    go_wp2_with fail
    refine (ST.out).mono ?_
    rintro e x7 ⟨rfl, K⟩
    have Dx7 := Lib.hid (Dx6.out.trans (K.mono Dx6.out.size))
    clear K
    go_wp2_with fail
    refine (CX.out _).mono ?_
    rintro e x8 ⟨rfl, K⟩
    have Dx8 := Lib.hid (Dx7.out.trans (K.mono Dx7.out.size))
    clear K
    go_wp2
    go_ret
    exact ⟨rfl, Dx8.out⟩
end Go.Proofs.Ytaomgfmlnjdoaaa
