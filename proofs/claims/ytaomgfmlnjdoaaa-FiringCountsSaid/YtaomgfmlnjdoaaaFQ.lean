/- Sequences: their check, and how often each transition occurs. -/
import Derived.Test.YtaomgfmlnjdoaaaFN
namespace Go.Proofs.Ytaomgfmlnjdoaaa
open Go.RowKit

def badF (n : NetV) (seq : List Int) (k : Nat) : Bool := !(inT n (at0 seq k))
def seqE (n : NetV) (seq : List Int) : Int := if (chkV n).1 ≠ 0 then (chkV n).1 else if anyB (badF n seq) seq.length = true then 1 else 0
theorem seqE_chk {n : NetV} {seq : List Int} (h : (chkV n).1 ≠ 0) : seqE n seq = (chkV n).1 := by unfold seqE; rw [if_pos h]
theorem seqE_bad {n : NetV} {seq : List Int} (h : (chkV n).1 = 0) (h2 : anyB (badF n seq) seq.length = true) : seqE n seq = 1 := by unfold seqE; rw [if_neg (by simpa using h), if_pos h2]
theorem seqE_ok {n : NetV} {seq : List Int} (h : (chkV n).1 = 0) (h2 : anyB (badF n seq) seq.length = false) : seqE n seq = 0 := by unfold seqE; rw [if_neg (by simpa using h), if_neg (by rw [h2]; simp)]
theorem seqE_zero {n : NetV} {seq : List Int} (h : seqE n seq = 0) : (chkV n).1 = 0 ∧ ∀ k, k < seq.length → 0 ≤ at0 seq k ∧ at0 seq k < n.ts.length := by
  by_cases h0 : (chkV n).1 = 0
  · cases h2 : anyB (badF n seq) seq.length
    · refine ⟨h0, fun k hk => ?_⟩
      have := anyB_false.1 h2 k hk
      unfold badF at this
      exact inT_iff.1 (by simpa using this)
    · rw [seqE_bad h0 h2] at h; cases h
  · rw [seqE_chk h0] at h; exact absurd h h0

set_option maxHeartbeats 1000000 in
theorem clos_seq (n : NetV) (t : Int) (b : Nat) (w : World) (h0 : w.cell? ⟨b, 0, none⟩ = some (.string n.nm)) (h1 : w.cell? ⟨b, 1, none⟩ = some (.slice n.PA n.ps.length n.pc)) (h2 : w.cell? ⟨b, 2, none⟩ = some (.slice n.TA n.ts.length n.tc)) :
    Calls Try.prog 67 #[.int .i64 t, .pointer (some ⟨b, 0, none⟩)] w (VPost w.heap.size w (.bool (!(inT n t)))) := by
  have CT : Hid (∀ W, Calls Try.prog 35 #[.agg #[.string n.nm, .slice n.PA n.ps.length n.pc, .slice n.TA n.ts.length n.tc], .int .i64 t] W (VPost W.heap.size W (.bool (inT n t)))) := fun W => fisTrans_any n t W
  generalize inT n t = B at *
  go_enter Try.func67, Try.ntmps67
  go_wp2_with fail
  refine (CT.out _).mono ?_
  rintro e w2 ⟨rfl, K⟩
  have K := Lib.hid K
  go_wp2
  go_ret
  exact ⟨rfl, K.out⟩
set_option maxHeartbeats 1000000 in
theorem seq_index (A : Option Addr) (l : List Int) (c b : Nat) (n : NetV) (w : World) (hr : ReadsV w A l) (hl : l.length ≤ 1000)
    (h0 : w.cell? ⟨b, 0, none⟩ = some (.string n.nm)) (h1 : w.cell? ⟨b, 1, none⟩ = some (.slice n.PA n.ps.length n.pc)) (h2 : w.cell? ⟨b, 2, none⟩ = some (.slice n.TA n.ts.length n.tc)) :
    Calls Try.prog 76 #[.slice A l.length c, .func (.func 67) #[] #[.pointer (some ⟨b, 0, none⟩)]] w (VPost w.heap.size w (.int .i64 (firstI (badF n l) l.length 0))) := by
  have hD : ∀ k, k < l.length → (∀ j, j < k → badF n l j = false) → badF n l k = true → (k : Int) = firstI (badF n l) l.length 0 := fun k h1 h2 h3 => (firstI_at h1 h2 h3).symm
  have hN : (∀ j, j < l.length → badF n l j = false) → -1 = firstI (badF n l) l.length 0 := fun h => (firstI_none h).symm
  generalize firstI (badF n l) l.length 0 = S at *
  have HD := Lib.hid hD
  have HNo := Lib.hid hN
  have HR := Lib.hid hr
  have HC : Hid (∀ k W, k < l.length → Below w.heap.size w W → Calls Try.prog 67 #[.int .i64 (at0 l k), .pointer (some ⟨b, 0, none⟩)] W (VPost W.heap.size W (.bool (badF n l k)))) := fun k W hk hW =>
    clos_seq n (at0 l k) b W ((hW.cell (p := ⟨b, 0, none⟩) (World.block_lt_of_cell? w ⟨b, 0, none⟩ h0)).trans h0) ((hW.cell (p := ⟨b, 1, none⟩) (World.block_lt_of_cell? w ⟨b, 1, none⟩ h1)).trans h1) ((hW.cell (p := ⟨b, 2, none⟩) (World.block_lt_of_cell? w ⟨b, 2, none⟩ h2)).trans h2)
  clear hr hD hN h0 h1 h2
  generalize hg : w.heap.size = g at *
  have HG := Lib.hid hg
  clear hg
  generalize hn : l.length = ln at *
  have HN := Lib.hid hn
  clear hn
  go_enter Try.func76, Try.ntmps76
  go_wp2
  go_loopw [8] (fun q wr => ∃ k : Nat, k ≤ ln ∧ q = .int .i64 k ∧ Hid (Below g w wr) ∧ Hid (∀ j, j < k → badF n l j = false)) (fun q _ => ln - (intOf q).toNat)
  case atStart => exact ⟨0, by omega, rfl, Below.refl _ _, fun j hj => absurd hj (by omega)⟩
  case round =>
    obtain ⟨k, hk, rfl, HB, HM⟩ := hrel
    have HBk : Hid (∀ w2, Below wr.heap.size wr w2 → Below g w w2) := fun w2 h => HB.out.trans (h.mono (by have := HB.out.size; rw [HG.out] at this; exact this))
    by_cases hlt : k < ln
    · obtain ⟨b0, off, rfl, hc0⟩ := at_of_reads (HR.out.below HB.out (by rw [HG.out]; exact Nat.le_refl _)) k (by rw [HN.out]; exact hlt)
      have HT := Lib.hid (HD.out k hlt HM.out)
      have HF : Hid (badF n l k = false → ∀ j, j < k + 1 → badF n l j = false) := upto_snoc HM.out
      have C := HC.out k wr hlt HB.out
      clear HM
      generalize badF n l k = t at *
      generalize at0 l k = x at *
      replace C := Lib.hid C
      cases t
      · have HF2 := Lib.hid (HF.out rfl)
        go_wp2_with fail
        refine C.out.mono ?_
        rintro e w2 ⟨rfl, K⟩
        have K2 := Lib.hid (HBk.out _ K)
        clear K
        go_wp2
        go_roundw
        case rel => exact ⟨k + 1, by omega, by go_num, K2, HF2⟩
        case measure => simp [intOf]; omega
      · have HT2 := Lib.hid (HT.out rfl)
        go_wp2_with fail
        refine C.out.mono ?_
        rintro e w2 ⟨rfl, K⟩
        have K2 := Lib.hid (HBk.out _ K)
        clear K
        go_wp2
        go_ret
        exact ⟨ret_i HT2.out, K2.out⟩
    · have E := Lib.hid (HNo.out (fun j hj => HM.out j (by omega)))
      clear HM
      go_wp2
      go_ret
      exact ⟨ret_i E.out, HB.out⟩
theorem seq_contains (A : Option Addr) (l : List Int) (c b : Nat) (n : NetV) (w : World) (hr : ReadsV w A l) (hl : l.length ≤ 1000)
    (h0 : w.cell? ⟨b, 0, none⟩ = some (.string n.nm)) (h1 : w.cell? ⟨b, 1, none⟩ = some (.slice n.PA n.ps.length n.pc)) (h2 : w.cell? ⟨b, 2, none⟩ = some (.slice n.TA n.ts.length n.tc)) :
    Calls Try.prog 66 #[.slice A l.length c, .func (.func 67) #[] #[.pointer (some ⟨b, 0, none⟩)]] w (VPost w.heap.size w (.bool (anyB (badF n l) l.length))) := by
  have C := seq_index A l c b n w hr hl h0 h1 h2
  unfold anyB
  generalize firstI (badF n l) l.length 0 = S at *
  generalize l.length = ln at *
  clear hr h0 h1 h2
  replace C := Lib.hid C
  go_enter Try.func66, Try.ntmps66
  go_wp2_with fail
  refine C.out.mono ?_
  rintro e w2 ⟨rfl, K⟩
  have K2 := Lib.hid K
  clear K
  by_cases q : 0 ≤ S
  · have q2 : decide (0 ≤ S) = true := by simpa using q
    have q3 := Lib.hid q2
    go_wp2
    go_ret
    exact ⟨ret_b q3.out.symm, K2.out⟩
  · have q2 : decide (0 ≤ S) = false := by simpa using q
    have q3 := Lib.hid q2
    go_wp2
    go_ret
    exact ⟨ret_b q3.out.symm, K2.out⟩


set_option maxHeartbeats 2000000 in
set_option maxRecDepth 100000 in
theorem checkSeq_any (n : NetV) (Q : Option Addr) (seq : List Int) (sc : Nat) (w : World) (hr : NetR w n) (hq : ReadsV w Q seq) (hql : seq.length ≤ 1000) :
    Calls Try.prog 48 #[.agg #[.string n.nm, .slice n.PA n.ps.length n.pc, .slice n.TA n.ts.length n.tc], .slice Q seq.length sc] w (VPost w.heap.size w (.int .i64 (seqE n seq))) := by
  have CK : Hid (∀ W, Below w.heap.size w W → Calls Try.prog 54 #[.agg #[.string n.nm, .slice n.PA n.ps.length n.pc, .slice n.TA n.ts.length n.tc]] W (FPost W.heap.size W (chkV n))) := fun W hW => check_any n W (hr.below hW (Nat.le_refl _))
  have CC : Hid (∀ W b, Below w.heap.size w W → W.cell? ⟨b, 0, none⟩ = some (.string n.nm) → W.cell? ⟨b, 1, none⟩ = some (.slice n.PA n.ps.length n.pc) → W.cell? ⟨b, 2, none⟩ = some (.slice n.TA n.ts.length n.tc) → Calls Try.prog 66 #[.slice Q seq.length sc, .func (.func 67) #[] #[.pointer (some ⟨b, 0, none⟩)]] W (VPost W.heap.size W (.bool (anyB (badF n seq) seq.length)))) := fun W b hW e0 e1 e2 => seq_contains Q seq sc b n W (hq.below hW (Nat.le_refl _)) hql e0 e1 e2
  have B0 : Hid (Below w.heap.size w (w.alloc (.cells #[.string n.nm, .slice n.PA n.ps.length n.pc, .slice n.TA n.ts.length n.tc] 25))) := ((Below.refl _ _).alloc (Nat.le_refl _) _)
  have q0 : (w.alloc (.cells #[.string n.nm, .slice n.PA n.ps.length n.pc, .slice n.TA n.ts.length n.tc] 25)).cell? ⟨w.heap.size, 0, none⟩ = some (.string n.nm) := by simp
  have q1 : (w.alloc (.cells #[.string n.nm, .slice n.PA n.ps.length n.pc, .slice n.TA n.ts.length n.tc] 25)).cell? ⟨w.heap.size, 1, none⟩ = some (.slice n.PA n.ps.length n.pc) := by simp
  have q2 : (w.alloc (.cells #[.string n.nm, .slice n.PA n.ps.length n.pc, .slice n.TA n.ts.length n.tc] 25)).cell? ⟨w.heap.size, 2, none⟩ = some (.slice n.TA n.ts.length n.tc) := by simp
  by_cases h0 : (chkV n).1 = 0
  rotate_left
  · rw [seqE_chk h0]
    clear hr hq CC
    generalize chkV n = cv at *
    obtain ⟨e0, e1⟩ := cv
    dsimp only at *
    have z0 : (e0 != 0) = true := by simpa using h0
    clear h0
    go_enter Try.func48, Try.ntmps48
    go_wp2_with fail
    refine (CK.out _ B0.out).mono ?_
    rintro e x1 ⟨rfl, K⟩
    have q0 := keepc q0 K
    have q1 := keepc q1 K
    have q2 := keepc q2 K
    have Dx1 := Lib.hid (B0.out.trans (K.mono B0.out.size))
    clear K
    have Dx1a := Lib.hid (Dx1.out.alloc Dx1.out.size (.cells #[.int .i64 e0, .int .i64 e1] 38))
    go_wp2
    go_ret
    exact ⟨rfl, Dx1a.out⟩
  have HCK := CK.out
  have CK : Hid (∃ e1 : Int, ∀ W, Below w.heap.size w W → Calls Try.prog 54 #[.agg #[.string n.nm, .slice n.PA n.ps.length n.pc, .slice n.TA n.ts.length n.tc]] W (FPost W.heap.size W (0, e1))) := ⟨(chkV n).2, fun W hW => by have := HCK W hW; rw [← h0]; exact this⟩
  clear HCK
  obtain ⟨e1, CK⟩ := CK.out
  have CK := Lib.hid CK
  cases hb : anyB (badF n seq) seq.length
  · rw [seqE_ok h0 hb]
    rw [hb] at CC
    clear hr hq hb h0
    go_enter Try.func48, Try.ntmps48
    go_wp2_with fail
    refine (CK.out _ B0.out).mono ?_
    rintro e x1 ⟨rfl, K⟩
    have q0 := keepc q0 K
    have q1 := keepc q1 K
    have q2 := keepc q2 K
    have Dx1 := Lib.hid (B0.out.trans (K.mono B0.out.size))
    clear K
    have Dx1a := Lib.hid (Dx1.out.alloc Dx1.out.size (.cells #[.int .i64 0, .int .i64 e1] 38))
    have hz1 : w.heap.size < x1.heap.size := World.block_lt_of_cell? x1 _ q0
    have q0 := cellA q0 (.cells #[.int .i64 0, .int .i64 e1] 38)
    have q1 := cellA q1 (.cells #[.int .i64 0, .int .i64 e1] 38)
    have q2 := cellA q2 (.cells #[.int .i64 0, .int .i64 e1] 38)
    go_wp2_with fail
    refine (CC.out _ _ Dx1a.out q0 q1 q2).mono ?_
    rintro e x2 ⟨rfl, K⟩
    have q0 := keepc q0 K
    have q1 := keepc q1 K
    have q2 := keepc q2 K
    have Dx2 := Lib.hid (Dx1a.out.trans (K.mono Dx1a.out.size))
    clear K
    go_wp2
    go_ret
    exact ⟨rfl, Dx2.out⟩
  · rw [seqE_bad h0 hb]
    rw [hb] at CC
    clear hr hq hb h0
    go_enter Try.func48, Try.ntmps48
    go_wp2_with fail
    refine (CK.out _ B0.out).mono ?_
    rintro e x1 ⟨rfl, K⟩
    have q0 := keepc q0 K
    have q1 := keepc q1 K
    have q2 := keepc q2 K
    have Dx1 := Lib.hid (B0.out.trans (K.mono B0.out.size))
    clear K
    have Dx1a := Lib.hid (Dx1.out.alloc Dx1.out.size (.cells #[.int .i64 0, .int .i64 e1] 38))
    have hz1 : w.heap.size < x1.heap.size := World.block_lt_of_cell? x1 _ q0
    have q0 := cellA q0 (.cells #[.int .i64 0, .int .i64 e1] 38)
    have q1 := cellA q1 (.cells #[.int .i64 0, .int .i64 e1] 38)
    have q2 := cellA q2 (.cells #[.int .i64 0, .int .i64 e1] 38)
    go_wp2_with fail
    refine (CC.out _ _ Dx1a.out q0 q1 q2).mono ?_
    rintro e x2 ⟨rfl, K⟩
    have q0 := keepc q0 K
    have q1 := keepc q1 K
    have q2 := keepc q2 K
    have Dx2 := Lib.hid (Dx1a.out.trans (K.mono Dx1a.out.size))
    clear K
    go_wp2
    go_ret
    exact ⟨rfl, Dx2.out⟩
end Go.Proofs.Ytaomgfmlnjdoaaa
