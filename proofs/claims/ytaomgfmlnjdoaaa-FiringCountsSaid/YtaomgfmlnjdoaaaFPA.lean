/- How often each transition occurs: by the program and by the reference. -/
import Derived.Test.YtaomgfmlnjdoaaaFQ
namespace Go.Proofs.Ytaomgfmlnjdoaaa
open Go.RowKit

def cntF (seq : List Int) (k j : Nat) : Int := ((seq.take k).count (j : Int) : Nat)
theorem cnt_zero (seq : List Int) (j : Nat) : cntF seq 0 j = 0 := by simp [cntF]
theorem cnt_step {seq : List Int} {k q : Nat} (hk : k < seq.length) (hq : at0 seq k = q) (j : Nat) : cntF seq (k + 1) j = if j = q then cntF seq k q + 1 else cntF seq k j := by
  unfold cntF
  rw [take_snoc seq hk, List.count_append, hq]
  by_cases e : j = q
  · subst e
    simp
  · have e2 : ¬ ((q : Int) = (j : Int)) := by omega
    rw [if_neg e]
    simp [List.count_cons, e2]
theorem cnt_bd (seq : List Int) (k j : Nat) : 0 ≤ cntF seq k j ∧ cntF seq k j ≤ k := by
  unfold cntF
  have := List.count_le_length (a := (j : Int)) (l := seq.take k)
  rw [List.length_take] at this
  omega
def parL (n : NetV) (seq : List Int) : List Int := if seqE n seq = 0 then tab n.ts.length (cntF seq seq.length) else []
theorem parL_ok {n : NetV} {seq : List Int} (h : seqE n seq = 0) : parL n seq = tab n.ts.length (cntF seq seq.length) := by unfold parL; rw [if_pos h]
theorem parL_no {n : NetV} {seq : List Int} (h : seqE n seq ≠ 0) : parL n seq = [] := by unfold parL; rw [if_neg h]
theorem rows_read {w : World} {g : Nat} {t : TypeId} {n : Nat} {f : Nat → Int} (h : w.rowIs g t n (fun j => .int .i64 (f j))) : ReadsV w (some ⟨g, 0, none⟩) (tab n f) := fun j hj => by
  rw [tab_len] at hj
  exact ⟨g, 0, rfl, h.lt, by rw [Nat.zero_add, h.cell hj, tab_at _ _ _ hj]⟩
theorem row_step {w : World} {g : Nat} {t : TypeId} {n k q : Nat} {seq : List Int} (h : w.rowIs g t n (fun j => .int .i64 (cntF seq k j))) (hk : k < seq.length) (hq : at0 seq k = q) :
    (w.setCell ⟨g, q, none⟩ (.int .i64 (cntF seq k q + 1))).rowIs g t n (fun j => .int .i64 (cntF seq (k + 1) j)) := (h.set q _).congr fun j _ => by
  rw [cnt_step hk hq]
  by_cases e : j = q
  · rw [if_pos e, if_pos e]
  · rw [if_neg e, if_neg e]
theorem seq_bad {n : NetV} {seq : List Int} (h0 : (chkV n).1 = 0) {k : Nat} (hk : k < seq.length) (h : inT n (at0 seq k) = false) : seqE n seq = 1 ∧ parL n seq = [] := by
  have e : seqE n seq = 1 := seqE_bad h0 (anyB_yes hk (by unfold badF; rw [h]; rfl))
  exact ⟨e, parL_no (by rw [e]; decide)⟩
theorem seq_good {n : NetV} {seq : List Int} (h0 : (chkV n).1 = 0) (h : ∀ k, k < seq.length → inT n (at0 seq k) = true) : seqE n seq = 0 ∧ parL n seq = tab n.ts.length (cntF seq seq.length) := by
  have e : seqE n seq = 0 := seqE_ok h0 (anyB_no fun k hk => by unfold badF; rw [h k hk]; rfl)
  exact ⟨e, parL_ok e⟩

set_option maxHeartbeats 4000000 in
set_option maxRecDepth 100000 in
theorem parikh_any (n : NetV) (Q : Option Addr) (seq : List Int) (sc : Nat) (w : World) (hr : NetR w n) (hq : ReadsV w Q seq) (hql : seq.length ≤ 1000) :
    Calls Try.prog 25 #[.agg #[.string n.nm, .slice n.PA n.ps.length n.pc, .slice n.TA n.ts.length n.tc], .slice Q seq.length sc] w (PairPost w.heap.size w (parL n seq) (.int .i64 (seqE n seq))) := by
  have CK : Hid (∀ W, Below w.heap.size w W → Calls Try.prog 48 #[.agg #[.string n.nm, .slice n.PA n.ps.length n.pc, .slice n.TA n.ts.length n.tc], .slice Q seq.length sc] W (VPost W.heap.size W (.int .i64 (seqE n seq)))) := fun W hW => checkSeq_any n Q seq sc W (hr.below hW (Nat.le_refl _)) (hq.below hW (Nat.le_refl _)) hql
  have htl : n.ts.length ≤ 1000 := hr.okt.1
  have HS := Lib.hid hq
  have B0 : Hid (Below w.heap.size w (w.alloc (.cells #[.string n.nm, .slice n.PA n.ps.length n.pc, .slice n.TA n.ts.length n.tc] 25))) := ((Below.refl _ _).alloc (Nat.le_refl _) _)
  have q0 : (w.alloc (.cells #[.string n.nm, .slice n.PA n.ps.length n.pc, .slice n.TA n.ts.length n.tc] 25)).cell? ⟨w.heap.size, 0, none⟩ = some (.string n.nm) := by simp
  have q1 : (w.alloc (.cells #[.string n.nm, .slice n.PA n.ps.length n.pc, .slice n.TA n.ts.length n.tc] 25)).cell? ⟨w.heap.size, 1, none⟩ = some (.slice n.PA n.ps.length n.pc) := by simp
  have q2 : (w.alloc (.cells #[.string n.nm, .slice n.PA n.ps.length n.pc, .slice n.TA n.ts.length n.tc] 25)).cell? ⟨w.heap.size, 2, none⟩ = some (.slice n.TA n.ts.length n.tc) := by simp
  by_cases h0 : seqE n seq = 0
  rotate_left
  · rw [parL_no h0]
    have z0 : (seqE n seq != 0) = true := by simpa using h0
    clear hr hq h0
    generalize seqE n seq = E at *
    go_enter Try.func25, Try.ntmps25
    go_wp2_with fail
    refine (CK.out _ B0.out).mono ?_
    rintro e x1 ⟨rfl, K⟩
    have q0 := keepc q0 K
    have q1 := keepc q1 K
    have q2 := keepc q2 K
    have Dx1 := Lib.hid (B0.out.trans (K.mono B0.out.size))
    clear K
    go_wp2
    go_ret2
    exact ⟨none, 0, rfl, ReadsV.nil _ _, Dx1.out⟩
  have HIN := Lib.hid (seqE_zero h0).2
  have PL := Lib.hid (parL_ok h0)
  rw [h0] at CK ⊢
  generalize parL n seq = PS at *
  clear hr hq h0
  have hmk1 := run_make_row' (P := Try.prog) 42 2 (.int .i64 0) 8 Try.underlying42 infoL rfl .i64 .i64 n.ts.length (by omega) (by omega)
  go_enter Try.func25, Try.ntmps25
  go_wp2_with fail
  refine (CK.out _ B0.out).mono ?_
  rintro e x1 ⟨rfl, K⟩
  have q0 := keepc q0 K
  have q1 := keepc q1 K
  have q2 := keepc q2 K
  have Dx1 := Lib.hid (B0.out.trans (K.mono B0.out.size))
  clear K
  have M0 : Hid ((x1.alloc (.cells (madeCells #[.int .i64 0] n.ts.length) 2)).rowIs x1.heap.size 2 n.ts.length (fun j => .int .i64 (cntF seq 0 j))) := (World.rowIs_made x1 (.int .i64 0) n.ts.length 2).congr fun j _ => by rw [cnt_zero]
  have BA : Hid (Below x1.heap.size x1 (x1.alloc (.cells (madeCells #[.int .i64 0] n.ts.length) 2))) := (Below.refl _ _).alloc (Nat.le_refl _) _
  go_wp2_with fail
  go_loopw [22] (fun q wr => ∃ k : Nat, k ≤ seq.length ∧ q = .int .i64 k ∧ Hid (wr.rowIs x1.heap.size 2 n.ts.length (fun j => .int .i64 (cntF seq k j))) ∧ Hid (Below x1.heap.size x1 wr)) (fun q _ => seq.length - (intOf q).toNat)
  case atStart => exact ⟨0, by omega, rfl, M0, BA⟩
  case round =>
    clear M0 BA
    obtain ⟨k, hk, rfl, MR, BB⟩ := hrel
    have BG := Lib.hid (Dx1.out.trans (BB.out.mono Dx1.out.size))
    by_cases hlt : k < seq.length
    · obtain ⟨bs, os, eS, fS⟩ := at_of_reads (HS.out.below BG.out (Nat.le_refl _)) k hlt
      subst eS
      obtain ⟨hi0, hi1⟩ := HIN.out k hlt
      obtain ⟨i, hi⟩ : ∃ i : Nat, at0 seq k = i := ⟨(at0 seq k).toNat, by omega⟩
      rw [hi] at fS hi0 hi1
      have hi2 : i < n.ts.length := by omega
      have z := MR.out.cell hi2
      have hf := MR.out.frozen i
      have MX := Lib.hid (row_step MR.out hlt hi)
      have hb := cnt_bd seq k i
      clear hi
      generalize cntF seq k i = v at *
      have hv : 0 ≤ v ∧ v ≤ 1000 := by omega
      clear hb MR
      go_wp2
      go_roundw
      case rel => exact ⟨k + 1, by omega, by go_num, MX, BB.out.setCell (p := ⟨x1.heap.size, i, none⟩) (Nat.le_refl _) _⟩
      case measure => simp [intOf]; omega
    · obtain rfl : k = seq.length := by omega
      have RR := Lib.hid (rows_read MR.out)
      rw [← PL.out] at RR
      have HL : Hid (PS.length = n.ts.length) := by show _ = _; rw [PL.out, tab_len]
      clear MR
      go_wp2
      go_ret2
      exact ⟨some ⟨x1.heap.size, 0, none⟩, n.ts.length, by rw [HL.out]; rfl, RR.out, BG.out⟩

set_option maxHeartbeats 8000000 in
set_option maxRecDepth 100000 in
theorem rparikh_any (n : NetV) (Q : Option Addr) (seq : List Int) (sc : Nat) (w : World) (hr : NetR w n) (hq : ReadsV w Q seq) (hql : seq.length ≤ 1000) :
    Calls Try.prog 26 #[.agg #[.string n.nm, .slice n.PA n.ps.length n.pc, .slice n.TA n.ts.length n.tc], .slice Q seq.length sc] w (PairPost w.heap.size w (parL n seq) (.int .i64 (seqE n seq))) := by
  have CK : Hid (∀ W, Below w.heap.size w W → Calls Try.prog 44 #[.agg #[.string n.nm, .slice n.PA n.ps.length n.pc, .slice n.TA n.ts.length n.tc]] W (FPost W.heap.size W (chkV n))) := fun W hW => rcheck_any n W (hr.below hW (Nat.le_refl _))
  have htl : n.ts.length ≤ 1000 := hr.okt.1
  have HS := Lib.hid hq
  have B0 : Hid (Below w.heap.size w (w.alloc (.cells #[.string n.nm, .slice n.PA n.ps.length n.pc, .slice n.TA n.ts.length n.tc] 25))) := ((Below.refl _ _).alloc (Nat.le_refl _) _)
  have q0 : (w.alloc (.cells #[.string n.nm, .slice n.PA n.ps.length n.pc, .slice n.TA n.ts.length n.tc] 25)).cell? ⟨w.heap.size, 0, none⟩ = some (.string n.nm) := by simp
  have q1 : (w.alloc (.cells #[.string n.nm, .slice n.PA n.ps.length n.pc, .slice n.TA n.ts.length n.tc] 25)).cell? ⟨w.heap.size, 1, none⟩ = some (.slice n.PA n.ps.length n.pc) := by simp
  have q2 : (w.alloc (.cells #[.string n.nm, .slice n.PA n.ps.length n.pc, .slice n.TA n.ts.length n.tc] 25)).cell? ⟨w.heap.size, 2, none⟩ = some (.slice n.TA n.ts.length n.tc) := by simp
  by_cases h0 : (chkV n).1 = 0
  rotate_left
  · rw [parL_no (by rw [seqE_chk h0]; exact h0), seqE_chk h0]
    clear hr hq
    generalize chkV n = cv at *
    obtain ⟨e0, e1⟩ := cv
    dsimp only at *
    have z0 : (e0 != 0) = true := by simpa using h0
    clear h0
    go_enter Try.func26, Try.ntmps26
    go_wp2_with fail
    refine (CK.out _ B0.out).mono ?_
    rintro e x1 ⟨rfl, K⟩
    have q0 := keepc q0 K
    have q1 := keepc q1 K
    have q2 := keepc q2 K
    have Dx1 := Lib.hid (B0.out.trans (K.mono B0.out.size))
    clear K
    have Dx1a := Lib.hid (Dx1.out.alloc Dx1.out.size (.cells #[.int .i64 e0, .int .i64 e1] 38))
    have hz1 : w.heap.size < x1.heap.size := World.block_lt_of_cell? x1 _ q0
    have q0 := cellA q0 (.cells #[.int .i64 e0, .int .i64 e1] 38)
    have q1 := cellA q1 (.cells #[.int .i64 e0, .int .i64 e1] 38)
    have q2 := cellA q2 (.cells #[.int .i64 e0, .int .i64 e1] 38)
    go_wp2_with fail
    (try go_quiet (fail))
    go_wp2
    go_ret2
    exact ⟨none, 0, rfl, ReadsV.nil _ _, by first | exact Dx1a.out | exact below_drewN Dx1a.out _⟩
  have SB : Hid (∀ k, k < seq.length → inT n (at0 seq k) = false → seqE n seq = 1 ∧ parL n seq = []) := fun k hk h => seq_bad h0 hk h
  have SG : Hid ((∀ k, k < seq.length → inT n (at0 seq k) = true) → seqE n seq = 0 ∧ parL n seq = tab n.ts.length (cntF seq seq.length)) := fun h => seq_good h0 h
  have HCK := CK.out
  have CK : Hid (∃ e1 : Int, ∀ W, Below w.heap.size w W → Calls Try.prog 44 #[.agg #[.string n.nm, .slice n.PA n.ps.length n.pc, .slice n.TA n.ts.length n.tc]] W (FPost W.heap.size W (0, e1))) := ⟨(chkV n).2, fun W hW => by have := HCK W hW; rw [← h0]; exact this⟩
  clear HCK h0 hr hq
  obtain ⟨e1, CK⟩ := CK.out
  have CK := Lib.hid CK
  generalize seqE n seq = E at *
  generalize parL n seq = PS at *
  have hmk1 := run_make_row' (P := Try.prog) 42 2 (.int .i64 0) 8 Try.underlying42 infoL rfl .i64 .i64 n.ts.length (by omega) (by omega)
  go_enter Try.func26, Try.ntmps26
  go_wp2_with fail
  refine (CK.out _ B0.out).mono ?_
  rintro e x1 ⟨rfl, K⟩
  have q0 := keepc q0 K
  have q1 := keepc q1 K
  have q2 := keepc q2 K
  have Dx1 := Lib.hid (B0.out.trans (K.mono B0.out.size))
  clear K
  have Dx1a := Lib.hid (Dx1.out.alloc Dx1.out.size (.cells #[.int .i64 0, .int .i64 e1] 38))
  have hz1 : w.heap.size < x1.heap.size := World.block_lt_of_cell? x1 _ q0
  have q0 := cellA q0 (.cells #[.int .i64 0, .int .i64 e1] 38)
  have q1 := cellA q1 (.cells #[.int .i64 0, .int .i64 e1] 38)
  have q2 := cellA q2 (.cells #[.int .i64 0, .int .i64 e1] 38)
  have HGW : Hid (w.heap.size ≤ x1.heap.size + 1) := by show _ ≤ _; omega
  have hg1 : w.heap.size < x1.heap.size + 1 := by omega
  have M0 : Hid (((x1.alloc (.cells #[.int .i64 0, .int .i64 e1] 38)).alloc (.cells (madeCells #[.int .i64 0] n.ts.length) 2)).rowIs (x1.alloc (.cells #[.int .i64 0, .int .i64 e1] 38)).heap.size 2 n.ts.length (fun j => .int .i64 (cntF seq 0 j))) := (World.rowIs_made (x1.alloc (.cells #[.int .i64 0, .int .i64 e1] 38)) (.int .i64 0) n.ts.length 2).congr fun j _ => by rw [cnt_zero]
  have BA : Hid (Below (x1.alloc (.cells #[.int .i64 0, .int .i64 e1] 38)).heap.size (x1.alloc (.cells #[.int .i64 0, .int .i64 e1] 38)) ((x1.alloc (.cells #[.int .i64 0, .int .i64 e1] 38)).alloc (.cells (madeCells #[.int .i64 0] n.ts.length) 2))) := (Below.refl _ _).alloc (Nat.le_refl _) _
  rw [World.size_alloc] at M0 BA
  have q2h := Lib.hid q2
  clear q0 q1
  go_wp2_with fail
  go_loopw [8] (fun q wr => ∃ k : Nat, k ≤ seq.length ∧ q = .int .i64 k ∧ Hid (wr.rowIs (x1.heap.size + 1) 2 n.ts.length (fun j => .int .i64 (cntF seq k j))) ∧ Hid (Below (x1.heap.size + 1) (x1.alloc (.cells #[.int .i64 0, .int .i64 e1] 38)) wr) ∧ Hid (∀ j, j < k → inT n (at0 seq j) = true)) (fun q _ => seq.length - (intOf q).toNat)
  case atStart => exact ⟨0, by omega, rfl, M0, BA, fun j hj => absurd hj (by omega)⟩
  case round =>
    clear M0 BA q2
    obtain ⟨k, hk, rfl, MR, BB, HX⟩ := hrel
    have BG := Lib.hid (Dx1a.out.trans (BB.out.mono HGW.out))
    have q2 : wr.cell? ⟨w.heap.size, 2, none⟩ = some (.slice n.TA n.ts.length n.tc) := (BB.out.cell (by exact hg1)).trans q2h.out
    by_cases hlt : k < seq.length
    · obtain ⟨bs, os, eS, fS⟩ := at_of_reads (HS.out.below BG.out (Nat.le_refl _)) k hlt
      subst eS
      have SBk := Lib.hid (SB.out k hlt)
      have HF : Hid (inT n (at0 seq k) = true → ∀ j, j < k + 1 → inT n (at0 seq j) = true) := fun h j hj => by
        by_cases e : j < k
        · exact HX.out j e
        · obtain rfl : j = k := by omega
          exact h
      by_cases h1 : 0 ≤ at0 seq k
      rotate_left
      · have E1 := Lib.hid (SBk.out (by unfold inT; rw [decide_eq_false h1]; rfl))
        clear SBk HF HX MR
        generalize at0 seq k = t at *
        have z1 : decide (t < 0) = true := by simp; omega
        go_wp2_with fail
        go_quiet (fail)
        go_wp2
        go_ret2
        rw [E1.out.1, E1.out.2]
        exact ⟨none, 0, rfl, ReadsV.nil _ _, below_drewN BG.out _⟩
      by_cases h2 : at0 seq k < (n.ts.length : Int)
      rotate_left
      · have E1 := Lib.hid (SBk.out (by unfold inT; rw [decide_eq_false h2]; simp))
        clear SBk HF HX MR
        generalize at0 seq k = t at *
        have z1 : decide (t < 0) = false := by simp; omega
        have z2 : decide ((n.ts.length : Int) ≤ t) = true := by simp; omega
        go_wp2_with fail
        go_quiet (fail)
        go_wp2
        go_ret2
        rw [E1.out.1, E1.out.2]
        exact ⟨none, 0, rfl, ReadsV.nil _ _, below_drewN BG.out _⟩
      have HF2 := Lib.hid (HF.out (inT_iff.2 ⟨h1, h2⟩))
      obtain ⟨i, hi⟩ : ∃ i : Nat, at0 seq k = i := ⟨(at0 seq k).toNat, by omega⟩
      rw [hi] at fS h1 h2
      have hi2 : i < n.ts.length := by omega
      clear SBk HF HX
      have z1 : decide ((i : Int) < 0) = false := decide_eq_false (by omega)
      have z2 : decide ((n.ts.length : Int) ≤ (i : Int)) = false := decide_eq_false (by omega)
      have PM : Hid (∀ nn, (wr.drewN nn).rowIs (x1.heap.size + 1) 2 n.ts.length (fun j => .int .i64 (cntF seq k j))) := fun nn => MR.out
      have PB : Hid (∀ nn, Below (x1.heap.size + 1) (x1.alloc (.cells #[.int .i64 0, .int .i64 e1] 38)) (wr.drewN nn)) := fun nn => below_drewN BB.out nn
      have PF : Hid (∀ nn, (wr.drewN nn).cell? ⟨bs, os + k, none⟩ = some (.int .i64 (i : Int))) := fun nn => fS
      have HI := Lib.hid hi
      clear hi
      go_wp2_with fail
      go_quiet (fail)
      clear fS q2 MR BB BG z1 z2
      generalize hw4 : wr.drewN _ = w4
      have MR : Hid (w4.rowIs (x1.heap.size + 1) 2 n.ts.length (fun j => .int .i64 (cntF seq k j))) := by rw [← hw4]; exact PM.out _
      have BB : Hid (Below (x1.heap.size + 1) (x1.alloc (.cells #[.int .i64 0, .int .i64 e1] 38)) w4) := by rw [← hw4]; exact PB.out _
      have fS : w4.cell? ⟨bs, os + k, none⟩ = some (.int .i64 (i : Int)) := by rw [← hw4]; exact PF.out _
      clear hw4 PM PB PF
      have z := MR.out.cell hi2
      have hf := MR.out.frozen i
      have MX := Lib.hid (row_step MR.out hlt HI.out)
      have hb := cnt_bd seq k i
      generalize cntF seq k i = v at *
      have hv : 0 ≤ v ∧ v ≤ 1000 := by omega
      clear hb MR
      go_wp2
      go_roundw
      case rel => exact ⟨k + 1, by omega, by go_num, MX, BB.out.setCell (p := ⟨x1.heap.size + 1, i, none⟩) (Nat.le_refl _) _, HF2⟩
      case measure => simp [intOf]; omega
    · obtain rfl : k = seq.length := by omega
      obtain ⟨E1, E2⟩ := SG.out HX.out
      have RR := Lib.hid (rows_read MR.out)
      rw [← E2] at RR
      have HL : Hid (PS.length = n.ts.length) := by show _ = _; rw [E2, tab_len]
      have E1 := Lib.hid E1
      clear MR E2 SG SB
      go_wp2
      go_ret2
      rw [E1.out]
      exact ⟨some ⟨x1.heap.size + 1, 0, none⟩, n.ts.length, by rw [HL.out]; rfl, RR.out, BG.out⟩
end Go.Proofs.Ytaomgfmlnjdoaaa
