/- The names of a sequence; lists of numbers and of texts are equal. -/
import Derived.Test.YtaomgfmlnjdoaaaFPA
import Derived.Test.YtaomgfmlnjdoaaaFP
namespace Go.Proofs.Ytaomgfmlnjdoaaa
open Go.RowKit

def RdS (w : World) (A : Option Addr) (n : Nat) (f : Nat → ByteArray) : Prop := ∀ j, j < n → ∃ b off, A = some ⟨b, off, none⟩ ∧ b < w.heap.size ∧ w.cell? ⟨b, off + j, none⟩ = some (.string (f j))
theorem RdS.below {w w' : World} {A : Option Addr} {n : Nat} {f : Nat → ByteArray} {B : Nat} (h : RdS w A n f) (hb : Below B w w') (hB : w.heap.size ≤ B) : RdS w' A n f := fun j hj => by
  obtain ⟨b, off, e, h1, h2⟩ := h j hj
  exact ⟨b, off, e, Nat.lt_of_lt_of_le h1 hb.size, (hb.cell (p := ⟨b, off + j, none⟩) (Nat.lt_of_lt_of_le h1 hB)).trans h2⟩
theorem RdS.zero (w : World) (A : Option Addr) (f : Nat → ByteArray) : RdS w A 0 f := fun j hj => absurd hj (by omega)
def strL (k : Nat) (f : Nat → ByteArray) : List Value := (List.range k).map fun j => .string (f j)
theorem strL_snoc (k : Nat) (f : Nat → ByteArray) : strL (k + 1) f = strL k f ++ [.string (f k)] := by simp [strL, List.range_succ]
theorem strL_len (k : Nat) (f : Nat → ByteArray) : (strL k f).length = k := by simp [strL]
def OwnS (w : World) (s : Nat) (v : Value) (k : Nat) (f : Nat → ByteArray) : Prop := w.ownsRow s 9 1 v k (strL k f)
theorem OwnS.nil (w : World) (s : Nat) (f : Nat → ByteArray) : OwnS w s (.slice none 0 0) 0 f := World.ownsRow_nil _ _ _ _
theorem OwnS.below {w w' : World} {s B k : Nat} {v : Value} {f : Nat → ByteArray} (h : OwnS w s v k f) (hb : Below B w w') (hB : w.heap.size ≤ B) : OwnS w' s v k f := own_below h hb hB
theorem OwnS.alloc {w : World} {s k : Nat} {v : Value} {f : Nat → ByteArray} (h : OwnS w s v k f) (o : Obj) : OwnS (w.alloc o) s v k f := h.below (B := w.heap.size) ((Below.refl _ _).alloc (Nat.le_refl _) _) (Nat.le_refl _)
theorem OwnS.reads {w : World} {s k : Nat} {v : Value} {f : Nat → ByteArray} (h : OwnS w s v k f) : ∃ A c, v = .slice A k c ∧ RdS w A k f := by
  have hl := strL_len k f
  rcases h.2 with ⟨rfl, h0⟩ | ⟨g, cap, cur, rfl, _, hg, _⟩
  · obtain rfl : k = 0 := by omega
    exact ⟨none, 0, rfl, RdS.zero _ _ _⟩
  · have hc : ∀ j, j < k → w.cell? ⟨g, j, none⟩ = some (.string (f j)) := fun j hj => by
      rw [World.ownsRow.cellAt h j (by omega)]
      simp [strL, hj]
    exact ⟨_, _, rfl, fun j hj => ⟨_, _, rfl, World.block_lt_of_cell? w ⟨g, j, none⟩ (hc j hj), by rw [Nat.zero_add]; exact hc j hj⟩⟩
theorem infoStr : (Try.prog.info? 9).map (fun i => (i.zero, i.size, i.bytes)) = some (some (.string ByteArray.empty), 1, 16) := by kernel_rfl
theorem oper_str {o : Oper} {a : Act} {w : World} {K : Act → World → Prop} {Q : Exit → Act → World → Prop} (s x : Operand)
    (ho : o.op = .call { callee := .builtin .append, args := #[s, x], argTypes := #[45, 45] })
    (base : Nat) (v : Value) (k : Nat) (f : Nat → ByteArray) (hs : a.eval s = v) (hO : OwnS w base v k f) (g : Nat) (hx : a.eval x = .slice (some ⟨g, 0, none⟩) 1 1)
    (hc : w.cell? ⟨g, 0, none⟩ = some (.string (f k))) (hl : k ≤ 100000) (hbase : base ≤ w.heap.size)
    (h : ∀ v' w', OwnS w' base v' (k + 1) f → Below base w w' → K (a.put o.dst v') w') : Oper.wp Try.prog o a w K Q := by
  obtain ⟨i, hi, hz, h1, h2⟩ := info_parts infoStr
  refine oper_append_own_at w s x 45 ho base 9 i (.string ByteArray.empty) 1 16 Try.underlying45 hi hz h1 h2 rfl (by decide) v k (strL k f) hs hO ⟨g, 0, none⟩ 1 1 [.string (f k)] hx rfl ?_ ?_ (by unfold maxLen; omega) (by omega) hbase ?_
  · intro j u hj
    cases j with
    | zero => simp at hj; subst hj; simpa [Addr.add] using hc
    | succ j => simp at hj
  · intro u hu
    simp at hu
    subst hu
    simp [Value.oneCell']
  · intro v' w' hown hgrow
    refine h v' w' ?_ ((Below.refl base w).grown hgrow hbase fun q e => (World.ownsRow.lt hO q e).1)
    unfold OwnS
    rw [strL_snoc]
    exact hown
def nmF (n : NetV) (seq : List Int) (k : Nat) : ByteArray := (tA n.ts (at0 seq k).toNat).nm
def namN (n : NetV) (seq : List Int) : Nat := if seqE n seq = 0 then seq.length else 0
theorem namN_ok {n : NetV} {seq : List Int} (h : seqE n seq = 0) : namN n seq = seq.length := by unfold namN; rw [if_pos h]
theorem namN_no {n : NetV} {seq : List Int} (h : seqE n seq ≠ 0) : namN n seq = 0 := by unfold namN; rw [if_neg h]
def PairS (g : Nat) (w : World) (k : Nat) (f : Nat → ByteArray) (v : Value) (e : Ending) (w' : World) : Prop := ∃ A c, e = .returned (.tuple #[.slice A k c, v]) ∧ RdS w' A k f ∧ Below g w w'
def upF (k : Nat) (f : Nat → ByteArray) (j : Nat) : Value := if j < k then .string (f j) else .string ByteArray.empty
theorem up_read {w : World} {g : Nat} {t : TypeId} {n : Nat} {f : Nat → ByteArray} (h : w.rowIs g t n (upF n f)) : RdS w (some ⟨g, 0, none⟩) n f := fun j hj => by
  exact ⟨g, 0, rfl, h.lt, by rw [Nat.zero_add, h.cell hj]; unfold upF; rw [if_pos hj]⟩
theorem up_step {w : World} {g : Nat} {t : TypeId} {n k : Nat} {f : Nat → ByteArray} (h : w.rowIs g t n (upF k f)) : (w.setCell ⟨g, k, none⟩ (.string (f k))).rowIs g t n (upF (k + 1) f) := (h.set k _).congr fun j _ => by
  unfold upF
  by_cases e : j = k
  · subst e
    rw [if_pos rfl, if_pos (Nat.lt_succ_self j)]
  · rw [if_neg e]
    by_cases e2 : j < k
    · rw [if_pos e2, if_pos (by omega)]
    · rw [if_neg e2, if_neg (by omega)]
set_option maxHeartbeats 1000000 in
theorem nums_law_eq (A B : Option Addr) (a b : List Int) (ca cb : Nat) (w : World) (ra : ReadsV w A a) (rb : ReadsV w B b) (hl : a.length ≤ 9223372036854775807) (hab : b.length = a.length) :
    Calls Try.prog 29 #[.slice A a.length ca, .slice B b.length cb] w (BPost w.heap.size w (sameL a b)) := by
  generalize hS : sameL a b = S
  have HS := Lib.hid hS
  clear hS
  have RA := Lib.hid ra
  have RB := Lib.hid rb
  clear ra rb
  generalize hg : w.heap.size = g at *
  have HG := Lib.hid hg
  clear hg
  have HB := Lib.hid hab
  rw [hab]
  clear hab
  generalize hn : a.length = n at *
  have HN := Lib.hid hn
  clear hn
  have e1 : ((n : Int) != (n : Int)) = false := by simp
  go_enter Try.func29, Try.ntmps29
  go_wp2_with fail
  go_loopw [5] (fun q wr => ∃ k : Nat, k ≤ n ∧ q = .int .i64 k ∧ Hid (∀ j, j < k → EqP (at0 a j) (at0 b j)) ∧ Hid (Below g w wr)) (fun q _ => n - (intOf q).toNat)
  case atStart => exact ⟨0, by omega, rfl, fun j hj => absurd hj (by omega), Below.refl _ _⟩
  case round =>
    obtain ⟨k, hk, rfl, HM, B1⟩ := hrel
    by_cases hlt : k < n
    · obtain ⟨ba, oa, e1, hx⟩ := at_of_reads (RA.out.below B1.out (by rw [HG.out]; exact Nat.le_refl _)) k (by rw [HN.out]; exact hlt)
      subst e1
      obtain ⟨bb, ob, e2, hy⟩ := at_of_reads (RB.out.below B1.out (by rw [HG.out]; exact Nat.le_refl _)) k (by rw [HB.out]; exact hlt)
      subst e2
      have HF : Hid (¬ (EqP (at0 a k) (at0 b k)) → S = false) := by
        intro h
        rw [← HS.out]
        unfold sameL
        rw [allB_no k (by rw [HN.out]; exact hlt) (by rw [decide_eq_false_iff_not]; exact h), Bool.and_false]
      have HT : Hid (EqP (at0 a k) (at0 b k) → ∀ j, j < k + 1 → EqP (at0 a j) (at0 b j)) := fun h j hj => by
        by_cases e : j < k
        · exact HM.out j e
        · obtain rfl : j = k := by omega
          exact h
      clear HM
      generalize at0 a k = x at *
      generalize at0 b k = y at *
      by_cases z1 : EqP x y
      · have G := Lib.hid (HT.out z1)
        clear HT HF
        unfold EqP at z1
        subst z1
        have z2 : (x != x) = false := by simp
        go_wp2_with fail
        go_quiet (fail)
        go_wp2
        go_roundw
        case rel => exact ⟨k + 1, by omega, by go_num, G, below_drewN B1.out _⟩
        case measure => simp [intOf]; omega
      · have G := Lib.hid (HF.out z1)
        clear HT HF
        unfold EqP at z1
        have z2 : (x != y) = true := by simpa using z1
        go_wp2_with fail
        go_quiet (fail)
        go_wp2
        go_ret
        exact ⟨ret_b G.out.symm, below_drewN B1.out _⟩
    · have E : Hid (S = true) := by
        show _ = _
        rw [← HS.out]
        unfold sameL
        rw [Bool.and_eq_true]
        exact ⟨by rw [decide_eq_true_eq, HN.out, HB.out], allB_yes fun j hj => by
          have := HM.out j (by rw [HN.out] at hj; omega)
          exact decide_eq_true this⟩
      go_wp2
      go_ret
      exact ⟨ret_b E.out.symm, B1.out⟩

set_option maxHeartbeats 1000000 in
theorem strs_law (A B : Option Addr) (n : Nat) (f : Nat → ByteArray) (ca cb : Nat) (w : World) (ra : RdS w A n f) (rb : RdS w B n f) (hl : n ≤ 100000) :
    Calls Try.prog 30 #[.slice A n ca, .slice B n cb] w (BPost w.heap.size w true) := by
  have RA := Lib.hid ra
  have RB := Lib.hid rb
  clear ra rb
  have e1 : ((n : Int) != (n : Int)) = false := by simp
  go_enter Try.func30, Try.ntmps30
  go_wp2_with fail
  go_loopw [5] (fun q wr => ∃ k : Nat, k ≤ n ∧ q = .int .i64 k ∧ Hid (Below w.heap.size w wr)) (fun q _ => n - (intOf q).toNat)
  case atStart => exact ⟨0, by omega, rfl, Below.refl _ _⟩
  case round =>
    obtain ⟨k, hk, rfl, B1⟩ := hrel
    by_cases hlt : k < n
    · obtain ⟨ba, oa, e1, _, hx⟩ := (RA.out.below B1.out (Nat.le_refl _)) k hlt
      subst e1
      obtain ⟨bb, ob, e2, _, hy⟩ := (RB.out.below B1.out (Nat.le_refl _)) k hlt
      subst e2
      generalize f k = x at *
      go_wp2_with fail
      go_quiet (fail)
      go_wp2
      go_roundw
      case rel => exact ⟨k + 1, by omega, by go_num, below_drewN B1.out _⟩
      case measure => simp [intOf]; omega
    · go_wp2
      go_ret
      exact ⟨rfl, B1.out⟩

set_option maxHeartbeats 4000000 in
set_option maxRecDepth 100000 in
theorem names_any (n : NetV) (Q : Option Addr) (seq : List Int) (sc : Nat) (w : World) (hr : NetR w n) (hq : ReadsV w Q seq) (hql : seq.length ≤ 1000) :
    Calls Try.prog 27 #[.agg #[.string n.nm, .slice n.PA n.ps.length n.pc, .slice n.TA n.ts.length n.tc], .slice Q seq.length sc] w (PairS w.heap.size w (namN n seq) (nmF n seq) (.int .i64 (seqE n seq))) := by
  have CK : Hid (∀ W, Below w.heap.size w W → Calls Try.prog 48 #[.agg #[.string n.nm, .slice n.PA n.ps.length n.pc, .slice n.TA n.ts.length n.tc], .slice Q seq.length sc] W (VPost W.heap.size W (.int .i64 (seqE n seq)))) := fun W hW => checkSeq_any n Q seq sc W (hr.below hW (Nat.le_refl _)) (hq.below hW (Nat.le_refl _)) hql
  have HS := Lib.hid hq
  have TD : Hid (∀ i, i < n.ts.length → ∃ bt ot, n.TA = some ⟨bt, ot, none⟩ ∧ ∀ W, Below w.heap.size w W → W.cell? ⟨bt, ot + i * 5, none⟩ = some (.string (tA n.ts i).nm)) := fun i hi => by
    obtain ⟨bt, ot, eT, hbt, d0, _⟩ := hr.rt i hi
    exact ⟨bt, ot, eT, fun W hW => (hW.cell (World.block_lt_of_cell? w _ d0)).trans d0⟩
  have B0 : Hid (Below w.heap.size w (w.alloc (.cells #[.string n.nm, .slice n.PA n.ps.length n.pc, .slice n.TA n.ts.length n.tc] 25))) := ((Below.refl _ _).alloc (Nat.le_refl _) _)
  have q0 : (w.alloc (.cells #[.string n.nm, .slice n.PA n.ps.length n.pc, .slice n.TA n.ts.length n.tc] 25)).cell? ⟨w.heap.size, 0, none⟩ = some (.string n.nm) := by simp
  have q1 : (w.alloc (.cells #[.string n.nm, .slice n.PA n.ps.length n.pc, .slice n.TA n.ts.length n.tc] 25)).cell? ⟨w.heap.size, 1, none⟩ = some (.slice n.PA n.ps.length n.pc) := by simp
  have q2 : (w.alloc (.cells #[.string n.nm, .slice n.PA n.ps.length n.pc, .slice n.TA n.ts.length n.tc] 25)).cell? ⟨w.heap.size, 2, none⟩ = some (.slice n.TA n.ts.length n.tc) := by simp
  by_cases h0 : seqE n seq = 0
  rotate_left
  · rw [namN_no h0]
    have z0 : (seqE n seq != 0) = true := by simpa using h0
    clear hr hq h0
    generalize seqE n seq = E at *
    go_enter Try.func27, Try.ntmps27
    go_wp2_with fail
    refine (CK.out _ B0.out).mono ?_
    rintro e x1 ⟨rfl, K⟩
    have q0 := keepc q0 K
    have q1 := keepc q1 K
    have q2 := keepc q2 K
    have Dx1 := Lib.hid (B0.out.trans (K.mono B0.out.size))
    clear K
    go_wp2
    go_ret2
    exact ⟨none, 0, rfl, RdS.zero _ _ _, Dx1.out⟩
  have HIN := Lib.hid (seqE_zero h0).2
  have NF : Hid (∀ k, nmF n seq k = (tA n.ts (at0 seq k).toNat).nm) := fun k => rfl
  rw [namN_ok h0]
  rw [h0] at CK ⊢
  generalize nmF n seq = nf at *
  clear hr hq h0
  have hmk1 := run_make_row' (P := Try.prog) 45 9 (.string ByteArray.empty) 16 Try.underlying45 infoStr rfl .i64 .i64 seq.length (by omega) (by omega)
  go_enter Try.func27, Try.ntmps27
  go_wp2_with fail
  refine (CK.out _ B0.out).mono ?_
  rintro e x1 ⟨rfl, K⟩
  have q0 := keepc q0 K
  have q1 := keepc q1 K
  have q2 := keepc q2 K
  have Dx1 := Lib.hid (B0.out.trans (K.mono B0.out.size))
  clear K
  have M0 : Hid ((x1.alloc (.cells (madeCells #[.string ByteArray.empty] seq.length) 9)).rowIs x1.heap.size 9 seq.length (upF 0 nf)) := (World.rowIs_made x1 (.string ByteArray.empty) seq.length 9).congr fun j _ => by unfold upF; rw [if_neg (by omega)]
  have BA : Hid (Below x1.heap.size x1 (x1.alloc (.cells (madeCells #[.string ByteArray.empty] seq.length) 9))) := (Below.refl _ _).alloc (Nat.le_refl _) _
  have q2h := Lib.hid q2
  have hz1 : w.heap.size < x1.heap.size := World.block_lt_of_cell? x1 _ q0
  go_wp2_with fail
  clear q0 q1 q2
  go_loopw [21] (fun q wr => ∃ k : Nat, k ≤ seq.length ∧ q = .int .i64 k ∧ Hid (wr.rowIs x1.heap.size 9 seq.length (upF k nf)) ∧ Hid (Below x1.heap.size x1 wr)) (fun q _ => seq.length - (intOf q).toNat)
  case atStart => exact ⟨0, by omega, rfl, M0, BA⟩
  case round =>
    clear M0 BA
    obtain ⟨k, hk, rfl, MR, BB⟩ := hrel
    have BG := Lib.hid (Dx1.out.trans (BB.out.mono Dx1.out.size))
    by_cases hlt : k < seq.length
    · obtain ⟨bs, os, eS, fS⟩ := at_of_reads (HS.out.below BG.out (Nat.le_refl _)) k hlt
      subst eS
      have q2 := keepc q2h.out BB.out
      obtain ⟨hi0, hi1⟩ := HIN.out k hlt
      have NFk := NF.out k
      obtain ⟨i, hi⟩ : ∃ i : Nat, at0 seq k = i := ⟨(at0 seq k).toNat, by omega⟩
      rw [hi] at fS hi0 hi1 NFk
      rw [Int.toNat_natCast] at NFk
      have hi2 : i < n.ts.length := by omega
      obtain ⟨bt, ot, eT, hd⟩ := TD.out i hi2
      have d0 := hd wr BG.out
      rw [eT] at q2
      rw [← NFk] at d0
      have z := MR.out.cell hlt
      have hf := MR.out.frozen k
      have MX := Lib.hid (up_step MR.out)
      clear hi NFk eT hd
      generalize nf k = v at *
      generalize upF k nf k = v0 at *
      clear MR
      go_wp2
      go_roundw
      case rel => exact ⟨k + 1, by omega, by go_num, MX, BB.out.setCell (p := ⟨x1.heap.size, k, none⟩) (Nat.le_refl _) _⟩
      case measure => simp [intOf]; omega
    · obtain rfl : k = seq.length := by omega
      have RR := Lib.hid (up_read MR.out)
      clear MR
      go_wp2
      go_ret2
      exact ⟨some ⟨x1.heap.size, 0, none⟩, seq.length, rfl, RR.out, BG.out⟩

set_option maxHeartbeats 8000000 in
set_option maxRecDepth 100000 in
theorem rnames_any (n : NetV) (Q : Option Addr) (seq : List Int) (sc : Nat) (w : World) (hr : NetR w n) (hq : ReadsV w Q seq) (hql : seq.length ≤ 1000) :
    Calls Try.prog 28 #[.agg #[.string n.nm, .slice n.PA n.ps.length n.pc, .slice n.TA n.ts.length n.tc], .slice Q seq.length sc] w (PairS w.heap.size w (namN n seq) (nmF n seq) (.int .i64 (seqE n seq))) := by
  have CK : Hid (∀ W, Below w.heap.size w W → Calls Try.prog 44 #[.agg #[.string n.nm, .slice n.PA n.ps.length n.pc, .slice n.TA n.ts.length n.tc]] W (FPost W.heap.size W (chkV n))) := fun W hW => rcheck_any n W (hr.below hW (Nat.le_refl _))
  have HS := Lib.hid hq
  have TD : Hid (∀ i, i < n.ts.length → ∃ bt ot, n.TA = some ⟨bt, ot, none⟩ ∧ ∀ W, Below w.heap.size w W → W.cell? ⟨bt, ot + i * 5, none⟩ = some (.string (tA n.ts i).nm)) := fun i hi => by
    obtain ⟨bt, ot, eT, hbt, d0, _⟩ := hr.rt i hi
    exact ⟨bt, ot, eT, fun W hW => (hW.cell (World.block_lt_of_cell? w _ d0)).trans d0⟩
  have B0 : Hid (Below w.heap.size w (w.alloc (.cells #[.string n.nm, .slice n.PA n.ps.length n.pc, .slice n.TA n.ts.length n.tc] 25))) := ((Below.refl _ _).alloc (Nat.le_refl _) _)
  have q0 : (w.alloc (.cells #[.string n.nm, .slice n.PA n.ps.length n.pc, .slice n.TA n.ts.length n.tc] 25)).cell? ⟨w.heap.size, 0, none⟩ = some (.string n.nm) := by simp
  have q1 : (w.alloc (.cells #[.string n.nm, .slice n.PA n.ps.length n.pc, .slice n.TA n.ts.length n.tc] 25)).cell? ⟨w.heap.size, 1, none⟩ = some (.slice n.PA n.ps.length n.pc) := by simp
  have q2 : (w.alloc (.cells #[.string n.nm, .slice n.PA n.ps.length n.pc, .slice n.TA n.ts.length n.tc] 25)).cell? ⟨w.heap.size, 2, none⟩ = some (.slice n.TA n.ts.length n.tc) := by simp
  by_cases h0 : (chkV n).1 = 0
  rotate_left
  · rw [namN_no (by rw [seqE_chk h0]; exact h0), seqE_chk h0]
    clear hr hq
    generalize chkV n = cv at *
    obtain ⟨e0, e1⟩ := cv
    dsimp only at *
    have z0 : (e0 != 0) = true := by simpa using h0
    clear h0
    go_enter Try.func28, Try.ntmps28
    go_wp2_with fail
    refine (CK.out _ B0.out).mono ?_
    rintro e x1 ⟨rfl, K⟩
    have q0 := keepc q0 K
    have q1 := keepc q1 K
    have q2 := keepc q2 K
    have Dx1 := Lib.hid (B0.out.trans (K.mono B0.out.size))
    clear K
    have Dx1a := Lib.hid (Dx1.out.alloc Dx1.out.size (.cells #[.int .i64 e0, .int .i64 e1] 38))
    have hz1 : w.heap.size < x1.heap.size := World.block_lt_of_cell? x1 _ q0
    have q0 := cellA q0 (.cells #[.int .i64 e0, .int .i64 e1] 38)
    have q1 := cellA q1 (.cells #[.int .i64 e0, .int .i64 e1] 38)
    have q2 := cellA q2 (.cells #[.int .i64 e0, .int .i64 e1] 38)
    go_wp2_with fail
    (try go_quiet (fail))
    go_wp2
    go_ret2
    exact ⟨none, 0, rfl, RdS.zero _ _ _, by first | exact Dx1a.out | exact below_drewN Dx1a.out _⟩
  have SB : Hid (∀ k, k < seq.length → inT n (at0 seq k) = false → seqE n seq = 1 ∧ namN n seq = 0) := fun k hk h => by
    have := (seq_bad h0 hk h).1
    exact ⟨this, namN_no (by rw [this]; decide)⟩
  have SG : Hid ((∀ k, k < seq.length → inT n (at0 seq k) = true) → seqE n seq = 0 ∧ namN n seq = seq.length) := fun h => by
    have := (seq_good h0 h).1
    exact ⟨this, namN_ok this⟩
  have NF : Hid (∀ k, nmF n seq k = (tA n.ts (at0 seq k).toNat).nm) := fun k => rfl
  have HCK := CK.out
  have CK : Hid (∃ e1 : Int, ∀ W, Below w.heap.size w W → Calls Try.prog 44 #[.agg #[.string n.nm, .slice n.PA n.ps.length n.pc, .slice n.TA n.ts.length n.tc]] W (FPost W.heap.size W (0, e1))) := ⟨(chkV n).2, fun W hW => by have := HCK W hW; rw [← h0]; exact this⟩
  clear HCK h0 hr hq
  obtain ⟨e1, CK⟩ := CK.out
  have CK := Lib.hid CK
  generalize seqE n seq = E at *
  generalize namN n seq = NN at *
  generalize nmF n seq = nf at *
  go_enter Try.func28, Try.ntmps28
  go_wp2_with fail
  refine (CK.out _ B0.out).mono ?_
  rintro e x1 ⟨rfl, K⟩
  have q0 := keepc q0 K
  have q1 := keepc q1 K
  have q2 := keepc q2 K
  have Dx1 := Lib.hid (B0.out.trans (K.mono B0.out.size))
  clear K
  have Dx1a := Lib.hid (Dx1.out.alloc Dx1.out.size (.cells #[.int .i64 0, .int .i64 e1] 38))
  have hz1 : w.heap.size < x1.heap.size := World.block_lt_of_cell? x1 _ q0
  have q0 := cellA q0 (.cells #[.int .i64 0, .int .i64 e1] 38)
  have q1 := cellA q1 (.cells #[.int .i64 0, .int .i64 e1] 38)
  have q2 := cellA q2 (.cells #[.int .i64 0, .int .i64 e1] 38)
  obtain ⟨wx, hwx⟩ : ∃ wx, wx = (x1.alloc (.cells #[.int .i64 0, .int .i64 e1] 38)) := ⟨_, rfl⟩
  obtain ⟨s, hs⟩ : ∃ s, s = wx.heap.size := ⟨_, rfl⟩
  have HSZ := Lib.hid hs
  have P2 : Hid (∀ W, Below s wx W → W.cell? ⟨w.heap.size, 2, none⟩ = some (.slice n.TA n.ts.length n.tc)) := fun W hW => by
    rw [HSZ.out] at hW
    exact keepc (by rw [hwx]; exact q2) hW
  have WG : Hid (∀ W, Below s wx W → Below w.heap.size w W) := fun W hW => by
    have h : Below w.heap.size w wx := by rw [hwx]; exact Dx1a.out
    exact h.trans (hW.mono (by rw [HSZ.out]; exact h.size))
  have START : Hid (Below s wx (x1.alloc (.cells #[.int .i64 0, .int .i64 e1] 38))) := by rw [← hwx]; exact Below.refl _ _
  clear q0 q1 Dx1a hs hwx
  go_wp2_with fail
  go_loopw [7, 8] (fun p q wr => ∃ k : Nat, k ≤ seq.length ∧ q = .int .i64 k ∧ Hid (OwnS wr s p k nf) ∧ Hid (Below s wx wr) ∧ Hid (∀ j, j < k → inT n (at0 seq j) = true)) (fun _ q _ => seq.length - (intOf q).toNat)
  case atStart => exact ⟨0, by omega, rfl, OwnS.nil _ _ _, START, fun j hj => absurd hj (by omega)⟩
  case round =>
    clear q2 START
    obtain ⟨k, hk, rfl, O, BB, HX⟩ := hrel
    have BG := Lib.hid (WG.out _ BB.out)
    have q2 := P2.out wr BB.out
    by_cases hlt : k < seq.length
    · obtain ⟨bs, os, eS, fS⟩ := at_of_reads (HS.out.below BG.out (Nat.le_refl _)) k hlt
      subst eS
      have SBk := Lib.hid (SB.out k hlt)
      have HF : Hid (inT n (at0 seq k) = true → ∀ j, j < k + 1 → inT n (at0 seq j) = true) := fun h j hj => by
        by_cases e : j < k
        · exact HX.out j e
        · obtain rfl : j = k := by omega
          exact h
      by_cases h1 : 0 ≤ at0 seq k
      rotate_left
      · have E1 := Lib.hid (SBk.out (by unfold inT; rw [decide_eq_false h1]; rfl))
        clear SBk HF HX O
        generalize at0 seq k = t at *
        have z1 : decide (t < 0) = true := by simp; omega
        go_wp2_with fail
        go_quiet (fail)
        go_wp2
        go_ret2
        rw [E1.out.1, E1.out.2]
        exact ⟨none, 0, rfl, RdS.zero _ _ _, below_drewN BG.out _⟩
      by_cases h2 : at0 seq k < (n.ts.length : Int)
      rotate_left
      · have E1 := Lib.hid (SBk.out (by unfold inT; rw [decide_eq_false h2]; simp))
        clear SBk HF HX O
        generalize at0 seq k = t at *
        have z1 : decide (t < 0) = false := by simp; omega
        have z2 : decide ((n.ts.length : Int) ≤ t) = true := by simp; omega
        go_wp2_with fail
        go_quiet (fail)
        go_wp2
        go_ret2
        rw [E1.out.1, E1.out.2]
        exact ⟨none, 0, rfl, RdS.zero _ _ _, below_drewN BG.out _⟩
      have HF2 := Lib.hid (HF.out (inT_iff.2 ⟨h1, h2⟩))
      have NFk := NF.out k
      obtain ⟨i, hi⟩ : ∃ i : Nat, at0 seq k = i := ⟨(at0 seq k).toNat, by omega⟩
      rw [hi] at fS h1 h2 NFk
      rw [Int.toNat_natCast] at NFk
      have hi2 : i < n.ts.length := by omega
      obtain ⟨bt, ot, eT, hd⟩ := TD.out i hi2
      rw [← NFk] at hd
      have d0 := hd wr BG.out
      have q2 : wr.cell? ⟨w.heap.size, 2, none⟩ = some (.slice (some ⟨bt, ot, none⟩) n.ts.length n.tc) := by rw [← eT]; exact q2
      have PQ : Hid (∀ W, Below s wx W → W.cell? ⟨w.heap.size, 2, none⟩ = some (.slice (some ⟨bt, ot, none⟩) n.ts.length n.tc) ∧ W.cell? ⟨bs, os + k, none⟩ = some (.int .i64 (i : Int)) ∧ W.cell? ⟨bt, ot + i * 5, none⟩ = some (.string (nf k))) := fun W hW => by
        refine ⟨by rw [← eT]; exact P2.out W hW, ?_, hd W (WG.out W hW)⟩
        obtain ⟨b, o, e, h⟩ := at_of_reads (HS.out.below (WG.out W hW) (Nat.le_refl _)) k hlt
        injection e with e; injection e with e3 e4; subst e3 e4
        rw [hi] at h
        exact h
      clear SBk HF HX hi NFk eT hd
      have z1 : decide ((i : Int) < 0) = false := decide_eq_false (by omega)
      have z2 : decide ((n.ts.length : Int) ≤ (i : Int)) = false := decide_eq_false (by omega)
      have PM : Hid (∀ nn, OwnS (wr.drewN nn) s u7 k nf) := fun nn => O.out.below (below_drewN (Below.refl wr.heap.size wr) nn) (Nat.le_refl _)
      have PB : Hid (∀ nn, Below s wx (wr.drewN nn)) := fun nn => below_drewN BB.out nn
      clear SB SG P2 TD NF
      go_wp2_with fail
      go_quiet (fail)
      clear fS q2 d0 O BB BG z1 z2
      generalize hw4 : wr.drewN _ = wv
      have O : Hid (OwnS wv s u7 k nf) := by rw [← hw4]; exact PM.out _
      have BB : Hid (Below s wx wv) := by rw [← hw4]; exact PB.out _
      clear hw4 PM PB
      obtain ⟨q2, fS, d0⟩ := PQ.out wv BB.out
      go_upto_region 10 with fail
      refine wp_region_held_drew (S := fun w' => w'.cell? ⟨w.heap.size, 2, none⟩ = some (.slice (some ⟨bt, ot, none⟩) n.ts.length n.tc) ∧ w'.cell? ⟨bs, os + k, none⟩ = some (.int .i64 (i : Int)) ∧ w'.cell? ⟨bt, ot + i * 5, none⟩ = some (.string (nf k)) ∧ Hid (Below s wx w')) (by kernel_rfl) ?_ (fun hHeld => ?_)
      · exact ⟨q2, fS, d0, BB.out.drew⟩
      refine wpAnyH_take (oi := ⟨_, _, _, _, _, _⟩) (i := 0) (v := ?_) rfl (by kernel_rfl) (by kernel_rfl) (by kernel_rfl) (fun _ _ _ h => h) (Or.inl ⟨by rfl, ?ya0⟩) (by assumption) ?ra0
      case ya0 => (intro w hSw; (try dsimp only at hSw); go_simp; (try with_reducible rfl))
      try simp only [Act.put, List.setIfInBounds_toArray, List.set_cons_zero, List.set_cons_succ]
      refine wpAnyH_take (oi := ⟨_, _, _, _, _, _⟩) (i := 1) (v := ?_) rfl (by kernel_rfl) (by kernel_rfl) (by kernel_rfl) (fun _ _ _ h => h) (Or.inl ⟨by rfl, ?ya1⟩) (by assumption) ?ra1
      case ya1 => (intro w hSw; (try dsimp only at hSw); go_simp; (try with_reducible rfl))
      try simp only [Act.put, List.setIfInBounds_toArray, List.set_cons_zero, List.set_cons_succ]
      refine wpAnyH_take (oi := ⟨_, _, _, _, _, _⟩) (i := 2) (v := ?_) rfl (by kernel_rfl) (by kernel_rfl) (by kernel_rfl) (fun _ _ _ h => h) (Or.inl ⟨by rfl, ?ya2⟩) (by assumption) ?ra2
      case ya2 => (intro w hSw; (try dsimp only at hSw); go_simp; (try with_reducible rfl))
      try simp only [Act.put, List.setIfInBounds_toArray, List.set_cons_zero, List.set_cons_succ]
      refine wpAnyH_take (oi := ⟨_, _, _, _, _, _⟩) (i := 3) (v := ?_) rfl (by kernel_rfl) (by kernel_rfl) (by kernel_rfl) (fun _ _ _ h => h) (Or.inl ⟨by rfl, ?ya3⟩) (by assumption) ?ra3
      case ya3 => (intro w hSw; (try dsimp only at hSw); go_simp; (try with_reducible rfl))
      try simp only [Act.put, List.setIfInBounds_toArray, List.set_cons_zero, List.set_cons_succ]
      refine wpAnyH_take (oi := ⟨_, _, _, _, _, _⟩) (i := 4) (v := ?_) rfl (by kernel_rfl) (by kernel_rfl) (by kernel_rfl) (fun _ _ _ h => h) (Or.inl ⟨by rfl, ?ya4⟩) (by assumption) ?ra4
      case ya4 => (intro w hSw; (try dsimp only at hSw); go_simp; (try with_reducible rfl))
      try simp only [Act.put, List.setIfInBounds_toArray, List.set_cons_zero, List.set_cons_succ]
      refine wpAnyH_take (oi := ⟨_, _, _, _, _, _⟩) (i := 5) (v := ?_) rfl (by kernel_rfl) (by kernel_rfl) (by kernel_rfl) (fun _ _ _ h => h) (Or.inl ⟨by rfl, ?ya5⟩) (by assumption) ?ra5
      case ya5 => (intro w hSw; (try dsimp only at hSw); go_simp; (try with_reducible rfl))
      try simp only [Act.put, List.setIfInBounds_toArray, List.set_cons_zero, List.set_cons_succ]
      refine wpAnyH_take (oi := ⟨_, _, _, _, _, _⟩) (i := 6) (v := ?_) rfl (by kernel_rfl) (by kernel_rfl) (by kernel_rfl) (fun _ _ _ h => h) (Or.inl ⟨by rfl, ?ya6⟩) (by assumption) ?ra6
      case ya6 => (intro w hSw; (try dsimp only at hSw); go_simp; (try with_reducible rfl))
      try simp only [Act.put, List.setIfInBounds_toArray, List.set_cons_zero, List.set_cons_succ]
      refine wpAnyH_take (oi := ⟨_, _, _, _, _, _⟩) (i := 7) (v := ?_) rfl (by kernel_rfl) (by kernel_rfl) (by kernel_rfl) (fun _ _ _ h => h) (Or.inl ⟨by rfl, ?ya7⟩) (by assumption) ?ra7
      case ya7 => (intro w hSw; (try dsimp only at hSw); go_simp; (try with_reducible rfl))
      try simp only [Act.put, List.setIfInBounds_toArray, List.set_cons_zero, List.set_cons_succ]
      refine wpAnyH_take (oi := ⟨_, _, _, _, _, _⟩) (i := 8) (v := ?_) rfl (by kernel_rfl) (by kernel_rfl) (by kernel_rfl) (fun _ _ _ h => h) (Or.inl ⟨by rfl, ?ya8⟩) (by assumption) ?ra8
      case ya8 => (intro w hSw; (try dsimp only at hSw); go_simp; (try with_reducible rfl))
      try simp only [Act.put, List.setIfInBounds_toArray, List.set_cons_zero, List.set_cons_succ]
      refine wpAnyH_take (oi := ⟨_, _, _, _, _, _⟩) (i := 9) (v := ?_) rfl (by kernel_rfl) (by kernel_rfl) (by kernel_rfl) (fun _ _ _ h => h) (Or.inl ⟨by rfl, ?ya9⟩) (by assumption) ?ra9
      case ya9 => (intro w hSw; (try dsimp only at hSw); go_simp; (try with_reducible rfl))
      try simp only [Act.put, List.setIfInBounds_toArray, List.set_cons_zero, List.set_cons_succ]
      have O3 : Hid (OwnS wv.drew s u7 k nf) := O.out.below ((Below.refl wv.heap.size wv).drew) (Nat.le_refl _)
      generalize wv.drew = w4 at *
      have hs4 : s ≤ w4.heap.size := by rw [HSZ.out]; exact hHeld.2.2.2.out.size
      have O4 := Lib.hid (O3.out.alloc (.cells #[.string (nf k)] 9))
      refine wpAnyH_ready (rs := [10]) (by kernel_rfl) (by simp) ?_
      refine AllReadyH.cons (o := ⟨_, _, _, _, _, _⟩) rfl (fun K hK => ?_) AllReadyH.nil
      rw [if_pos (by rfl)]
      have LA : Below w4.heap.size w4 (w4.alloc (.cells #[.string (nf k)] 9)) := (Below.refl _ _).alloc (Nat.le_refl _) _
      go_simp
      refine hK.out _ _ ?_ (fun hHeld2 => ?_)
      · obtain ⟨h1, h2, h3, h4⟩ := hHeld; exact ⟨keepc h1 LA, keepc h2 LA, keepc h3 LA, h4.out.trans (LA.mono (by rw [HSZ.out]; exact h4.out.size))⟩
      clear hK K hHeld
      have hHeld := hHeld2
      clear hHeld2
      try simp only [Act.put, List.setIfInBounds_toArray, List.set_cons_zero, List.set_cons_succ]
      refine wpAnyH_ready (rs := [11]) (by kernel_rfl) (by simp) ?_
      refine AllReadyH.cons (o := ⟨_, _, _, _, _, _⟩) rfl (fun K hK => ?_) AllReadyH.nil
      rw [if_pos (by rfl)]
      refine oper_str (.tmp 37) (.tmp 47) rfl s _ k nf rfl O4.out w4.heap.size rfl (cell_new1 _ _ _) (by omega) (size_le_alloc hs4 _) ?_
      intro v' w6 hown' hb'
      have BG6 : Below s wx w6 := hHeld.2.2.2.out.trans hb'
      obtain ⟨y1, y2, y3⟩ := PQ.out w6 BG6
      refine hK.out _ _ ?_ (fun hHeld2 => ?_)
      · exact ⟨y1, y2, y3, BG6⟩
      clear hK K hHeld y1 y2 y3
      have B5 := hHeld2.2.2.2
      have hHeld := hHeld2
      clear hHeld2
      try simp only [Act.put, List.setIfInBounds_toArray, List.set_cons_zero, List.set_cons_succ]
      refine wpAnyH_take (oi := ⟨_, _, _, _, _, _⟩) (i := 12) (v := ?_) rfl (by kernel_rfl) (by kernel_rfl) (by kernel_rfl) (fun _ _ _ h => h) (Or.inl ⟨by rfl, ?yb12⟩) (by assumption) ?rb12
      case yb12 => (intro w hSw; (try dsimp only at hSw); go_simp; (try with_reducible rfl))
      try simp only [Act.put, List.setIfInBounds_toArray, List.set_cons_zero, List.set_cons_succ]
      refine wpAnyH_done (by kernel_rfl) ?_ _
      have O5 := Lib.hid hown'
      clear hown' hHeld
      go_wp2
      go_roundw
      case rel => exact ⟨k + 1, by omega, by go_num, O5, B5, HF2⟩
      case measure => simp [intOf]; omega
    · obtain rfl : k = seq.length := by omega
      obtain ⟨E1, E2⟩ := SG.out HX.out
      obtain ⟨A7, c7, e7, R7⟩ := O.out.reads
      subst e7
      have R7 := Lib.hid R7
      have E1 := Lib.hid E1
      have E2 := Lib.hid E2
      clear O SG SB
      go_wp2
      go_ret2
      rw [E1.out, E2.out]
      exact ⟨A7, c7, rfl, R7.out, BG.out⟩
end Go.Proofs.Ytaomgfmlnjdoaaa
