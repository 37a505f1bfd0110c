/- Runs of a net by weights: the visitor of Trace, and Trace. -/
import Derived.Test.YtpfkkjgklhcejaaSDT
import Derived.Test.YtpfkkjgklhcejaaSL
import Derived.Test.YtpfkkjgklhcejaaSR
namespace Go.Proofs.Ytpfkkjgklhcejaa
open Go.RowKit

theorem blk_ne {W : World} {b c : Nat} {t t' : TypeId} {cs cs' : Array Value} {fz fz' : Nat × Nat} (h : W.heap[b]? = some (.cells cs t fz)) (h' : W.heap[c]? = some (.cells cs' t' fz')) (ht : t ≠ t') : b ≠ c := by
  intro e
  subst e
  rw [h] at h'
  injection h' with h'
  injection h' with _ h'
  exact ht h'
theorem own_typed {W : World} {base n : Nat} {e : TypeId} {v : Value} {xs : List Value} (h : W.ownsRow base e 1 v n xs) {b : Nat} (hb : v.ownBlock = some b) : base ≤ b ∧ ∃ cur, W.heap[b]? = some (.cells cur e (0, 0)) := by
  rcases h.2 with ⟨h0, _⟩ | ⟨g, cap, cur, h1, h2, h3, _⟩
  · rw [h0] at hb; cases hb
  · rw [h1] at hb
    have : g = b := by simpa [Value.ownBlock] using hb
    subst this
    exact ⟨h2, cur, h3⟩
theorem OwnL.of {W W' : World} {s : Nat} {v : Value} {L : List Row} (h : OwnL W s v L) (hk : ∀ b, v.ownBlock = some b → W'.heap[b]? = W.heap[b]?) (hr : ∀ r ∈ L, r.zs ≠ [] → ∀ b off, r.A = some ⟨b, off, none⟩ → W'.heap[b]? = W.heap[b]?) : OwnL W' s v L := by
  refine ⟨⟨h.1.1, ?_⟩, fun r hm => ?_⟩
  · rcases h.1.2 with h0 | ⟨g, cap, cur, h1, h2, h3, h4⟩
    · exact .inl h0
    · exact .inr ⟨g, cap, cur, h1, h2, by rw [hk g (by rw [h1]; rfl)]; exact h3, h4⟩
  · obtain ⟨⟨h1, h2⟩, h3⟩ := h.2 r hm
    exact ⟨⟨reads_of h1 (hr r hm), h2⟩, fun hn b off e => (h3 hn b off e).imp id fun ⟨cs, hc⟩ => ⟨cs, by rw [hr r hm hn b off e]; exact hc⟩⟩
theorem wpList_row_g {ops : Array Oper} {rest : List Oper} {o : Oper} {a : Act} {w : World} {Q : Exit → Act → World → Prop} (hgd : o.guard = none) (s x : Operand)
    (ho : o.op = .call { callee := .builtin .append, args := #[s, x], argTypes := #[37, 37] })
    (base : Nat) (v : Value) (L : List Row) (r : Row) (u : Value) (hu : u = r.v) (hs : a.eval s = v) (hO : OwnL w base v L) (g : Nat) (hx : a.eval x = .slice (some ⟨g, 0, none⟩) 1 1)
    (hc : w.cell? ⟨g, 0, none⟩ = some u) (hr : FarR w base r) (hl : L.length ≤ 100000) (hbase : base ≤ w.heap.size)
    (h : ∀ g' c' w', OwnL w' base (.slice (some ⟨g', 0, none⟩) (L.length + 1) c') (L ++ [r]) → w.grownBy w' v.ownBlock → wpList Try.prog ops Q rest (a.put o.dst (.slice (some ⟨g', 0, none⟩) (L.length + 1) c')) w') : wpList Try.prog ops Q (o :: rest) a w := by
  obtain ⟨i, hi, hz, h1, h2⟩ := info_parts infoR
  subst hu
  refine wpList_append_own _ hgd s x 37 ho base 26 i (.slice none 0 0) 1 24 Try.underlying37 hi hz h1 h2 rfl (by decide) v L.length (L.map Row.v) hs hO.1 ⟨g, 0, none⟩ 1 1 [r.v] hx rfl ?_ ?_ (by unfold maxLen; omega) (by omega) hbase ?_
  · intro j u hj
    cases j with
    | zero => simp at hj; subst hj; simpa [Addr.add] using hc
    | succ j => simp at hj
  · intro u hu
    simp at hu
    subst hu
    simp [Value.oneCell', Row.v]
  · intro v' w' hown hgrow _
    obtain ⟨g', c', rfl⟩ := ownsRow_succ hown
    exact h g' c' w' (own_snoc hO r hr hgrow hown) hgrow
def marks (h : Hist) : List (List Int) := h.map (·.2)
theorem marks_snoc (h : Hist) (x : Nat × List Int) : marks (h ++ [x]) = marks h ++ [x.2] := by simp [marks]
/-- what the visitor of Trace keeps -/
def InvT (g : Nat) (w0 : World) (z bq lb : Nat) (m0 : List Int) (s : Nat) (h : Hist) (W : World) : Prop :=
  Below g w0 W ∧ ∃ v L, Boxed W bq 37 v ∧ OwnL W lb v L ∧ rowsL L = m0 :: marks h ∧ ∀ r ∈ L, FarZ z s r.A r.zs
theorem InvT.keep {g : Nat} {w0 : World} {z bq lb : Nat} {m0 : List Int} {s : Nat} {h : Hist} {W W' : World} (H : InvT g w0 z bq lb m0 s h W) (hg : g ≤ W.heap.size) (hb : Below W.heap.size W W') : InvT g w0 z bq lb m0 s h W' := by
  obtain ⟨h1, v, L, b1, o1, e1, f1⟩ := H
  exact ⟨h1.trans (hb.mono hg), v, L, boxed_of b1 (hb.block _ b1.lt), o1.below hb (Nat.le_refl _), e1, f1⟩
theorem InvT.grow {g : Nat} {w0 : World} {z bq lb : Nat} {m0 : List Int} {s P : Nat} {h : Hist} {W W' : World} (H : InvT g w0 z bq lb m0 s h W) (hq : bq < z) (hgq : g ≤ bq) (hz : z ≤ P) (hP : P < s) (hr : ∃ k f, W.rowIs P 3 k f) (hg : W.grownBy W' (some P)) : InvT g w0 z bq lb m0 s h W' := by
  obtain ⟨h1, v, L, b1, o1, e1, f1⟩ := H
  obtain ⟨k, f, cc, hPc, _⟩ := hr
  have K : ∀ k, k < W.heap.size → k ≠ P → W'.heap[k]? = W.heap[k]? := fun k hk hn => hg.block k hk (by simpa using hn)
  refine ⟨⟨hg.os.trans h1.os, hg.tape.trans h1.tape, hg.output.trans h1.output, Nat.le_trans h1.size hg.size, fun k hk => ?_⟩, v, L, boxed_of b1 (K _ b1.lt (by omega)), o1.of (fun b e => ?_) (fun r hm hn b off e => ?_), e1, f1⟩
  · exact (K k (by have := b1.lt; omega) (by omega)).trans (h1.block k hk)
  · obtain ⟨_, cur, hc⟩ := own_typed o1.1 e
    exact K b (Array.getElem?_eq_some_iff.1 hc).1 (blk_ne hc hPc (by decide))
  · exact K b (block_reads (o1.2 r hm).1.1 hn e) (by rcases f1 r hm hn b off e with h2 | h2 <;> omega)

set_option maxHeartbeats 2000000 in
theorem vis_trace (g : Nat) (w0 : World) (z bq lb : Nat) (m0 : List Int) (s : Nat) (h : Hist) (n : NetV) (t : Nat) (m : List Int) (B : Option Addr) (cb : Nat) (W1 W : World) (hI : InvT g w0 z bq lb m0 s h W1) (hs : s ≤ W1.heap.size) (hz : z ≤ s) (hgq : g ≤ bq) (hgl : g ≤ lb) (hlz : lb ≤ z) (hq : bq < z)
    (hb : Below W1.heap.size W1 W) (hF : FreshG W W1.heap.size B m) (hm : m.length ≤ 24) (hh : h.length < 10000) :
    Calls Try.prog 27 #[.int .i64 (t : Nat), .slice B m.length cb, .pointer (some ⟨bq, 0, none⟩)] W fun e w' => e = .returned (.tuple #[]) ∧ InvT g w0 z bq lb m0 s (h ++ [(t, m)]) w' ∧ W.heap.size ≤ w'.heap.size ∧ (∀ k cc, z ≤ k → k < s → (W.heap[k]? = some (.cells cc 3 (0, 0)) ∨ W.heap[k]? = some (netObj n)) → w'.heap[k]? = W.heap[k]?) ∧ ReadsV w' B m := by
  have hgW1 : g ≤ W1.heap.size := by omega
  have hI := hI.keep hgW1 hb
  obtain ⟨hB0, v, L, b1, o1, e1, f1⟩ := hI
  obtain ⟨Av, cv, ev, _⟩ := o1.reads
  subst ev
  have hW := hb.size
  have hB := Lib.hid hB0
  have O1 := Lib.hid o1
  have E1 := Lib.hid e1
  have F1 := Lib.hid f1
  have hLl : L.length = h.length + 1 := by
    have e := congrArg List.length e1
    rw [rowsL_len] at e
    simpa [marks] using e
  have hl17 : L.length ≤ 100000 := by omega
  have HMS := Lib.hid (marks_snoc h (t, m))
  have c1 := b1.cell
  have f1' := b1.frozen
  have hb1 := b1.lt
  have RF := Lib.hid hF
  have HB1 := Lib.hid b1
  have NB : Hid (∀ b, (Value.slice Av L.length cv).ownBlock = some b → lb ≤ b ∧ ∃ cur, W.heap[b]? = some (.cells cur 26 (0, 0))) := fun b e => own_typed o1.1 e
  have FR : Hid (FarR W lb ⟨B, m, cb⟩) := FarR.freshG hF (by show m.length ≤ 1000; omega)
  have KP : Hid (∀ w5, (W.alloc (.cells #[.slice B m.length cb] 26)).grownBy w5 (Value.slice Av L.length cv).ownBlock → (∀ k, k < W.heap.size → (∀ b, (Value.slice Av L.length cv).ownBlock = some b → k ≠ b) → w5.heap[k]? = W.heap[k]?) ∧ w5.cell? ⟨bq, 0, none⟩ = some (.slice Av L.length cv) ∧ w5.frozen? ⟨bq, 0, none⟩ = false) := fun w5 hgr => by
    have KEEP : ∀ k, k < W.heap.size → (∀ b, (Value.slice Av L.length cv).ownBlock = some b → k ≠ b) → w5.heap[k]? = W.heap[k]? := fun k hk hn => (hgr.block k (by rw [World.size_alloc]; omega) (fun e => hn k e.symm rfl)).trans (Deep.blk_alloc_lt W _ _ hk)
    have KQ := KEEP bq hb1 (fun b e => by
      obtain ⟨_, cur, hc⟩ := NB.out b e
      exact blk_ne b1 hc (by decide))
    exact ⟨KEEP, (World.cell?_of_block (a := ⟨bq, 0, none⟩) KQ).trans c1, (World.frozen?_of_block (a := ⟨bq, 0, none⟩) KQ).trans f1'⟩
  clear hI o1 e1 f1 hB0 hF b1 hLl
  go_enter Try.func27, Try.ntmps27
  go_wp2_with (at_builtin; refine wpList_row_g rfl (.tmp 5) (.tmp 7) rfl lb _ L ⟨B, m, cb⟩ _ rfl rfl (O1.out.alloc _) _ rfl (cell_new1 _ _ _) (FR.out.alloc _) hl17 (by rw [World.size_alloc]; omega) ?_; intro g' c' w5 hown hgr; obtain ⟨KEEP, c5, f5⟩ := KP.out _ hgr)
  have KEEP2 : ∀ k, k < W.heap.size → (∀ b, (Value.slice Av L.length cv).ownBlock = some b → k ≠ b) → k ≠ bq → (w5.setCell ⟨bq, 0, none⟩ (.slice (some ⟨g', 0, none⟩) (L.length + 1) c')).heap[k]? = W.heap[k]? := fun k hk hn h1 => (Below.heap_setCell _ _ _ k h1).trans (KEEP k hk hn)
  have NQ : ∀ b, (Value.slice Av L.length cv).ownBlock = some b → bq ≠ b := fun b e => by
    obtain ⟨_, cur, hc⟩ := NB.out b e
    exact blk_ne HB1.out hc (by decide)
  have B1' : Boxed w5 bq 37 _ := boxed_of HB1.out (KEEP bq hb1 NQ)
  have RB : ReadsV (w5.setCell ⟨bq, 0, none⟩ (.slice (some ⟨g', 0, none⟩) (L.length + 1) c')) B m := reads_of RF.out.1 fun hn b off e => by
    obtain ⟨_, cs, hc⟩ := RF.out.2 hn b off e
    have h2 := block_reads RF.out.1 hn e
    exact KEEP2 b h2 (fun b' e' => by
      obtain ⟨_, cur, hc'⟩ := NB.out b' e'
      exact blk_ne hc hc' (by decide)) (blk_ne hc HB1.out (by decide))
  have hsz := hgr.size
  rw [World.size_alloc] at hsz
  have hgW : g ≤ W.heap.size := by omega
  have BX := (((hB.out.alloc hgW (.cells #[.slice B m.length cb] 26)).grown hgr (by rw [World.size_alloc]; omega) (fun b e => by have := (NB.out b e).1; omega)).setCell (p := ⟨bq, 0, none⟩) hgq (.slice (some ⟨g', 0, none⟩) (L.length + 1) c'))
  have B5 := B1'
  have OX : OwnL (w5.setCell ⟨bq, 0, none⟩ (.slice (some ⟨g', 0, none⟩) (L.length + 1) c')) lb (.slice (some ⟨g', 0, none⟩) (L.length + 1) c') (L ++ [⟨B, m, cb⟩]) := hown.of (fun b e => by
      obtain ⟨_, cur, hc⟩ := own_typed hown.1 e
      exact Below.heap_setCell _ _ _ b (fun e2 => blk_ne B5 hc (by decide) e2.symm)) (fun r hr hn b off e => by
      refine Below.heap_setCell _ _ _ b (fun e2 => ?_)
      obtain ⟨j, hj, ej⟩ := List.getElem_of_mem hr
      exact not_box (hown.2 r hr).1.1 hn B5 b off e e2)
  have BQ : Boxed (w5.setCell ⟨bq, 0, none⟩ (.slice (some ⟨g', 0, none⟩) (L.length + 1) c')) bq 37 (.slice (some ⟨g', 0, none⟩) (L.length + 1) c') := B1'.set _
  go_end0
  refine ⟨rfl, ⟨BX, _, _, BQ, OX, ?_, ?_⟩, ?_, ?_, RB⟩
  · rw [rowsL_snoc, E1.out, HMS.out]; rfl
  · intro r hr
    rcases List.mem_append.1 hr with hr | hr
    · exact F1.out r hr
    · rw [List.mem_singleton.1 hr]
      exact fun hn b off e => .inr (by have := (RF.out.2 hn b off e).1; omega)
  · simp; omega
  · intro k cc h1 h2 h3
    refine KEEP2 k (by omega) (fun b e => ?_) (by omega)
    obtain ⟨_, cur, hc⟩ := NB.out b e
    rcases h3 with h3 | h3
    · exact blk_ne h3 hc (by decide)
    · exact blk_ne h3 hc (by decide)

def trR (n : NetV) (ws : List Int) (steps : Int) (s0 : Nat) : List (List Int) × Int :=
  if argE n ws steps ≠ 0 then ([], argE n ws steps) else match simR n ws steps.toNat (initialN n) s0 with
    | some r => (initialN n :: marks r.1, 0)
    | none => ([], 3)
theorem trR_err {n : NetV} {ws : List Int} {steps : Int} (s0 : Nat) (h : argE n ws steps ≠ 0) : trR n ws steps s0 = ([], argE n ws steps) := if_pos h
theorem trR_some {n : NetV} {ws : List Int} {steps : Int} {s0 : Nat} {r : Hist × Nat} (h : argE n ws steps = 0) (h2 : simR n ws steps.toNat (initialN n) s0 = some r) : trR n ws steps s0 = (initialN n :: marks r.1, 0) := by
  unfold trR
  rw [if_neg (by simpa using h), h2]
theorem trR_none {n : NetV} {ws : List Int} {steps : Int} {s0 : Nat} (h : argE n ws steps = 0) (h2 : simR n ws steps.toNat (initialN n) s0 = none) : trR n ws steps s0 = ([], 3) := by
  unfold trR
  rw [if_neg (by simpa using h), h2]
def TPost (g : Nat) (w : World) (r : List (List Int) × Int) (e : Ending) (w' : World) : Prop :=
  ∃ A c L, e = .returned (.tuple #[.slice A (List.length L) c, .int .i64 r.2]) ∧ rowsL L = r.1 ∧ ReadsL w' A L ∧ Below g w w'

set_option maxHeartbeats 4000000 in
set_option maxRecDepth 100000 in
theorem strace_any (n : NetV) (A : Option Addr) (ws : List Int) (c s0 : Nat) (steps : Int) (w : World) (hr : NetR w n) (hw : ReadsV w A ws) (hl : ws.length ≤ 9223372036854775806) :
    Calls Try.prog 11 #[.agg #[.string n.nm, .slice n.PA n.ps.length n.pc, .slice n.TA n.ts.length n.tc], .slice A ws.length c, .int .u64 (s0 : Nat), .int .i64 steps] w (TPost w.heap.size w (trR n ws steps s0)) := by
  have CK : Hid (∀ W, Below w.heap.size w W → Calls Try.prog 23 #[.agg #[.string n.nm, .slice n.PA n.ps.length n.pc, .slice n.TA n.ts.length n.tc], .slice A ws.length c, .int .i64 steps, .int .i64 1] W (VPost W.heap.size W (.int .i64 (argE n ws steps)))) := fun W hW => by
    have := scheck_any n A ws c steps 1 W (hr.below hW (Nat.le_refl _)) (hw.below hW (Nat.le_refl _)) hl
    rw [runE_one] at this
    exact this
  have B0 : Hid (Below w.heap.size w (w.alloc (.cells #[.string n.nm, .slice n.PA n.ps.length n.pc, .slice n.TA n.ts.length n.tc] 25))) := (Below.refl _ _).alloc (Nat.le_refl _) _
  have q0 : (w.alloc (.cells #[.string n.nm, .slice n.PA n.ps.length n.pc, .slice n.TA n.ts.length n.tc] 25)).cell? ⟨w.heap.size, 0, none⟩ = some (.string n.nm) := by simp
  have q1 : (w.alloc (.cells #[.string n.nm, .slice n.PA n.ps.length n.pc, .slice n.TA n.ts.length n.tc] 25)).cell? ⟨w.heap.size, 1, none⟩ = some (.slice n.PA n.ps.length n.pc) := by simp
  have q2 : (w.alloc (.cells #[.string n.nm, .slice n.PA n.ps.length n.pc, .slice n.TA n.ts.length n.tc] 25)).cell? ⟨w.heap.size, 2, none⟩ = some (.slice n.TA n.ts.length n.tc) := by simp
  by_cases hE : argE n ws steps = 0
  rotate_left
  · rw [trR_err s0 hE]
    have hz : (argE n ws steps != 0) = true := by simpa using hE
    generalize argE n ws steps = E at *
    clear hr hw hE
    go_enter Try.func11, Try.ntmps11
    go_wp2_with fail
    refine (CK.out _ B0.out).mono ?_
    rintro e w1 ⟨rfl, K⟩
    have D1 := Lib.hid (B0.out.trans (K.mono B0.out.size))
    clear K B0 CK
    go_wp2
    go_ret2
    exact ⟨none, 0, [], rfl, rfl, ReadsL.nil _ _, D1.out⟩
  · rw [hE] at CK
    have htl := (okN_parts (argE_ok hE).1).2.2.1
    have hI24 : (initialN n).length ≤ 24 := good_len (goodN_init (argE_ok hE).1)
    have CI : Hid (∀ W, Below w.heap.size w W → Calls Try.prog 24 #[.agg #[.string n.nm, .slice n.PA n.ps.length n.pc, .slice n.TA n.ts.length n.tc]] W (IsPost W.heap.size W (initialN n))) := fun W h => initialN_any n W (hr.below h (Nat.le_refl _))
    have CP : Hid (∀ bq lb m0 L v W, w.heap.size ≤ bq → w.heap.size ≤ lb → lb ≤ W.heap.size → Boxed W bq 37 v → OwnL W lb v L → rowsL L = [m0] → Below w.heap.size w W → Calls Try.prog 25 #[.agg #[.string n.nm, .slice n.PA n.ps.length n.pc, .slice n.TA n.ts.length n.tc], .slice A ws.length c, .int .u64 (s0 : Nat), .int .i64 steps, .func (.func 27) #[] #[.pointer (some ⟨bq, 0, none⟩)]] W (PPost w.heap.size w W.heap.size (InvT w.heap.size w W.heap.size bq lb m0) (simR n ws steps.toNat (initialN n) s0))) := fun bq lb m0 L v W h1 h2 h2' h3 h4 h5 hB =>
      perform_trace n A ws c s0 steps bq w.heap.size w W rfl hr hw hE hB _
        (fun s W' hb => ⟨hB.trans (hb.mono hB.size), v, L, boxed_of h3 (hb.block _ h3.lt), h4.below hb (Nat.le_refl _), h5, fun r hm hn b off e => .inl (block_reads (h4.2 r hm).1.1 hn e)⟩)
        (fun s h W' hI' => hI'.1)
        (fun s h W' W'' hI' hb => hI'.keep hI'.1.size hb)
        (fun s h W' W'' P hI' hP hPs hrow hg => hI'.grow h3.lt h1 hP hPs ⟨_, hrow⟩ hg)
        (fun s h t m B cb W1 W' hI' hs hz hb hF hm _ hh => vis_trace w.heap.size w W.heap.size bq lb m0 s h n t m B cb W1 W' hI' hs hz h1 h2 h2' h3.lt hb hF hm hh)
    have RS : Hid (∀ r, simR n ws steps.toNat (initialN n) s0 = some r → trR n ws steps s0 = (initialN n :: marks r.1, 0)) := fun r h => trR_some hE h
    have RN : Hid (simR n ws steps.toNat (initialN n) s0 = none → trR n ws steps s0 = ([], 3)) := fun h => trR_none hE h
    clear hr hw hE htl
    generalize simR n ws steps.toNat (initialN n) s0 = RR at *
    generalize trR n ws steps s0 = X at *
    go_enter Try.func11, Try.ntmps11
    go_wp2_with fail
    refine (CK.out _ B0.out).mono ?_
    rintro e w1 ⟨rfl, K⟩
    have q0 := keepc q0 K
    have q1 := keepc q1 K
    have q2 := keepc q2 K
    have D1 := Lib.hid (B0.out.trans (K.mono B0.out.size))
    clear K B0 CK
    go_wp2_with fail
    refine (CI.out _ D1.out).mono ?_
    rintro e w3 ⟨B, cb, rfl, RB, K⟩
    have D3 := Lib.hid (D1.out.trans (K.mono D1.out.size))
    have s3 := D3.out.size
    have q0 := cellA (cellA (keepc q0 K) (.cells #[.slice B (initialN n).length cb] 26)) (.cells #[.slice (some ⟨w3.heap.size, 0, none⟩) 1 1] 37)
    have q1 := cellA (cellA (keepc q1 K) (.cells #[.slice B (initialN n).length cb] 26)) (.cells #[.slice (some ⟨w3.heap.size, 0, none⟩) 1 1] 37)
    have q2 := cellA (cellA (keepc q2 K) (.cells #[.slice B (initialN n).length cb] 26)) (.cells #[.slice (some ⟨w3.heap.size, 0, none⟩) 1 1] 37)
    have NB := Boxed.new (w3.alloc (.cells #[.slice B (initialN n).length cb] 26)) 37 (.slice (some ⟨w3.heap.size, 0, none⟩) 1 1)
    rw [World.size_alloc] at NB
    have LA : Below w3.heap.size w3 (w3.alloc (.cells #[.slice B (initialN n).length cb] 26)) := (Below.refl _ _).alloc (Nat.le_refl _) _
    have OL : OwnL (w3.alloc (.cells #[.slice B (initialN n).length cb] 26)) w3.heap.size (.slice (some ⟨w3.heap.size, 0, none⟩) 1 1) [⟨B, initialN n, cb⟩] := by
      refine ⟨⟨rfl, .inr ⟨w3.heap.size, 1, #[.slice B (initialN n).length cb], rfl, Nat.le_refl _, World.alloc_heap_new _ _, Nat.le_refl _, by unfold maxLen; decide, rfl, rfl⟩⟩, fun r hm => ?_⟩
      rw [List.mem_singleton.1 hm]
      exact FarR.old (B := w3.heap.size) ⟨RB, by show (initialN n).length ≤ 1000; omega⟩ LA (Nat.le_refl _) (Nat.le_refl _)
    have OL2 := OL.alloc (.cells #[.slice (some ⟨w3.heap.size, 0, none⟩) 1 1] 37)
    have D5 := ((D3.out.alloc s3 (.cells #[.slice B (initialN n).length cb] 26)).alloc (by rw [World.size_alloc]; omega) (.cells #[.slice (some ⟨w3.heap.size, 0, none⟩) 1 1] 37))
    have C := Lib.hid (CP.out _ w3.heap.size _ _ _ _ (by omega) s3 (by rw [World.size_alloc, World.size_alloc]; omega) NB OL2 rfl D5)
    clear CP K D1 NB OL OL2 RB CI D5 LA
    generalize initialN n = m0 at *
    go_wp2_with fail
    refine C.out.mono ?_
    rintro e w5 (⟨s, r, hs, hR, rfl, hI⟩ | ⟨hR, rfl, hb⟩)
    · obtain ⟨hB, v, L, b1, o1, e1, _⟩ := hI
      obtain ⟨A1, c1, ev, R1⟩ := o1.reads
      subst ev
      have ex := RS.out r hR
      subst ex
      have p1 := b1.cell
      have R1 := Lib.hid R1
      have HB := Lib.hid hB
      have E1 := Lib.hid e1
      clear b1 o1 hB C RS RN hR q0 q1 q2 D3 e1
      go_wp2
      go_ret2
      exact ⟨A1, c1, L, rfl, E1.out, R1.out, HB.out⟩
    · have ex := RN.out hR
      subst ex
      have HB := Lib.hid hb
      clear C RS RN hR q0 q1 q2 D3 hb
      go_wp2
      go_ret2
      exact ⟨none, 0, [], rfl, rfl, ReadsL.nil _ _, HB.out⟩
end Go.Proofs.Ytpfkkjgklhcejaa
