/- Runs of a net by weights: the visitor of Run. -/
import Derived.Test.YtpfkkjgklhcejaaSC
import Derived.RangeFuncBox
namespace Go.Proofs.Ytpfkkjgklhcejaa
open Go.RowKit

def FarZ (z s : Nat) (A : Option Addr) (L : List Int) : Prop := L ≠ [] → ∀ b off, A = some ⟨b, off, none⟩ → b < z ∨ s ≤ b
theorem reads_of {W W' : World} {A : Option Addr} {L : List Int} (h : ReadsV W A L) (hk : L ≠ [] → ∀ b off, A = some ⟨b, off, none⟩ → W'.heap[b]? = W.heap[b]?) : ReadsV W' A L := fun j hj => by
  obtain ⟨b, off, e, h1, h2⟩ := h j hj
  have hb := hk (fun c => by rw [c] at hj; simp at hj) b off e
  refine ⟨b, off, e, ?_, (World.cell?_of_block (a := ⟨b, off + j, none⟩) hb).trans h2⟩
  rw [Array.getElem?_eq_getElem h1] at hb
  exact (Array.getElem?_eq_some_iff.1 hb).1
theorem boxed_of {W W' : World} {b : Nat} {t : TypeId} {v : Value} (h : Boxed W b t v) (hk : W'.heap[b]? = W.heap[b]?) : Boxed W' b t v := hk.trans h
theorem own_of {W W' : World} {s : Nat} {v : Value} {L : List Int} (h : OwnI W s v L) (hk : ∀ b, v.ownBlock = some b → W'.heap[b]? = W.heap[b]?) : OwnI W' s v L := by
  refine ⟨h.1, ?_⟩
  rcases h.2 with h0 | ⟨g, cap, cur, h1, h2, h3, h4⟩
  · exact .inl h0
  · exact .inr ⟨g, cap, cur, h1, h2, by rw [hk g (by rw [h1]; rfl)]; exact h3, h4⟩
theorem own_ge {W : World} {s b : Nat} {v : Value} {L : List Int} (h : OwnI W s v L) (e : v.ownBlock = some b) : s ≤ b ∧ b < W.heap.size := by
  rcases h.2 with ⟨h0, _⟩ | ⟨g, cap, cur, h1, h2, h3, _⟩
  · rw [h0] at e; cases e
  · rw [h1] at e
    have : g = b := by simpa [Value.ownBlock] using e
    subst this
    exact ⟨h2, (Array.getElem?_eq_some_iff.1 h3).1⟩
theorem not_box {W : World} {A : Option Addr} {L : List Int} {b' : Nat} {t : TypeId} {C : Option Addr} {k c : Nat} (h : ReadsV W A L) (hn : L ≠ []) (hb : Boxed W b' t (.slice C k c)) (b off : Nat) (e : A = some ⟨b, off, none⟩) : b ≠ b' := by
  intro hbb
  subst hbb
  obtain ⟨b2, off2, e2, _, h2⟩ := h 0 (List.length_pos_iff.2 hn)
  rw [e] at e2
  cases e2
  simp only [World.cell?, show W.heap[b]? = _ from hb] at h2
  cases off with
  | zero => simp at h2
  | succ o => simp at h2
theorem wpList_int_g {ops : Array Oper} {rest : List Oper} {o : Oper} {a : Act} {w : World} {Q : Exit → Act → World → Prop} (hgd : o.guard = none) (s x : Operand)
    (ho : o.op = .call { callee := .builtin .append, args := #[s, x], argTypes := #[26, 26] })
    (base : Nat) (v : Value) (zs : List Int) (z : Int) (hs : a.eval s = v) (hO : OwnI w base v zs) (g : Nat) (hx : a.eval x = .slice (some ⟨g, 0, none⟩) 1 1)
    (hc : w.cell? ⟨g, 0, none⟩ = some (.int .i64 z)) (hl : zs.length ≤ 17592186043904) (hbase : base ≤ w.heap.size)
    (h : ∀ g' c' w', OwnI w' base (.slice (some ⟨g', 0, none⟩) (zs.length + 1) c') (zs ++ [z]) → w.grownBy w' v.ownBlock → wpList Try.prog ops Q rest (a.put o.dst (.slice (some ⟨g', 0, none⟩) (zs.length + 1) c')) w') : wpList Try.prog ops Q (o :: rest) a w := by
  obtain ⟨i, hi, hz, h1, h2⟩ := info_parts infoI
  refine wpList_append_own _ hgd s x 26 ho base 3 i (.int .i64 0) 1 8 Try.underlying26 hi hz h1 h2 rfl (by decide) v zs.length (zs.map (Value.int .i64)) hs hO ⟨g, 0, none⟩ 1 1 [.int .i64 z] hx rfl ?_ ?_ (by unfold maxLen; omega) (by omega) hbase ?_
  · intro j u hj
    cases j with
    | zero => simp at hj; subst hj; simpa [Addr.add] using hc
    | succ j => simp at hj
  · intro u hu
    simp at hu
    subst hu
    simp [Value.oneCell']
  · intro v' w' hown hgrow _
    obtain ⟨g', c', rfl⟩ := ownsRow_succ hown
    refine h g' c' w' ?_ hgrow
    unfold OwnI
    rw [List.map_append, List.length_append]
    exact hown
/-- what the visitor of Run keeps -/
def InvR (g : Nat) (w0 : World) (z bq bl : Nat) (m0 : List Int) (s : Nat) (h : Hist) (W : World) : Prop :=
  Below g w0 W ∧ ∃ v A c, Boxed W bq 26 v ∧ OwnI W s v (seqT h) ∧ Boxed W bl 26 (.slice A (lastM m0 h).length c) ∧ ReadsV W A (lastM m0 h) ∧ FarZ z s A (lastM m0 h)
theorem InvR.keep {g : Nat} {w0 : World} {z bq bl : Nat} {m0 : List Int} {s : Nat} {h : Hist} {W W' : World} (H : InvR g w0 z bq bl m0 s h W) (hg : g ≤ W.heap.size) (hb : Below W.heap.size W W') : InvR g w0 z bq bl m0 s h W' := by
  obtain ⟨h1, v, A, c, b1, o1, b2, r1, f1⟩ := H
  exact ⟨h1.trans (hb.mono hg), v, A, c, boxed_of b1 (hb.block _ b1.lt), own_of o1 (fun b e => hb.block _ (own_ge o1 e).2), boxed_of b2 (hb.block _ b2.lt), r1.below hb (Nat.le_refl _), f1⟩
theorem InvR.grow {g : Nat} {w0 : World} {z bq bl : Nat} {m0 : List Int} {s P : Nat} {h : Hist} {W W' : World} (H : InvR g w0 z bq bl m0 s h W) (hq : bq < z) (hl : bl < z) (hgq : g ≤ bq) (hz : z ≤ P) (hP : P < s) (hg : W.grownBy W' (some P)) : InvR g w0 z bq bl m0 s h W' := by
  obtain ⟨h1, v, A, c, b1, o1, b2, r1, f1⟩ := H
  have K : ∀ k, k < W.heap.size → k ≠ P → W'.heap[k]? = W.heap[k]? := fun k hk hn => hg.block k hk (by simpa using hn)
  refine ⟨⟨hg.os.trans h1.os, hg.tape.trans h1.tape, hg.output.trans h1.output, Nat.le_trans h1.size hg.size, fun k hk => ?_⟩, v, A, c, boxed_of b1 (K _ b1.lt (by omega)), own_of o1 (fun b e => K _ (own_ge o1 e).2 (by have := (own_ge o1 e).1; omega)), boxed_of b2 (K _ b2.lt (by omega)), reads_of r1 (fun hn b off e => K _ (block_reads r1 hn e) (by rcases f1 hn b off e with h2 | h2 <;> omega)), f1⟩
  exact (K k (by have := b1.lt; omega) (by omega)).trans (h1.block k hk)

set_option maxHeartbeats 2000000 in
theorem vis_run (g : Nat) (w0 : World) (z bq bl : Nat) (m0 : List Int) (s : Nat) (h : Hist) (t : Nat) (m : List Int) (B : Option Addr) (cb : Nat) (W1 W : World) (hI : InvR g w0 z bq bl m0 s h W1) (hs : s ≤ W1.heap.size) (hz : z ≤ s) (hgq : g ≤ bq) (hgl : g ≤ bl) (hq : bq < z) (hl : bl < z) (hne : bq ≠ bl)
    (hb : Below W1.heap.size W1 W) (hF : FreshG W W1.heap.size B m) (hh : h.length < 10000) :
    Calls Try.prog 26 #[.int .i64 (t : Nat), .slice B m.length cb, .pointer (some ⟨bq, 0, none⟩), .pointer (some ⟨bl, 0, none⟩)] W fun e w' => e = .returned (.tuple #[]) ∧ InvR g w0 z bq bl m0 s (h ++ [(t, m)]) w' ∧ W.heap.size ≤ w'.heap.size ∧ (∀ k, z ≤ k → k < s → w'.heap[k]? = W.heap[k]?) ∧ ReadsV w' B m := by
  obtain ⟨hB0, v, A, c, b1, o1, b2, r1, f1⟩ := hI
  obtain ⟨Av, cv, e1, _⟩ := ReadsV.own o1
  subst e1
  have hW := hb.size
  have hB := Lib.hid (hB0.trans (hb.mono (by omega : g ≤ W1.heap.size)))
  have B1 := boxed_of b1 (hb.block _ b1.lt)
  have B2 := boxed_of b2 (hb.block _ b2.lt)
  have O1 := Lib.hid (own_of o1 (fun b e => hb.block _ (own_ge o1 e).2))
  have NB : Hid (∀ b, (Value.slice Av (seqT h).length cv).ownBlock = some b → s ≤ b ∧ b < W1.heap.size) := fun b e => own_ge o1 e
  have HSN : Hid (seqT (h ++ [(t, m)]) = seqT h ++ [(t : Int)]) := seqT_snoc h (t, m)
  have HLN : Hid (lastM m0 (h ++ [(t, m)]) = m) := lastM_snoc m0 h (t, m)
  have hlen := seqT_len h
  have hl17 : (seqT h).length ≤ 17592186043904 := by omega
  have c1 := B1.cell
  have f1' := B1.frozen
  have hb1 := B1.lt
  have hb2 := B2.lt
  have RF := Lib.hid hF
  have HB1 := Lib.hid B1
  have HB2 := Lib.hid B2
  clear b1 b2 o1 r1 f1 hB0 hF B1 B2 hlen
  generalize seqT h = q at *

  generalize (lastM m0 h).length = ll at *
  have KP : Hid (∀ w5, (W.alloc (.cells #[.int .i64 (t : Int)] 3)).grownBy w5 (Value.slice Av q.length cv).ownBlock → (∀ k, k < W.heap.size → (∀ b, (Value.slice Av q.length cv).ownBlock = some b → k ≠ b) → w5.heap[k]? = W.heap[k]?) ∧ w5.cell? ⟨bq, 0, none⟩ = some (.slice Av q.length cv) ∧ w5.frozen? ⟨bq, 0, none⟩ = false ∧ (∀ v, (w5.setCell ⟨bq, 0, none⟩ v).cell? ⟨bl, 0, none⟩ = some (.slice A ll c)) ∧ (∀ v, (w5.setCell ⟨bq, 0, none⟩ v).frozen? ⟨bl, 0, none⟩ = false)) := fun w5 hgr => by
    have KEEP : ∀ k, k < W.heap.size → (∀ b, (Value.slice Av q.length cv).ownBlock = some b → k ≠ b) → w5.heap[k]? = W.heap[k]? := fun k hk hn => (hgr.block k (by rw [World.size_alloc]; omega) (fun e => hn k e.symm rfl)).trans (Deep.blk_alloc_lt W _ _ hk)
    have KL : ∀ v, (w5.setCell ⟨bq, 0, none⟩ v).heap[bl]? = W.heap[bl]? := fun v => (Below.heap_setCell w5 ⟨bq, 0, none⟩ v bl (fun e => hne e.symm)).trans (KEEP bl hb2 (fun b e => by have := (NB.out b e).1; omega))
    have KQ := KEEP bq hb1 (fun b e => by have := (NB.out b e).1; omega)
    exact ⟨KEEP, (World.cell?_of_block (a := ⟨bq, 0, none⟩) KQ).trans c1, (World.frozen?_of_block (a := ⟨bq, 0, none⟩) KQ).trans f1', fun v => (World.cell?_of_block (a := ⟨bl, 0, none⟩) (KL v)).trans HB2.out.cell, fun v => (World.frozen?_of_block (a := ⟨bl, 0, none⟩) (KL v)).trans HB2.out.frozen⟩
  go_enter Try.func26, Try.ntmps26
  go_wp2_with (at_builtin; refine wpList_int_g rfl (.tmp 6) (.tmp 8) rfl s _ q (t : Int) rfl (O1.out.alloc _) _ rfl (cell_new1 _ _ _) hl17 (by rw [World.size_alloc]; omega) ?_; intro g' c' w5 hown hgr; obtain ⟨KEEP, c5, f5, cl5, fl5⟩ := KP.out _ hgr)
  have KEEP2 : ∀ k, k < W.heap.size → (∀ b, (Value.slice Av q.length cv).ownBlock = some b → k ≠ b) → k ≠ bq → k ≠ bl → ((w5.setCell ⟨bq, 0, none⟩ (.slice (some ⟨g', 0, none⟩) (q.length + 1) c')).setCell ⟨bl, 0, none⟩ (.slice B m.length cb)).heap[k]? = W.heap[k]? := fun k hk hn h1 h2 =>
    (Below.heap_setCell _ _ _ k h2).trans ((Below.heap_setCell _ _ _ k h1).trans (KEEP k hk hn))
  have B1' : Boxed w5 bq 26 _ := boxed_of HB1.out (KEEP bq hb1 (fun b e => by have := (NB.out b e).1; omega))
  have B2' : Boxed w5 bl 26 _ := boxed_of HB2.out (KEEP bl hb2 (fun b e => by have := (NB.out b e).1; omega))
  have RB : ReadsV ((w5.setCell ⟨bq, 0, none⟩ (.slice (some ⟨g', 0, none⟩) (q.length + 1) c')).setCell ⟨bl, 0, none⟩ (.slice B m.length cb)) B m := reads_of RF.out.1 fun hn b off e => by
    have h1 := (RF.out.2 hn b off e).1
    have h2 := block_reads RF.out.1 hn e
    exact KEEP2 b h2 (fun b' e' => by have := (NB.out b' e').2; omega) (by omega) (by omega)
  have hsz := hgr.size
  rw [World.size_alloc] at hsz
  have hgW : g ≤ W.heap.size := by omega
  have BX := ((((hB.out.alloc hgW (.cells #[.int .i64 (t : Int)] 3)).grown hgr (by rw [World.size_alloc]; omega) (fun b e => by have := (NB.out b e).1; omega)).setCell (p := ⟨bq, 0, none⟩) hgq (.slice (some ⟨g', 0, none⟩) (q.length + 1) c')).setCell (p := ⟨bl, 0, none⟩) hgl (.slice B m.length cb))
  have OX : OwnI ((w5.setCell ⟨bq, 0, none⟩ (.slice (some ⟨g', 0, none⟩) (q.length + 1) c')).setCell ⟨bl, 0, none⟩ (.slice B m.length cb)) s (.slice (some ⟨g', 0, none⟩) (q.length + 1) c') (q ++ [(t : Int)]) := own_of hown fun b e => by
    have := (own_ge hown e).1
    exact (Below.heap_setCell _ _ _ b (show b ≠ bl by omega)).trans (Below.heap_setCell _ _ _ b (show b ≠ bq by omega))
  have BQ : Boxed ((w5.setCell ⟨bq, 0, none⟩ (.slice (some ⟨g', 0, none⟩) (q.length + 1) c')).setCell ⟨bl, 0, none⟩ (.slice B m.length cb)) bq 26 (.slice (some ⟨g', 0, none⟩) (q.length + 1) c') := boxed_of (B1'.set _) (Below.heap_setCell _ _ _ bq hne)
  have BL : Boxed ((w5.setCell ⟨bq, 0, none⟩ (.slice (some ⟨g', 0, none⟩) (q.length + 1) c')).setCell ⟨bl, 0, none⟩ (.slice B m.length cb)) bl 26 (.slice B m.length cb) := (boxed_of B2' (Below.heap_setCell _ ⟨bq, 0, none⟩ _ bl (fun e => hne e.symm))).set _
  go_end0
  refine ⟨rfl, ⟨BX, _, B, cb, BQ, ?_, ?_, ?_, ?_⟩, ?_, ?_, RB⟩
  · rw [HSN.out]; exact OX
  · rw [HLN.out]; exact BL
  · rw [HLN.out]; exact RB
  · rw [HLN.out]
    exact fun hn b off e => .inr (by have := (RF.out.2 hn b off e).1; omega)
  · simp; omega
  · intro k h1 h2
    exact KEEP2 k (by omega) (fun b e => by have := (NB.out b e).1; omega) (by omega) (by omega)
end Go.Proofs.Ytpfkkjgklhcejaa
