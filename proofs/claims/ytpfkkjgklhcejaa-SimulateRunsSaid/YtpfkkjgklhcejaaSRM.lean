/- Runs of a net by weights: what the reference keeps. -/
import Derived.Test.YtpfkkjgklhcejaaST
import Derived.Deep.AppendLies
namespace Go.Proofs.Ytpfkkjgklhcejaa
open Go.RowKit

theorem blk_set {w : World} {b : Nat} {cs : Array Value} {t : TypeId} {fz : Nat × Nat} (h : w.heap[b]? = some (.cells cs t fz)) (i : Nat) (v : Value) : (w.setCell ⟨b, i, none⟩ v).heap[b]? = some (.cells (cs.setIfInBounds i v) t fz) := by
  simp [World.setCell, Array.getElem?_modify, h]
theorem cell_blk {w : World} {b : Nat} {cs : Array Value} {t : TypeId} {fz : Nat × Nat} (h : w.heap[b]? = some (.cells cs t fz)) (i : Nat) : w.cell? ⟨b, i, none⟩ = cs[i]? := by
  simp [World.cell?, h]
theorem frozen_blk {w : World} {b : Nat} {cs : Array Value} {t : TypeId} (h : w.heap[b]? = some (.cells cs t (0, 0))) (o : Nat) : w.frozen? ⟨b, o, none⟩ = false := by
  simp [World.frozen?, h]
theorem wpList_int_l {ops : Array Oper} {rest : List Oper} {o : Oper} {a : Act} {w : World} {Q : Exit → Act → World → Prop} (hgd : o.guard = none) (s x : Operand)
    (ho : o.op = .call { callee := .builtin .append, args := #[s, x], argTypes := #[26, 26] })
    (base : Nat) (v : Value) (zs : List Int) (z : Int) (hs : a.eval s = v) (hO : OwnI w base v zs) (g : Nat) (hx : a.eval x = .slice (some ⟨g, 0, none⟩) 1 1)
    (hc : w.cell? ⟨g, 0, none⟩ = some (.int .i64 z)) (hl : zs.length ≤ 17592186043904) (hbase : base ≤ w.heap.size)
    (h : ∀ g' c' w', OwnI w' base (.slice (some ⟨g', 0, none⟩) (zs.length + 1) c') (zs ++ [z]) → w.grownBy w' v.ownBlock → (v.ownBlock = some g' ∨ g' = w.heap.size) → wpList Try.prog ops Q rest (a.put o.dst (.slice (some ⟨g', 0, none⟩) (zs.length + 1) c')) w') : wpList Try.prog ops Q (o :: rest) a w := by
  obtain ⟨i, hi, hz, h1, h2⟩ := info_parts infoI
  refine wpList_append_lies _ hgd s x 26 ho base 3 i (.int .i64 0) 1 8 Try.underlying26 hi hz h1 h2 rfl (by decide) v zs.length (zs.map (Value.int .i64)) hs hO ⟨g, 0, none⟩ 1 1 [.int .i64 z] hx rfl ?_ ?_ (by decide) (by unfold maxLen; omega) (by omega) hbase _ rfl ?_
  · intro j u hj
    cases j with
    | zero => simp at hj; subst hj; simpa [Addr.add] using hc
    | succ j => simp at hj
  · intro u hu
    simp at hu
    subst hu
    simp [Value.oneCell']
  · intro g' c' w' hown hgrow hlies _
    refine h g' c' w' ?_ hgrow hlies
    unfold OwnI
    rw [List.map_append, List.length_append]
    exact hown
def Apart (v : Value) (A : Option Addr) (L : List Int) : Prop := L ≠ [] → ∀ b off, A = some ⟨b, off, none⟩ → v.ownBlock ≠ some b
def resObj (v1 v2 : Value) (st : Nat) : Obj := .cells #[v1, v2, .int .u64 (st : Nat)] 42 (0, 0)
structure RI (n : NetV) (ws : List Int) (R : Option (Hist × Nat)) (g : Nat) (w0 : World) (z lb ob N : Nat) (m0 : List Int) (i : Nat) (h : Hist) (m : List Int) (st : Nat) (B : Option Addr) (v1 v2 : Value) (L : List Row) (wr : World) : Prop where
  sim : SimAt n ws R h (N - i) m st
  len : h.length = i
  good : goodN n m = true
  rd : ReadsV wr B m
  apm : Apart v1 B m
  blk : wr.heap[z]? = some (netObj n)
  res : wr.heap[z + 1]? = some (resObj (.slice none 0 0) (.slice none 0 0) 0)
  out : wr.heap[ob]? = some (resObj v1 v2 st)
  o1 : OwnI wr lb v1 (seqT h)
  o2 : OwnL wr lb v2 L
  rows : rowsL L = m0 :: marks h
  apl : ∀ r ∈ L, Apart v1 r.A r.zs
  low : Below g w0 wr
variable {n : NetV} {ws : List Int} {R : Option (Hist × Nat)} {g : Nat} {w0 : World} {z lb ob N : Nat} {m0 : List Int} {i : Nat} {h : Hist} {m : List Int} {st : Nat} {B : Option Addr} {v1 v2 : Value} {L : List Row} {wr w' : World}
theorem RI.below (H : RI n ws R g w0 z lb ob N m0 i h m st B v1 v2 L wr) (hg : g ≤ wr.heap.size) (hb : Below wr.heap.size wr w') : RI n ws R g w0 z lb ob N m0 i h m st B v1 v2 L w' :=
  ⟨H.sim, H.len, H.good, H.rd.below hb (Nat.le_refl _), H.apm, (hb.block _ (Array.getElem?_eq_some_iff.1 H.blk).1).trans H.blk, (hb.block _ (Array.getElem?_eq_some_iff.1 H.res).1).trans H.res, (hb.block _ (Array.getElem?_eq_some_iff.1 H.out).1).trans H.out,
    own_of H.o1 (fun b e => hb.block _ (own_ge H.o1 e).2), H.o2.below hb (Nat.le_refl _), H.rows, H.apl, H.low.trans (hb.mono hg)⟩
theorem RI.q0 (H : RI n ws R g w0 z lb ob N m0 i h m st B v1 v2 L wr) : wr.cell? ⟨z, 0, none⟩ = some (.string n.nm) := cell_blk H.blk 0
theorem RI.q1 (H : RI n ws R g w0 z lb ob N m0 i h m st B v1 v2 L wr) : wr.cell? ⟨z, 1, none⟩ = some (.slice n.PA n.ps.length n.pc) := cell_blk H.blk 1
theorem RI.q2 (H : RI n ws R g w0 z lb ob N m0 i h m st B v1 v2 L wr) : wr.cell? ⟨z, 2, none⟩ = some (.slice n.TA n.ts.length n.tc) := cell_blk H.blk 2
/-- behind the first append -/
theorem ri_one (H : RI n ws R g w0 z lb ob N m0 i h m st B v1 v2 L wr) (st2 : Nat) (t : Int) {w5 : World} (hgr : ((wr.setCell ⟨ob, 2, none⟩ (.int .u64 (st2 : Nat))).alloc (.cells #[.int .i64 t] 3)).grownBy w5 v1.ownBlock) :
    w5.heap[ob]? = some (resObj v1 v2 st2) ∧ wr.heap.size + 1 ≤ w5.heap.size ∧ ∀ k, k < wr.heap.size → k ≠ ob → (∀ b, v1.ownBlock = some b → k ≠ b) → w5.heap[k]? = wr.heap[k]? := by
  have hA : (wr.setCell ⟨ob, 2, none⟩ (.int .u64 (st2 : Nat))).heap[ob]? = some (resObj v1 v2 st2) := blk_set H.out 2 _
  have hs : (wr.setCell ⟨ob, 2, none⟩ (.int .u64 (st2 : Nat))).heap.size = wr.heap.size := by simp
  have hob : ob < wr.heap.size := (Array.getElem?_eq_some_iff.1 H.out).1
  refine ⟨?_, by have := hgr.size; rw [World.size_alloc, hs] at this; exact this, fun k hk hne hno => ?_⟩
  · refine (hgr.block ob (by rw [World.size_alloc, hs]; omega) (fun e => ?_)).trans ((Deep.blk_alloc_lt _ _ _ (by rw [hs]; exact hob)).trans hA)
    obtain ⟨_, cur, hc⟩ := own_typed H.o1 e.symm
    exact blk_ne H.out hc (by decide) rfl
  · refine (hgr.block k (by rw [World.size_alloc, hs]; omega) (fun e => hno k e.symm rfl)).trans ((Deep.blk_alloc_lt _ _ _ (by rw [hs]; exact hk)).trans (Below.heap_setCell _ _ _ k hne))
/-- behind the first store: what the second append wants -/
theorem ri_two (H : RI n ws R g w0 z lb ob N m0 i h m st B v1 v2 L wr) (hlo : lb < ob) {st2 : Nat} {t : Int} {w5 : World} (hgr : ((wr.setCell ⟨ob, 2, none⟩ (.int .u64 (st2 : Nat))).alloc (.cells #[.int .i64 t] 3)).grownBy w5 v1.ownBlock) {u1 : Value}
    {B6 : Option Addr} {m2 : List Int} {c6 p : Nat} (hF : FreshG wr p B6 m2) (hp : ∀ b, v1.ownBlock = some b → b < p) (hm : m2.length ≤ 24) :
    (w5.setCell ⟨ob, 0, none⟩ u1).heap[ob]? = some (resObj u1 v2 st2) ∧ OwnL (w5.setCell ⟨ob, 0, none⟩ u1) lb v2 L ∧ FarR (w5.setCell ⟨ob, 0, none⟩ u1) lb ⟨B6, m2, c6⟩ := by
  obtain ⟨h1, h2, h3⟩ := ri_one H st2 t hgr
  have key : ∀ k, k < wr.heap.size → k ≠ ob → (∀ b, v1.ownBlock = some b → k ≠ b) → (w5.setCell ⟨ob, 0, none⟩ u1).heap[k]? = wr.heap[k]? := fun k hk hne hno => (Below.heap_setCell _ _ _ k hne).trans (h3 k hk hne hno)
  refine ⟨blk_set h1 0 _, H.o2.of (fun b e => ?_) (fun r hr hn b off e => ?_), ?_⟩
  · obtain ⟨_, cur, hc⟩ := own_typed H.o2.1 e
    exact key b (Array.getElem?_eq_some_iff.1 hc).1 (blk_ne hc H.out (by decide)) (fun b' e' => by
      obtain ⟨_, cur', hc'⟩ := own_typed H.o1 e'
      exact blk_ne hc hc' (by decide))
  · refine key b (block_reads (H.o2.2 r hr).1.1 hn e) ?_ (fun b' e' e2 => H.apl r hr hn b off e (by rw [e2]; exact e'))
    rcases (H.o2.2 r hr).2 hn b off e with h4 | ⟨cs, hc⟩
    · omega
    · exact blk_ne hc H.out (by decide)
  · have hk : m2 ≠ [] → ∀ b off, B6 = some ⟨b, off, none⟩ → (w5.setCell ⟨ob, 0, none⟩ u1).heap[b]? = wr.heap[b]? := fun hn b off e => by
      obtain ⟨h4, cs, hc⟩ := hF.2 hn b off e
      exact key b (block_reads hF.1 hn e) (blk_ne hc H.out (by decide)) (fun b' e' => by have := hp b' e'; omega)
    exact ⟨⟨reads_of hF.1 hk, by show m2.length ≤ 1000; omega⟩, fun hn b off e => .inr (by
      obtain ⟨_, cs, hc⟩ := hF.2 hn b off e
      exact ⟨cs, by rw [hk hn b off e]; exact hc⟩)⟩
/-- behind both -/
theorem ri_next (H : RI n ws R g w0 z lb ob N m0 i h m st B v1 v2 L wr) (hlo : lb < ob) (hgl : g ≤ lb) (hzo : z + 1 < ob) {st2 : Nat} {t : Nat} {w5 : World} (hgr : ((wr.setCell ⟨ob, 2, none⟩ (.int .u64 (st2 : Nat))).alloc (.cells #[.int .i64 (t : Int)] 3)).grownBy w5 v1.ownBlock)
    {g' c' : Nat} (ho : OwnI w5 lb (.slice (some ⟨g', 0, none⟩) ((seqT h).length + 1) c') (seqT h ++ [(t : Int)])) (hl : v1.ownBlock = some g' ∨ g' = ((wr.setCell ⟨ob, 2, none⟩ (.int .u64 (st2 : Nat))).alloc (.cells #[.int .i64 (t : Int)] 3)).heap.size)
    {B6 : Option Addr} {m2 : List Int} {c6 p : Nat} (hF : FreshG wr p B6 m2) (hp : ∀ b, v1.ownBlock = some b → b < p) (hm : m2.length ≤ 24) (hgood : goodN n m2 = true) (hsim : SimAt n ws R (h ++ [(t, m2)]) (N - (i + 1)) m2 st2)
    {w8 : World} {u2 : Value} (hgr2 : ((w5.setCell ⟨ob, 0, none⟩ (.slice (some ⟨g', 0, none⟩) ((seqT h).length + 1) c')).alloc (.cells #[.slice B6 m2.length c6] 26)).grownBy w8 v2.ownBlock) (ho2 : OwnL w8 lb u2 (L ++ [⟨B6, m2, c6⟩])) :
    w8.heap[ob]? = some (resObj (.slice (some ⟨g', 0, none⟩) ((seqT h).length + 1) c') v2 st2) ∧ RI n ws R g w0 z lb ob N m0 (i + 1) (h ++ [(t, m2)]) m2 st2 B6 (.slice (some ⟨g', 0, none⟩) ((seqT h).length + 1) c') u2 (L ++ [⟨B6, m2, c6⟩]) (w8.setCell ⟨ob, 1, none⟩ u2) := by
  obtain ⟨h1, h2, h3⟩ := ri_one H st2 t hgr
  obtain ⟨k1, k2, k3⟩ := ri_two (u1 := .slice (some ⟨g', 0, none⟩) ((seqT h).length + 1) c') (c6 := c6) H hlo hgr hF hp hm
  have hob : ob < wr.heap.size := (Array.getElem?_eq_some_iff.1 H.out).1
  obtain ⟨wC, hwC⟩ : ∃ wC, wC = w5.setCell ⟨ob, 0, none⟩ (.slice (some ⟨g', 0, none⟩) ((seqT h).length + 1) c') := ⟨_, rfl⟩
  have hsC : wC.heap.size = w5.heap.size := by rw [hwC]; simp
  have hC : ∀ k, k ≠ ob → wC.heap[k]? = w5.heap[k]? := fun k hk => by rw [hwC]; exact Below.heap_setCell _ _ _ k hk
  have lowC : Below g w0 wC := by
    rw [hwC]
    exact (((H.low.setCell (p := ⟨ob, 2, none⟩) (by show g ≤ ob; omega) _).alloc (by simp; omega) _).grown hgr (by rw [World.size_alloc]; simp; omega) (fun b e => by have := (own_typed H.o1 e).1; omega)).setCell (p := ⟨ob, 0, none⟩) (by show g ≤ ob; omega) _
  rw [← hwC] at hgr2 k1 k2 k3
  have D : ∀ k, k < wC.heap.size → (∀ b, v2.ownBlock = some b → k ≠ b) → w8.heap[k]? = wC.heap[k]? := fun k hk hno => (hgr2.block k (by rw [World.size_alloc]; omega) (fun e => hno k e.symm rfl)).trans (Deep.blk_alloc_lt _ _ _ hk)
  have D2 : ∀ k cc t' fz, k < wC.heap.size → wC.heap[k]? = some (.cells cc t' fz) → t' ≠ 26 → w8.heap[k]? = wC.heap[k]? := fun k cc t' fz hk hc ht => D k hk fun b e => by
    obtain ⟨_, cur, hc'⟩ := own_typed k2.1 e
    exact blk_ne hc hc' ht
  have E : ∀ k, k ≠ ob → (w8.setCell ⟨ob, 1, none⟩ u2).heap[k]? = w8.heap[k]? := fun k hk => Below.heap_setCell _ _ _ k hk
  have hobC : ob < wC.heap.size := by omega
  have O8 : w8.heap[ob]? = some (resObj (.slice (some ⟨g', 0, none⟩) ((seqT h).length + 1) c') v2 st2) := (D2 ob _ _ _ hobC k1 (by decide)).trans k1
  have key : ∀ k cc t' fz, k < wr.heap.size → wr.heap[k]? = some (.cells cc t' fz) → t' ≠ 26 → k ≠ ob → (∀ b, v1.ownBlock = some b → k ≠ b) → (w8.setCell ⟨ob, 1, none⟩ u2).heap[k]? = wr.heap[k]? := fun k cc t' fz hk hc ht hne hno => by
    have e1 := (hC k hne).trans (h3 k hk hne hno)
    exact (E k hne).trans ((D2 k cc t' fz (by omega) (e1.trans hc) ht).trans e1)
  have no1 : ∀ {k : Nat} {cc : Array Value} {t' : TypeId} {fz : Nat × Nat}, wr.heap[k]? = some (.cells cc t' fz) → t' ≠ 3 → ∀ b, v1.ownBlock = some b → k ≠ b := fun hc ht b e => by
    obtain ⟨_, cur, hc'⟩ := own_typed H.o1 e
    exact blk_ne hc hc' ht
  have m2k : m2 ≠ [] → ∀ b off, B6 = some ⟨b, off, none⟩ → b < wr.heap.size ∧ (w8.setCell ⟨ob, 1, none⟩ u2).heap[b]? = wr.heap[b]? := fun hn b off e => by
    obtain ⟨h4, cs, hc⟩ := hF.2 hn b off e
    exact ⟨block_reads hF.1 hn e, key b cs _ _ (block_reads hF.1 hn e) hc (by decide) (blk_ne hc H.out (by decide)) (fun b' e' => by have := hp b' e'; omega)⟩
  have hg'6 : ∀ b, b < wr.heap.size → (∀ b', v1.ownBlock = some b' → b ≠ b') → g' ≠ b := fun b hb hno e => by
    rcases hl with hl | hl
    · exact hno g' hl e.symm
    · rw [World.size_alloc] at hl
      simp at hl
      omega
  have ap2 : Apart (.slice (some ⟨g', 0, none⟩) ((seqT h).length + 1) c') B6 m2 := fun hn b off e e2 => by
    have e3 : g' = b := by simpa [Value.ownBlock] using e2
    exact hg'6 b (m2k hn b off e).1 (fun b' e' => by have := hp b' e'; have := (hF.2 hn b off e).1; omega) e3
  refine ⟨O8, ⟨hsim, by rw [List.length_append, H.len]; rfl, hgood, reads_of hF.1 (fun hn b off e => (m2k hn b off e).2), ap2, ?_, ?_, blk_set O8 1 _, ?_, ?_, ?_, ?_, ?_⟩⟩
  · exact (key z _ _ _ (Array.getElem?_eq_some_iff.1 H.blk).1 H.blk (by decide) (by omega) (no1 H.blk (by decide))).trans H.blk
  · exact (key (z + 1) _ _ _ (Array.getElem?_eq_some_iff.1 H.res).1 H.res (by decide) (by omega) (no1 H.res (by decide))).trans H.res
  · rw [seqT_snoc]
    refine own_of ho fun b e => ?_
    obtain ⟨_, cur, hc⟩ := own_typed ho e
    have hbo : b ≠ ob := blk_ne hc h1 (by decide)
    have e1 := hC b hbo
    exact (E b hbo).trans ((D2 b cur _ _ (by have := (Array.getElem?_eq_some_iff.1 hc).1; omega) (e1.trans hc) (by decide)).trans e1)
  · refine ho2.of (fun b e => ?_) (fun r hr hn b off e => ?_)
    · obtain ⟨_, cur, hc⟩ := own_typed ho2.1 e
      exact E b (blk_ne hc O8 (by decide))
    · refine E b ?_
      rcases (ho2.2 r hr).2 hn b off e with h4 | ⟨cs, hc⟩
      · omega
      · exact blk_ne hc O8 (by decide)
  · rw [rowsL_snoc, H.rows, marks_snoc]; rfl
  · intro r hr hn b off e e2
    rcases List.mem_append.1 hr with hr | hr
    · have e3 : g' = b := by simpa [Value.ownBlock] using e2
      exact hg'6 b (block_reads (H.o2.2 r hr).1.1 hn e) (fun b' e' e4 => H.apl r hr hn b off e (by rw [e4]; exact e')) e3
    · rw [List.mem_singleton.1 hr] at hn e
      exact ap2 hn b off e e2
  · have hb2 : ∀ b, v2.ownBlock = some b → g ≤ b := fun b e => by have := (own_typed k2.1 e).1; omega
    exact (((lowC.alloc (by omega) _).grown hgr2 (by rw [World.size_alloc]; omega) hb2).setCell (p := ⟨ob, 1, none⟩) (by show g ≤ ob; omega) _)
end Go.Proofs.Ytpfkkjgklhcejaa
