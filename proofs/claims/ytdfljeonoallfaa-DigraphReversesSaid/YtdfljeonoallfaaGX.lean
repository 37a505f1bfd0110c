/- Graphs: the memory of Components. -/
import Derived.Test.YtdfljeonoallfaaGBW
namespace Go.Proofs.Ytdfljeonoallfaa
open Go.RowKit Go.Deep

theorem GrowT.keepOn {w w' : World} {T B N : Nat} {st te : TypeId} {sz : Nat} {ln : Nat → Nat} {X : Nat → List Value} {vs : Nat → Value} (h : GrowT w T B N st te sz ln X vs) (hs : w.heap.size ≤ w'.heap.size) (hk : ∀ k, T ≤ k → k < w.heap.size → w'.heap[k]? = w.heap[k]?) : GrowT w' T B N st te sz ln X vs := by
  obtain ⟨h1, h2, h3, h4, h5⟩ := h
  refine ⟨h1, Nat.le_trans h2 hs, h3.of_block (hk _ (Nat.le_refl _) h3.lt), fun e he => own_block (h4 e he) fun g hg => ?_, h5⟩
  rcases own_ge (h4 e he) with e0 | ⟨g', e1, h6, h7⟩
  · rw [e0] at hg; cases hg
  · rw [e1] at hg
    injection hg with hg
    subst hg
    exact hk _ (by omega) h7
theorem GrowT.rows {w : World} {T B N : Nat} {L : Nat → List Int} {vs : Nat → Value} (h : GrowT w T B N 27 3 1 (fun e => (L e).length) (fun e => vI (L e)) vs) {e : Nat} (he : e < N) : ∃ A c, w.cell? ⟨T, e, none⟩ = some (.slice A (L e).length c) ∧ ReadsV w A (L e) := by
  obtain ⟨A, c, e1, h1⟩ := ReadsV.own (h.2.2.2.1 e he)
  have h2 := h.2.2.1.cell he
  rw [e1] at h2
  exact ⟨A, c, h2, h1⟩
theorem GrowT.rowOf {w : World} {T B N : Nat} {L : Nat → List Int} {vs : Nat → Value} (h : GrowT w T B N 27 3 1 (fun e => (L e).length) (fun e => vI (L e)) vs) {e : Nat} (he : e < N) {A : Option Addr} {m c : Nat} (hv : vs e = .slice A m c) : w.cell? ⟨T, e, none⟩ = some (.slice A (L e).length c) ∧ ReadsV w A (L e) := by
  obtain ⟨A', c', e1, h1⟩ := ReadsV.own (h.2.2.2.1 e he)
  have h2 := h.2.2.1.cell he
  rw [hv] at e1
  injection e1 with x1 x2 x3
  subst x1 x3
  rw [hv, x2] at h2
  exact ⟨h2, h1⟩
/-- what the loop has made so far -/
structure InvC (w0 : World) (g n : Nat) (A : Nat → Bool) (Ls : Nat → Int) (W : World) : Prop where
  kp : KeepOn (fun k => k < w0.heap.size ∧ k ≠ g ∧ k ≠ g + 2) w0 W
  lr : W.rowIs g 3 n (fun j => .int .i64 (Ls j))
  ar : RowB W (g + 2) n A
theorem InvC.keep {w0 A B : World} {g n hi : Nat} {S : Nat → Bool} {Ls : Nat → Int} (h : InvC w0 g n S Ls A) (hg : g + 2 < w0.heap.size) (k : KeepOn (fun k => k < w0.heap.size ∨ hi ≤ k) A B) : InvC w0 g n S Ls B :=
  ⟨h.kp.trans (k.mono fun i _ hi => .inl hi.1), h.lr.of_block (k.block _ h.lr.lt (.inl (by omega))), h.ar.of_block (k.block _ (World.rowIs.lt h.ar) (.inl (by omega)))⟩
/-- a round's memory: the members -/
structure BodC (W : World) (g n : Nat) (S : Nat → Bool) (Ls : Nat → Int) (q : List Nat) (mv : Value) (wr : World) : Prop where
  kb : KeepOn (fun k => k < W.heap.size ∧ k ≠ g ∧ k ≠ g + 2) W wr
  lr : wr.rowIs g 3 n (fun j => .int .i64 (Ls j))
  ar : RowB wr (g + 2) n S
  mo : wr.ownsRow W.heap.size 3 1 mv (zN q).length (vI (zN q))
section
variable {W wr w' : World} {g n : Nat} {S : Nat → Bool} {Ls : Nat → Int} {q : List Nat} {mv : Value}
theorem BodC.drew (h : BodC W g n S Ls q mv wr) : BodC W g n S Ls q mv wr.drew := ⟨h.kb.trans (KeepOn.drew _), h.lr, h.ar, h.mo⟩
theorem BodC.mark (h : BodC W g n S Ls q mv wr) (hg : g + 2 < W.heap.size) (v : Nat) : BodC W g n (fun x => if x = v then true else S x) Ls q mv (wr.setCell ⟨g + 2, v, none⟩ (.bool true)) :=
  ⟨h.kb.trans (KeepOn.set _ _ _ (by rintro ⟨_, _, h⟩; exact h rfl)), h.lr.setOther (by show g ≠ g + 2; omega) _, h.ar.set v true, own_other h.mo hg⟩
theorem BodC.put (h : BodC W g n S Ls q mv wr) (hg : g + 2 < W.heap.size) (v : Nat) (m : Int) : BodC W g n S (fun x => if x = v then m else Ls x) q mv (wr.setCell ⟨g, v, none⟩ (.int .i64 m)) :=
  ⟨h.kb.trans (KeepOn.set _ _ _ (by rintro ⟨_, h, _⟩; exact h rfl)), (h.lr.set v (.int .i64 m)).congr fun j _ => by by_cases c : j = v <;> simp [c], h.ar.of_block (blk_setCell_other _ _ _ _ (by show g + 2 ≠ g; omega)), own_other h.mo (by omega)⟩
theorem BodC.push (h : BodC W g n S Ls q mv wr) (hg : g + 2 < W.heap.size) {mv' : Value} {v : Nat} {ob : Obj} (ho : w'.ownsRow W.heap.size 3 1 mv' ((zN q).length + 1) (vI (zN q) ++ [.int .i64 (v : Nat)])) (hgr : (wr.alloc ob).grownBy w' mv.ownBlock) : BodC W g n S Ls (q ++ [v]) mv' w' := by
  have hge : ∀ k, mv.ownBlock = some k → W.heap.size ≤ k := fun k hk => (h.mo.lt k hk).1
  have hsz : W.heap.size ≤ wr.heap.size := h.kb.size
  have keep : ∀ k, k < W.heap.size → w'.heap[k]? = wr.heap[k]? := fun k hk => by
    have h1 := hgr.block k (by rw [World.size_alloc]; omega) fun c => by have := hge k c.symm; omega
    rw [h1]
    exact blk_alloc_lt _ _ _ (by omega)
  refine ⟨h.kb.trans ⟨hgr.os, hgr.tape, hgr.output, by have := hgr.size; rw [World.size_alloc] at this; omega, fun k _ hk => keep k hk.1⟩, h.lr.of_block (keep _ (by omega)), h.ar.of_block (keep _ (by omega)), ?_⟩
  rw [zN_snoc, vI_snoc, List.length_append, List.length_singleton]
  exact ho
theorem BodC.inv {w0 : World} {S0 : Nat → Bool} {L0 : Nat → Int} (h : BodC W g n S Ls q mv wr) (hi : InvC w0 g n S0 L0 W) : InvC w0 g n S Ls wr :=
  ⟨hi.kp.trans (h.kb.mono fun k hk c => ⟨hk, c.2⟩), h.lr, h.ar⟩
end
theorem BodC.congr {W wr : World} {g n : Nat} {S S' : Nat → Bool} {Ls Ls' : Nat → Int} {q : List Nat} {mv : Value} (h : BodC W g n S Ls q mv wr) (e : ∀ y, y < n → S y = S' y) (e2 : ∀ y, y < n → Ls y = Ls' y) : BodC W g n S' Ls' q mv wr :=
  ⟨h.kb, h.lr.congr fun j hj => by rw [e2 j hj], h.ar.congr e, h.mo⟩
theorem BodC.start {w0 W : World} {g n : Nat} {S : Nat → Bool} {Ls : Nat → Int} (IC : InvC w0 g n S Ls W) (hg : g + 2 < W.heap.size) (r : Nat) : BodC W g n (fun y => S y || decide (y ∈ [r])) Ls [r] (.slice (some ⟨W.heap.size, 0, none⟩) 1 1) ((W.setCell ⟨g + 2, r, none⟩ (.bool true)).alloc (.cells #[.int .i64 (r : Nat)] 3)) := by
  have hs : (W.setCell ⟨g + 2, r, none⟩ (.bool true)).heap.size = W.heap.size := nblk_setCell _ _ _
  refine ⟨(KeepOn.set _ _ _ (by rintro ⟨_, _, h⟩; exact h rfl)).trans (KeepOn.alloc _ _), (IC.lr.setOther (by show g ≠ g + 2; omega) _).alloc _, ?_, ?_⟩
  · refine World.rowIs.alloc (World.rowIs.congr (IC.ar.set r true) fun j _ => ?_) _
    dsimp only
    by_cases c : j = r <;> simp [c]
  · have h := World.ownsRow_lit (W.setCell ⟨g + 2, r, none⟩ (.bool true)) (e := 3) (size := 1) (base := W.heap.size) #[.int .i64 (r : Nat)] 1 (by rw [hs]; exact Nat.le_refl _) (by unfold maxLen; omega) rfl
    rw [hs] at h
    exact h
theorem backward_any (A : Option Addr) (m c : Nat) (w : World) : Calls Try.prog 35 #[.slice A m c] w fun e w' => e = .returned (.func (.func 43) #[] #[.pointer (some ⟨w.heap.size, 0, none⟩)]) ∧ w' = w.alloc (.cells #[.slice A m c] 27) := by
  go_enter Try.func35, Try.ntmps35
  go_wp2
  go_ret
  exact ⟨rfl, rfl⟩
theorem wpIn_cut {F : Fence} {n : Nat} {P : Program} {c : Code} {Q : Exit → Act → World → Prop} {a : Act} {w : World} (a9 : Act) (w9 : World) (h : c.wpIn F n P (fun e a' w' => e = .normal ∧ a' = a9 ∧ w' = w9) a w) (k : Q .normal a9 w9) : c.wpIn F n P Q a w :=
  wpIn_mono h fun e a' w' h => by
    obtain ⟨rfl, rfl, rfl⟩ := h
    exact k
theorem wpListIn_intg {F : Fence} {n : Nat} {ops : Array Oper} {rest : List Oper} {o : Oper} {a : Act} {w : World} {Q : Exit → Act → World → Prop} (hgd : o.guard = none) (s x : Operand)
    (ho : o.op = .call { callee := .builtin .append, args := #[s, x], argTypes := #[27, 27] })
    (base : Nat) (v : Value) (l : List Int) (d : Int) (hs : a.eval s = v) (hO : w.ownsRow base 3 1 v l.length (vI l)) (g : Nat) (hx : a.eval x = .slice (some ⟨g, 0, none⟩) 1 1)
    (h0 : w.cell? ⟨g, 0, none⟩ = some (.int .i64 d)) (hl : l.length ≤ 100000) (hbase : base ≤ w.heap.size)
    (h : ∀ v' w', w'.ownsRow base 3 1 v' (l.length + 1) (vI l ++ [.int .i64 d]) → w.grownBy w' v.ownBlock → wpListIn F n Try.prog ops Q rest (a.put o.dst v') w') : wpListIn F n Try.prog ops Q (o :: rest) a w := by
  obtain ⟨i, hi, hz, h1, h2⟩ := info_parts infoI
  refine wpListIn_append_own _ hgd s x 27 ho base 3 i (.int .i64 0) 1 8 Try.underlying27 hi hz h1 h2 rfl (by decide) v l.length (vI l) hs hO ⟨g, 0, none⟩ 1 1 [.int .i64 d] hx rfl ?_ ?_ (by unfold maxLen; omega) (by omega) hbase ?_
  · intro j u hj
    match j, hj with
    | 0, hj => simp at hj; subst hj; simpa [Addr.add] using h0
    | j + 1, hj => simp at hj
  · intro u hu
    simp at hu
    subst hu
    rfl
  · intro v' w' h1 h2 _
    exact h v' w' h1 h2
end Go.Proofs.Ytdfljeonoallfaa
