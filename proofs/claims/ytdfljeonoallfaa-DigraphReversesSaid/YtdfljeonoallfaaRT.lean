/- A table of rows that grow one by one. -/
import Derived.Test.YtdfljeonoallfaaRows
import Derived.Below
import Derived.Deep.OwnRows
import Derived.Lib.Hide
import Derived.Lib.OwnBridge
import Derived.Maps.AppendAt
import Derived.WalkKit
namespace Go.Proofs.Ytdfljeonoallfaa
open Go.RowKit Go.Deep

/-- block T holds N slices; row e was grown since B and has the cells X e -/
def GrowT (w : World) (T B N : Nat) (st te : TypeId) (sz : Nat) (ln : Nat → Nat) (X : Nat → List Value) (vs : Nat → Value) : Prop :=
  T < B ∧ B ≤ w.heap.size ∧ w.rowIs T st N vs ∧ (∀ e, e < N → w.ownsRow B te sz (vs e) (ln e) (X e)) ∧ ∀ e e', e < N → e' < N → e ≠ e' → (vs e).ownBlock = none ∨ (vs e).ownBlock ≠ (vs e').ownBlock
theorem own_ge {w : World} {B : Nat} {te : TypeId} {sz : Nat} {v : Value} {n : Nat} {xs : List Value} (h : w.ownsRow B te sz v n xs) : v.ownBlock = none ∨ ∃ g, v.ownBlock = some g ∧ B ≤ g ∧ g < w.heap.size := by
  rcases h.2 with ⟨e, _⟩ | ⟨g, cap, cur, e, h1, h2, _⟩
  · exact .inl (by rw [e]; rfl)
  · exact .inr ⟨g, by rw [e]; rfl, h1, (Array.getElem?_eq_some_iff.1 h2).1⟩
theorem own_block {w w' : World} {B : Nat} {te : TypeId} {sz : Nat} {v : Value} {n : Nat} {xs : List Value} (h : w.ownsRow B te sz v n xs) (hb : ∀ g, v.ownBlock = some g → w'.heap[g]? = w.heap[g]?) : w'.ownsRow B te sz v n xs := by
  refine ⟨h.1, ?_⟩
  rcases h.2 with h0 | ⟨g, cap, cur, e, h1, h2, h3⟩
  · exact .inl h0
  · exact .inr ⟨g, cap, cur, e, h1, by rw [hb g (by rw [e]; rfl)]; exact h2, h3⟩
theorem GrowT.below {w w' : World} {T B N : Nat} {st te : TypeId} {sz : Nat} {ln : Nat → Nat} {X : Nat → List Value} {vs : Nat → Value} (h : GrowT w T B N st te sz ln X vs) (hb : Below w.heap.size w w') : GrowT w' T B N st te sz ln X vs := by
  obtain ⟨h1, h2, h3, h4, h5⟩ := h
  refine ⟨h1, Nat.le_trans h2 hb.size, h3.of_block (hb.block _ h3.lt), fun e he => own_block (h4 e he) fun g hg => ?_, h5⟩
  rcases own_ge (h4 e he) with e0 | ⟨g', e1, _, h7⟩
  · rw [e0] at hg; cases hg
  · rw [e1] at hg
    injection hg with hg
    subst hg
    exact hb.block _ h7
theorem GrowT.drew {w : World} {T B N : Nat} {st te : TypeId} {sz : Nat} {ln : Nat → Nat} {X : Nat → List Value} {vs : Nat → Value} (h : GrowT w T B N st te sz ln X vs) : GrowT w.drew T B N st te sz ln X vs := h
theorem GrowT.step {w w' : World} {T B N e : Nat} {st te : TypeId} {sz : Nat} {ln : Nat → Nat} {X : Nat → List Value} {vs : Nat → Value} {v' : Value} {news : List Value} {k : Nat} (h : GrowT w T B N st te sz ln X vs) (he : e < N)
    (ho : w'.ownsRow B te sz v' (ln e + k) (X e ++ news)) (hg : w.grownBy w' (vs e).ownBlock) (hv : v'.ownBlock = (vs e).ownBlock ∨ v'.ownBlock = some w.heap.size) :
    GrowT (w'.setCell ⟨T, e, none⟩ v') T B N st te sz (fun i => if i = e then ln e + k else ln i) (fun i => if i = e then X e ++ news else X i) (fun i => if i = e then v' else vs i) := by
  obtain ⟨h1, h2, h3, h4, h5⟩ := h
  have hT : some T ≠ (vs e).ownBlock := fun c => by
    rcases own_ge (h4 e he) with e0 | ⟨g, e1, h6, _⟩
    · rw [e0] at c; cases c
    · rw [e1] at c
      injection c with c
      omega
  have hs : w.heap.size ≤ w'.heap.size := hg.size
  have hset : ∀ g, g ≠ T → (w'.setCell ⟨T, e, none⟩ v').heap[g]? = w'.heap[g]? := fun g hgt => blk_setCell_other _ _ _ _ hgt
  refine ⟨h1, by rw [nblk_setCell]; omega, ?_, fun i hi => ?_, fun i i' hi hi' hne => ?_⟩
  · have h3' : w'.rowIs T st N vs := h3.of_block (hg.block T h3.lt hT)
    exact (h3'.set e v').congr fun i _ => rfl
  · dsimp only
    by_cases hie : i = e
    · subst hie
      rw [if_pos rfl, if_pos rfl, if_pos rfl]
      refine own_block ho fun g hgv => hset g fun c => ?_
      rcases own_ge ho with e0 | ⟨g', e1, h6, _⟩
      · rw [e0] at hgv; cases hgv
      · rw [e1] at hgv
        injection hgv with hgv
        omega
    · rw [if_neg hie, if_neg hie, if_neg hie]
      refine own_block (h4 i hi) fun g hgv => ?_
      rcases own_ge (h4 i hi) with e0 | ⟨g', e1, h6, h7⟩
      · rw [e0] at hgv; cases hgv
      · have hgv2 := hgv
        rw [e1] at hgv2
        injection hgv2 with hgv2
        subst hgv2
        rw [hset g' (by omega)]
        refine hg.block g' h7 fun c => ?_
        rcases h5 i e hi he hie with e2 | e2
        · rw [e1] at e2; cases e2
        · exact e2 (by rw [hgv, c])
  · have fresh : ∀ j, j < N → (vs j).ownBlock ≠ some w.heap.size := fun j hj c => by
      rcases own_ge (h4 j hj) with e0 | ⟨g', e1, _, h7⟩
      · rw [e0] at c; cases c
      · rw [e1] at c
        injection c with c
        omega
    dsimp only
    by_cases hie : i = e
    · subst hie
      have hi'e : i' ≠ i := fun c => hne c.symm
      rw [if_pos rfl, if_neg hi'e]
      rcases hv with e0 | e0
      · rw [e0]; exact h5 i i' hi hi' hne
      · rw [e0]; exact .inr fun c => fresh i' hi' c.symm
    · rw [if_neg hie]
      by_cases hie' : i' = e
      · subst hie'
        rw [if_pos rfl]
        rcases hv with e0 | e0
        · rw [e0]; exact h5 i i' hi hi' hne
        · rw [e0]; exact .inr (fresh i hi)
      · rw [if_neg hie']
        exact h5 i i' hi hi' hne
theorem GrowT.start {w : World} (N : Nat) (st te : TypeId) (sz : Nat) : GrowT (w.alloc (.cells (madeCells #[.slice none 0 0] N) st)) w.heap.size (w.heap.size + 1) N st te sz (fun _ => 0) (fun _ => []) (fun _ => .slice none 0 0) :=
  ⟨by omega, by rw [World.size_alloc]; exact Nat.le_refl _, World.rowIs_made w _ N st, fun _ _ => World.ownsRow_nil _ _ _ _, fun _ _ _ _ _ => .inl rfl⟩
theorem GrowT.congr {w : World} {T B N : Nat} {st te : TypeId} {sz : Nat} {ln ln' : Nat → Nat} {X X' : Nat → List Value} {vs : Nat → Value} (h : GrowT w T B N st te sz ln X vs) (hl : ∀ e, e < N → ln e = ln' e) (hX : ∀ e, e < N → X e = X' e) : GrowT w T B N st te sz ln' X' vs :=
  ⟨h.1, h.2.1, h.2.2.1, fun e he => by rw [← hl e he, ← hX e he]; exact h.2.2.2.1 e he, h.2.2.2.2⟩
/-- an append at one operation of a drawn region; where the new row lies -/
theorem oper_append_blk {P : Program} (w : World) {o : Oper} {a : Act} {K : Act → World → Prop} {Q : Exit → Act → World → Prop} (s x : Operand) (t : TypeId)
    (ho : o.op = .call { callee := .builtin .append, args := #[s, x], argTypes := #[t, t] })
    (base : Nat) (e : TypeId) (i : TypeInfo) (z : Value) (size bytes : Nat) (ht : P.underlying t = some (.slice e)) (hi : P.info? e = some i) (hz : i.zero = some z)
    (hsize : i.size = size) (hby : i.bytes = bytes) (hzs : z.cells.size = size) (hsz : 0 < size)
    (v : Value) (n : Nat) (xs : List Value) (hs : a.eval s = v) (hown : w.ownsRow base e size v n xs)
    (ad : Addr) (m c : Nat) (news : List Value) (hx : a.eval x = .slice (some ad) m c) (hl : news.length = m * size) (hnews : ∀ j u, news[j]? = some u → w.cell? (ad.add j) = some u) (h1 : ∀ u ∈ news, u.oneCell' = true)
    (h63 : n + m ≤ maxLen) (hbytes : (n + m) * bytes ≤ 140737488355328) (hbase : base ≤ w.heap.size)
    (h : ∀ v' w', w'.ownsRow base e size v' (n + m) (xs ++ news) → w.grownBy w' v.ownBlock → (v'.ownBlock = v.ownBlock ∨ v'.ownBlock = some w.heap.size) → K (a.put o.dst v') w') : Oper.wp P o a w K Q := by
  obtain ⟨v', w', hr, h2, h3, _, h5⟩ := run_append_own_at (P := P) w base t o.type e i z size bytes ht hi hz hsize hby hzs hsz v n xs hown ad m c news hl hnews h1 h63 hbytes hbase
  unfold Oper.wp execOp
  simp only [ho, resolve, invoke, builtin, Sem.run_bind, Sem.run_pure, Result.andThen_ok, List.map_toArray, List.map_cons, List.map_nil, hs, hx, hr]
  exact h v' w' h2 h3 h5
end Go.Proofs.Ytdfljeonoallfaa
