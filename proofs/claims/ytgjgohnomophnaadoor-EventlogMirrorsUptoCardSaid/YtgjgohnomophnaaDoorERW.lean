/- Event logs: a list of rows under construction, in memory of its own. -/
import Derived.Test.YtgjgohnomophnaaDoorEU
import Derived.Lib.OwnBridge
import Derived.OrdersIn
namespace Go.Proofs.YtgjgohnomophnaaDoor
open Go.RowKit

theorem own_mono {w : World} {base base' : Nat} {e : TypeId} {size n : Nat} {v : Value} {xs : List Value} (h : w.ownsRow base e size v n xs) (hb : base' ≤ base) : w.ownsRow base' e size v n xs := by
  refine ⟨h.1, ?_⟩
  rcases h.2 with h0 | ⟨g, cap, cur, h1, h2, h3⟩
  · exact .inl h0
  · exact .inr ⟨g, cap, cur, h1, by omega, h3⟩
/-- a row at or above s -/
def FarG (w : World) (s : Nat) (r : Row) : Prop := OkR w r ∧ (r.zs ≠ [] → ∀ b off, r.A = some ⟨b, off, none⟩ → s ≤ b ∧ ∃ cs, w.heap[b]? = some (.cells cs 9 (0, 0)))
theorem FarG.move {w w' : World} {s : Nat} {r : Row} (h : FarG w s r) (k : ∀ b cs, s ≤ b → w.heap[b]? = some (.cells cs 9 (0, 0)) → w'.heap[b]? = w.heap[b]?) : FarG w' s r := by
  by_cases hn : r.zs = []
  · refine ⟨⟨?_, h.1.2⟩, fun h => absurd hn h⟩
    rw [hn]
    exact ReadsS.nil _ _
  · refine ⟨⟨fun j hj => ?_, h.1.2⟩, fun hn' b off e => ?_⟩
    · obtain ⟨b, off, e, h1, h2⟩ := h.1.1 j hj
      obtain ⟨hs, cs, hc⟩ := h.2 hn b off e
      have kb := k b cs hs hc
      refine ⟨b, off, e, ?_, ?_⟩
      · rcases Nat.lt_or_ge b w'.heap.size with h3 | h3
        · exact h3
        · rw [Array.getElem?_eq_none h3, hc] at kb
          cases kb
      · rw [← h2]
        simp only [World.cell?, kb]
    · obtain ⟨hs, cs, hc⟩ := h.2 hn b off e
      exact ⟨hs, cs, by rw [k b cs hs hc]; exact hc⟩
theorem FarG.keep {S : Nat → Prop} {A B : World} {s : Nat} {r : Row} (h : FarG A s r) (k : KeepOn S A B) (hs : ∀ b, s ≤ b → S b) : FarG B s r :=
  h.move fun b _ hb hc => k.block b (Array.getElem?_eq_some_iff.1 hc).1 (hs b hb)
theorem FarG.mono {w : World} {s s' : Nat} {r : Row} (h : FarG w s r) (hs : s' ≤ s) : FarG w s' r := ⟨h.1, fun hn b off e => ⟨Nat.le_trans hs (h.2 hn b off e).1, (h.2 hn b off e).2⟩⟩
theorem FarG.own {w : World} {s : Nat} {A : Option Addr} {zs : List Txt} {c : Nat} (h : w.ownsRow s 9 1 (.slice A zs.length c) zs.length (zs.map sv)) (hl : zs.length ≤ 100000) : FarG w s ⟨A, zs, c⟩ := by
  obtain ⟨A2, c2, e, hr⟩ := ReadsS.own h
  cases e
  refine ⟨⟨hr, hl⟩, fun hn b off e => ?_⟩
  rcases h.2 with ⟨h1, h2⟩ | ⟨g, cap, cur, e1, hb, hg, _⟩
  · exact absurd (List.eq_nil_of_length_eq_zero h2) hn
  · injection e1 with e1
    have e : A = some ⟨b, off, none⟩ := e
    rw [e] at e1
    injection e1 with e1
    injection e1 with e1
    subst e1
    exact ⟨hb, cur, hg⟩
def OwnG (w : World) (s : Nat) (v : Value) (L : List Row) : Prop := w.ownsRow s 41 1 v L.length (L.map Row.v) ∧ ∀ r ∈ L, FarG w s r
theorem OwnG.nil (w : World) (s : Nat) : OwnG w s (.slice none 0 0) [] := ⟨World.ownsRow_nil _ _ _ _, fun _ h => by cases h⟩
theorem OwnG.keep {S : Nat → Prop} {A B : World} {s : Nat} {v : Value} {L : List Row} (h : OwnG A s v L) (k : KeepOn S A B) (hs : ∀ b, s ≤ b → S b) : OwnG B s v L :=
  ⟨k.own h.1 (fun g e => hs g (h.1.lt g e).1), fun r hr => (h.2 r hr).keep k hs⟩
theorem OwnG.reads {w : World} {s : Nat} {v : Value} {L : List Row} (h : OwnG w s v L) : ∃ A c, v = .slice A L.length c ∧ ReadsL w A L := by
  have ho := h.1
  rcases ho.2 with ⟨rfl, h0⟩ | ⟨g, cap, cur, rfl, _, hg, _⟩
  · obtain rfl : L = [] := List.eq_nil_of_length_eq_zero (by omega)
    exact ⟨none, 0, rfl, ReadsL.nil _ _⟩
  · refine ⟨_, cap, rfl, fun j hj => ?_, fun r hr => (h.2 r hr).1⟩
    have hc := ho.cellAt j (by omega)
    have e : (L.map Row.v)[j]? = some (rA L j).v := by
      unfold rA
      rw [List.getElem?_map, List.getElem?_eq_getElem hj]
      rfl
    rw [e] at hc
    exact ⟨g, 0, rfl, World.block_lt_of_cell? w ⟨g, j, none⟩ hc, by rw [Nat.zero_add]; exact hc⟩
theorem ownG_snoc {w w' : World} {s : Nat} {v v' : Value} {L : List Row} (h : OwnG w s v L) (r : Row) (hr : FarG w s r) (hg : w.grownBy w' v.ownBlock) (ho : w'.ownsRow s 41 1 v' (L.length + 1) (L.map Row.v ++ [r.v])) : OwnG w' s v' (L ++ [r]) := by
  have key : ∀ b cs, s ≤ b → w.heap[b]? = some (.cells cs 9 (0, 0)) → w'.heap[b]? = w.heap[b]? := fun b cs _ hc => by
    refine hg.block b (Array.getElem?_eq_some_iff.1 hc).1 fun e2 => ?_
    rcases h.1.2 with ⟨e1, _⟩ | ⟨g, cap, cur, e1, hb, h2, _⟩
    · rw [e1] at e2; cases e2
    · rw [e1] at e2
      have e3 : g = b := by simpa [Value.ownBlock] using e2.symm
      subst e3
      rw [h2] at hc
      simp at hc
  refine ⟨?_, fun x hx => ?_⟩
  · rw [List.map_append, List.length_append]
    exact ho
  · rcases List.mem_append.1 hx with hx | hx
    · exact (h.2 x hx).move key
    · simp at hx
      subst hx
      exact hr.move key
/-- one row is appended, in whatever region -/
theorem operIn_row {F : Fence} {n : Nat} {o : Oper} {a : Act} {w : World} {K : Act → World → Prop} {Q : Exit → Act → World → Prop} (s x : Operand)
    (hop : o.op = .call { callee := .builtin .append, args := #[s, x], argTypes := #[22, 22] })
    (base : Nat) (v : Value) (L : List Row) (r : Row) (hs : a.eval s = v) (hO : OwnG w base v L) (g : Nat) (hx : a.eval x = .slice (some ⟨g, 0, none⟩) 1 1)
    (hc : w.cell? ⟨g, 0, none⟩ = some r.v) (hr : FarG w base r) (hl : L.length ≤ 100000) (hbase : base ≤ w.heap.size)
    (h : ∀ A' c' w', OwnG w' base (.slice A' (L.length + 1) c') (L ++ [r]) → KeepOn (fun b => b < base) w w' → K (a.put o.dst (.slice A' (L.length + 1) c')) w') : Oper.wpIn F n Tryd.prog o a w K Q := by
  obtain ⟨i, hi, hz, h1, h2⟩ := info_parts infoR
  obtain ⟨v', w', hrun, r1, r2, r3⟩ := run_append_own (P := Tryd.prog) w base 22 o.type 41 i (.slice none 0 0) 1 24 Tryd.underlying22 hi hz h1 h2 rfl (by decide) v L.length (L.map Row.v) hO.1 ⟨g, 0, none⟩ 1 1 [r.v] rfl
    (fun j u hj => by
      cases j with
      | zero => simp at hj; subst hj; simpa [Addr.add] using hc
      | succ j => simp at hj) (fun u hu => by
      simp at hu
      subst hu
      simp [Value.oneCell', Row.v]) (by unfold maxLen; omega) (by omega) hbase
  have hO' := ownG_snoc hO r hr r2 r1
  obtain ⟨A', c', e, -⟩ := hO'.reads
  rw [List.length_append, List.length_singleton] at e
  subst e
  unfold Oper.wpIn
  refine ⟨?_, ?_⟩
  · simp [Oper.about, hop, resolve, Target.leads, Sem.run_pure]
  · rw [Oper.semAt_plain F _ _ (by rw [hop]; intro c hc'; cases hc')]
    simp [execOp, hop, resolve, invoke, builtin, hs, hx, hrun, Result.andThen]
    refine h A' c' w' hO' ⟨r2.os, r2.tape, r2.output, r2.size, fun k hk hb => r2.block k hk fun e => ?_⟩
    rcases hO.1.2 with ⟨e1, _⟩ | ⟨g', cap, cur, e1, hb', _⟩
    · rw [e1] at e; cases e
    · rw [e1] at e
      have : k = g' := by simpa [Value.ownBlock] using e
      omega
end Go.Proofs.YtgjgohnomophnaaDoor
