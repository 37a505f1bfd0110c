/- Event logs: lists of numbers in memory. -/
import Derived.Test.YtgjgohnomophnaaDoorVM
namespace Go.Proofs.YtgjgohnomophnaaDoor
open Go.RowKit Go.Maps Go.WideMaps

def at0 (L : List Int) (k : Nat) : Int := L[k]?.getD 0
def iv (x : Int) : Value := .int .i64 x
def ReadsI (w : World) (A : Option Addr) (zs : List Int) : Prop :=
  ∀ j, j < zs.length → ∃ b off, A = some ⟨b, off, none⟩ ∧ b < w.heap.size ∧ w.cell? ⟨b, off + j, none⟩ = some (.int .i64 (at0 zs j))
theorem ReadsI.nil (w : World) (A : Option Addr) : ReadsI w A [] := fun _ h => absurd h (by simp)
theorem ReadsI.below {w w' : World} {A : Option Addr} {zs : List Int} {B : Nat} (h : ReadsI w A zs) (hb : Below B w w') (hB : w.heap.size ≤ B) : ReadsI w' A zs := fun j hj => by
  obtain ⟨b, off, e, h1, h2⟩ := h j hj
  exact ⟨b, off, e, Nat.lt_of_lt_of_le h1 hb.size, (hb.cell (p := ⟨b, off + j, none⟩) (Nat.lt_of_lt_of_le h1 hB)).trans h2⟩
theorem ReadsI.own {w : World} {base : Nat} {e : TypeId} {v : Value} {n : Nat} {L : List Int} (h : w.ownsRow base e 1 v n (L.map iv)) : ∃ A c, v = .slice A L.length c ∧ ReadsI w A L := by
  have hl : L.length = n := by have := h.1; simpa using this
  rcases h.2 with ⟨rfl, h0⟩ | ⟨g, cap, cur, rfl, _, hg, _⟩
  · obtain rfl : L = [] := List.eq_nil_of_length_eq_zero (by omega)
    exact ⟨none, 0, rfl, ReadsI.nil _ _⟩
  · refine ⟨_, _, by rw [hl], fun j hj => ⟨_, _, rfl, ?_, ?_⟩⟩
    · have := h.cellAt j (by omega)
      exact World.block_lt_of_cell? w ⟨g, j, none⟩ (by rw [this]; simp [hj]; rfl)
    · rw [Nat.zero_add, h.cellAt j (by omega)]
      simp [hj, at0, iv]
theorem atI_of_reads {w : World} {A : Option Addr} {zs : List Int} (h : ReadsI w A zs) (k : Nat) (hk : k < zs.length) : ∃ b off, A = some ⟨b, off, none⟩ ∧ w.cell? ⟨b, off + k, none⟩ = some (.int .i64 (at0 zs k)) := by
  obtain ⟨b, off, h1, _, h2⟩ := h k hk
  exact ⟨b, off, h1, h2⟩
theorem own_put {w : World} {base : Nat} {e : TypeId} {g n cap : Nat} {L : List Int} (h : w.ownsRow base e 1 (.slice (some ⟨g, 0, none⟩) n cap) n (L.map iv)) (i : Nat) (x : Int) :
    (w.setCell ⟨g, i, none⟩ (.int .i64 x)).ownsRow base e 1 (.slice (some ⟨g, 0, none⟩) n cap) n ((L.set i x).map iv) := by
  rw [List.map_set]
  exact (h.stored i (.int .i64 x)).1
theorem own_cell {w : World} {base : Nat} {e : TypeId} {g n cap : Nat} {L : List Int} (h : w.ownsRow base e 1 (.slice (some ⟨g, 0, none⟩) n cap) n (L.map iv)) (i : Nat) (hi : i < L.length) :
    w.cell? ⟨g, i, none⟩ = some (.int .i64 (at0 L i)) := by
  have hl : L.length = n := by have := h.1; simpa using this
  rw [h.cellAt i (by omega)]
  simp [hi, at0, iv]
theorem grown_setCell (W : World) (b i : Nat) (v : Value) : W.grownBy (W.setCell ⟨b, i, none⟩ v) (some b) :=
  ⟨rfl, rfl, rfl, (KeepsWalks.setCell W _ v).size, fun k _ hk => Below.heap_setCell _ _ _ k (fun e => hk (by rw [e]))⟩

/-! what is kept beside another list -/
/-- a block of neither lists nor texts -/
def Oth (w : World) (s : Nat) (row : Option Nat) : Prop := ∀ q, row = some q → s ≤ q ∧ ∀ cs t, w.heap[q]? = some (.cells cs t (0, 0)) → t ≠ 41 ∧ t ≠ 9
theorem FarR.kept {w w' : World} {s : Nat} {row : Option Nat} {r : Row} (hr : FarR w s r) (hg : w.grownBy w' row) (ho : Oth w s row) : FarR w' s r := by
  have key : r.zs ≠ [] → ∀ b off, r.A = some ⟨b, off, none⟩ → w'.heap[b]? = w.heap[b]? := fun hn b off e => by
    refine hg.block b (block_of_reads hr.1.1 hn e) fun e2 => ?_
    obtain ⟨h1, h2⟩ := ho b e2.symm
    rcases hr.2 hn _ off e with h3 | ⟨cs, h3⟩
    · omega
    · exact (h2 _ _ h3).2 rfl
  by_cases hn : r.zs = []
  · refine ⟨⟨?_, hr.1.2⟩, fun h => absurd hn h⟩
    rw [hn]
    exact ReadsS.nil _ _
  · refine ⟨⟨fun j hj => ?_, hr.1.2⟩, fun hn' b off e => (hr.2 hn' b off e).imp id fun ⟨cs, hc⟩ => ⟨cs, by rw [key hn b off e]; exact hc⟩⟩
    obtain ⟨b, off, e, h1, h2⟩ := hr.1.1 j hj
    have kb := key hn b off e
    refine ⟨b, off, e, ?_, ?_⟩
    · rcases Nat.lt_or_ge b w'.heap.size with h3 | h3
      · exact h3
      · rw [Array.getElem?_eq_none h3, Array.getElem?_eq_getElem h1] at kb
        cases kb
    · rw [← h2]
      simp only [World.cell?, kb]
theorem OwnL.kept {w w' : World} {s : Nat} {row : Option Nat} {v : Value} {L : List Row} (h : OwnL w s v L) (hg : w.grownBy w' row) (ho : Oth w s row) : OwnL w' s v L := by
  refine ⟨h.1.kept hg ?_, fun r hr => (h.2 r hr).kept hg ho⟩
  rcases h.1.2 with ⟨e1, _⟩ | ⟨g, cap, cur, e1, hb, h2, _⟩
  · exact .inl (by rw [e1]; rfl)
  · refine .inr fun e => ?_
    have e2 : row = some g := by rw [← e, e1]; rfl
    exact ((ho g e2).2 _ _ h2).1 rfl
theorem Oth.map {H : Type} {w : World} {s b n : Nat} {P : Program} {k : TypeId} {R : Value → Option (DataW H × List MemPlace)} {D : DataW H} (h : w.ownsMap P k R b n D) (hs : s ≤ b) : Oth w s (some b) := fun q e => by
  cases e
  obtain ⟨es, clock, h1, _⟩ := h
  exact ⟨hs, fun cs t h2 => by rw [h1] at h2; simp at h2⟩
theorem Oth.ints {w : World} {s n : Nat} {u : Value} {xs : List Value} (h : w.ownsRow s 3 1 u n xs) : Oth w s u.ownBlock := fun q e => by
  rcases h.2 with ⟨e1, _⟩ | ⟨g, cap, cur, e1, hb, h2, _⟩
  · rw [e1] at e; cases e
  · rw [e1] at e
    have e3 : g = q := by simpa [Value.ownBlock] using e
    subst e3
    refine ⟨hb, fun cs t h3 => ?_⟩
    rw [h2] at h3
    simp at h3
    exact ⟨fun e => by rw [← h3.2] at e; revert e; decide, fun e => by rw [← h3.2] at e; revert e; decide⟩
theorem row_ne {w : World} {s s' : Nat} {e e' : TypeId} {u v : Value} {n m k k' : Nat} {xs ys : List Value} (h : w.ownsRow s e k u n xs) (h' : w.ownsRow s' e' k' v m ys) (hne : e ≠ e') : u.ownBlock = none ∨ u.ownBlock ≠ v.ownBlock := by
  rcases h.2 with ⟨e1, _⟩ | ⟨g, cap, cur, e1, hb, h2, _⟩
  · exact .inl (by rw [e1]; rfl)
  · refine .inr fun e => ?_
    rcases h'.2 with ⟨e3, _⟩ | ⟨g', cap', cur', e3, hb', h4, _⟩
    · rw [e1, e3] at e; cases e
    · rw [e1, e3] at e
      have e5 : g = g' := by simpa [Value.ownBlock] using e
      subst e5
      rw [h2] at h4
      simp at h4
      exact hne h4.2
theorem map_ne {H : Type} {w : World} {s b n : Nat} {P : Program} {k : TypeId} {R : Value → Option (DataW H × List MemPlace)} {D : DataW H} {e : TypeId} {u : Value} {m z : Nat} {xs : List Value} (h : w.ownsMap P k R b n D) (h' : w.ownsRow s e z u m xs) : some b ≠ u.ownBlock := fun e1 => by
  rcases h'.2 with ⟨e3, _⟩ | ⟨g', cap', cur', e3, hb', h4, _⟩
  · rw [e3] at e1; cases e1
  · rw [e3] at e1
    have e5 : b = g' := by simpa [Value.ownBlock] using e1
    subst e5
    obtain ⟨es, clock, h1, _⟩ := h
    rw [h1] at h4
    simp at h4
theorem map_ne2 {H : Type} {w : World} {s b n : Nat} {P : Program} {k : TypeId} {R : Value → Option (DataW H × List MemPlace)} {D : DataW H} {e : TypeId} {u : Value} {m z : Nat} {xs : List Value} (h : w.ownsMap P k R b n D) (h' : w.ownsRow s e z u m xs) : u.ownBlock = none ∨ u.ownBlock ≠ some b :=
  .inr fun e => map_ne h h' e.symm
theorem map_below {H : Type} {w w' : World} {P : Program} {k : TypeId} {R : Value → Option (DataW H × List MemPlace)} {b n : Nat} {D : DataW H} {B : Nat} (h : w.ownsMap P k R b n D) (hb : Below B w w') (hB : w.heap.size ≤ B) : w'.ownsMap P k R b n D := by
  have hlt := h.lt
  obtain ⟨es, clock, h1, h2⟩ := h
  exact ⟨es, clock, (hb.block b (by omega)).trans h1, h2⟩
theorem own_lt {w : World} {s n : Nat} {e : TypeId} {u : Value} {k : Nat} {xs : List Value} (h : w.ownsRow s e k u n xs) : ∀ q, u.ownBlock = some q → s ≤ q := fun q e => (h.lt q e).1
theorem below_grown {w w' : World} {s : Nat} {row : Option Nat} (hg : w.grownBy w' row) (hs : s ≤ w.heap.size) (hr : ∀ q, row = some q → s ≤ q) : Below s w w' := (Below.refl s w).grown hg hs hr
theorem infoI : (Tryd.prog.info? 3).map (fun i => (i.zero, i.size, i.bytes)) = some (some (.int .i64 0), 1, 8) := by kernel_rfl
/-- one number is appended -/
theorem wpList_cnt {ops : Array Oper} {rest : List Oper} {o : Oper} {a : Act} {w : World} {Q : Exit → Act → World → Prop} (hgd : o.guard = none) (s x : Operand)
    (ho : o.op = .call { callee := .builtin .append, args := #[s, x], argTypes := #[36, 36] })
    (base : Nat) (u : Value) (L : List Int) (z : Int) (hs : a.eval s = u) (n : Nat) (hO : w.ownsRow base 3 1 u n (L.map iv)) (g : Nat) (hx : a.eval x = .slice (some ⟨g, 0, none⟩) 1 1)
    (hc : w.cell? ⟨g, 0, none⟩ = some (.int .i64 z)) (hl : n ≤ 100000) (hbase : base ≤ w.heap.size)
    (h : ∀ u' w', w'.ownsRow base 3 1 u' (n + 1) ((L ++ [z]).map iv) → w.grownBy w' u.ownBlock → Below base w w' → wpList Tryd.prog ops Q rest (a.put o.dst u') w') : wpList Tryd.prog ops Q (o :: rest) a w := by
  obtain ⟨i, hi, hz, h1, h2⟩ := info_parts infoI
  refine wpList_append_own _ hgd s x 36 ho base 3 i (.int .i64 0) 1 8 Tryd.underlying36 hi hz h1 h2 rfl (by decide) u n (L.map iv) hs hO ⟨g, 0, none⟩ 1 1 [.int .i64 z] hx rfl ?_ ?_ (by unfold maxLen; omega) (by omega) hbase ?_
  · intro j y hj
    cases j with
    | zero => simp at hj; subst hj; simpa [Addr.add] using hc
    | succ j => simp at hj
  · intro y hy
    simp at hy
    subst hy
    rfl
  · intro u' w' hown hgrow _
    refine h u' w' ?_ hgrow (below_grown hgrow hbase (own_lt hO))
    rw [List.map_append]
    exact hown
/-- one row is appended -/
theorem wpList_row2 {ops : Array Oper} {rest : List Oper} {o : Oper} {a : Act} {w : World} {Q : Exit → Act → World → Prop} (hgd : o.guard = none) (s x : Operand)
    (ho : o.op = .call { callee := .builtin .append, args := #[s, x], argTypes := #[22, 22] })
    (base : Nat) (v : Value) (L : List Row) (r : Row) (hs : a.eval s = v) (hO : OwnL w base v L) (g : Nat) (hx : a.eval x = .slice (some ⟨g, 0, none⟩) 1 1)
    (hc : w.cell? ⟨g, 0, none⟩ = some r.v) (hr : FarR w base r) (hl : L.length ≤ 100000) (hbase : base ≤ w.heap.size)
    (h : ∀ v' w', OwnL w' base v' (L ++ [r]) → w.grownBy w' v.ownBlock → Below base w w' → wpList Tryd.prog ops Q rest (a.put o.dst v') w') : wpList Tryd.prog ops Q (o :: rest) a w := by
  obtain ⟨i, hi, hz, h1, h2⟩ := info_parts infoR
  refine wpList_append_own _ hgd s x 22 ho base 41 i (.slice none 0 0) 1 24 Tryd.underlying22 hi hz h1 h2 rfl (by decide) v L.length (L.map Row.v) hs hO.1 ⟨g, 0, none⟩ 1 1 [r.v] hx rfl ?_ ?_ (by unfold maxLen; omega) (by omega) hbase ?_
  · intro j u hj
    cases j with
    | zero => simp at hj; subst hj; simpa [Addr.add] using hc
    | succ j => simp at hj
  · intro u hu
    simp at hu
    subst hu
    simp [Value.oneCell', Row.v]
  · intro v' w' hown hgrow _
    exact h v' w' (own_snoc hO r hr hgrow hown) hgrow (below_grown hgrow hbase (own_lt hO.1))

/-! a map from texts to numbers -/
theorem law_s : Keyed Tryd.prog 9 := string_keyed Tryd.underlying9
theorem zero_n (w : World) : (zeroValue 3).run Tryd.prog w = .ok (.int .i64 0) w := by kernel_rfl
abbrev OwnM (w : World) (b n : Nat) (D : DataW Unit) : Prop := w.ownsMap Tryd.prog 9 (plainElem Tryd.prog 3) b n D
theorem wpList_hit {w : World} {ops : Array Oper} {rest : List Oper} {o : Oper} {a : Act} {Q : Exit → Act → World → Prop} (hg : o.guard = none) (m x : Operand) (hop : o.op = Op.lookup 66 m x true) (b n : Nat) (D : DataW Unit)
    (hm : a.eval m = .map (some b)) (hown : OwnM w b n D) (key : Value) (kl : Lit) (hx : a.eval x = key) (hkey : keyOf Tryd.prog 9 key = some kl) (i : Int) (hh : Maps.has D kl = true) (ha : D.atKey kl (.lit (.int .i64 0)) = .lit (.int .i64 i))
    (hK : wpList Tryd.prog ops Q rest (a.put o.dst (.tuple #[.int .i64 i, .bool true])) w) : wpList Tryd.prog ops Q (o :: rest) a w := by
  refine wpList_lookup_own_ok_int _ hg m x 66 hop 9 3 .i64 law_s Tryd.underlying66 Tryd.underlying3 (zero_n _) b n D hm hown key kl hx hkey ?_
  intro c hc _
  rw [ha] at hc
  simp at hc
  rw [← hc, hh]
  exact hK
theorem wpList_miss {w : World} {ops : Array Oper} {rest : List Oper} {o : Oper} {a : Act} {Q : Exit → Act → World → Prop} (hg : o.guard = none) (m x : Operand) (hop : o.op = Op.lookup 66 m x true) (b n : Nat) (D : DataW Unit)
    (hm : a.eval m = .map (some b)) (hown : OwnM w b n D) (key : Value) (kl : Lit) (hx : a.eval x = key) (hkey : keyOf Tryd.prog 9 key = some kl) (hh : Maps.has D kl = false)
    (hK : wpList Tryd.prog ops Q rest (a.put o.dst (.tuple #[.int .i64 0, .bool false])) w) : wpList Tryd.prog ops Q (o :: rest) a w := by
  refine wpList_lookup_own_ok_int _ hg m x 66 hop 9 3 .i64 law_s Tryd.underlying66 Tryd.underlying3 (zero_n _) b n D hm hown key kl hx hkey ?_
  intro c hc _
  rw [atKey_of_not_has hh] at hc
  simp at hc
  rw [← hc, hh]
  exact hK
end Go.Proofs.YtgjgohnomophnaaDoor
