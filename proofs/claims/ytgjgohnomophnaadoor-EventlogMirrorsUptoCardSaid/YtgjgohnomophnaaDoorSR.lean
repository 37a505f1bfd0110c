/- Texts and lists of texts in memory, and lists of such lists. -/
import Derived.Test.YtgjgohnomophnaaDoorSS
import Derived.Test.YtgjgohnomophnaaDoorB
import Derived.Laws.Rows
import Derived.Laws.OwnMore
import Derived.Deep.Draws
import Derived.OwnWalk
import Derived.Maps.AppendAt
import Derived.StillTailTactics
import Derived.LoopN
import Derived.Deep.RegionHeld3
import Derived.Deep.AppendLies
import Derived.Deep.LoopGhost
import Derived.Lib.OwnBridge
namespace Go.Proofs.YtgjgohnomophnaaDoor
open Go.RowKit

abbrev Txt := List UInt8
def sv (x : Txt) : Value := .string ⟨x.toArray⟩
def atS (l : List Txt) (j : Nat) : Txt := l[j]?.getD []
def ReadsS (w : World) (A : Option Addr) (zs : List Txt) : Prop :=
  ∀ j, j < zs.length → ∃ b off, A = some ⟨b, off, none⟩ ∧ b < w.heap.size ∧ w.cell? ⟨b, off + j, none⟩ = some (sv (atS zs j))
theorem ReadsS.nil (w : World) (A : Option Addr) : ReadsS w A [] := fun _ h => absurd h (by simp)
theorem ReadsS.below {w w' : World} {A : Option Addr} {zs : List Txt} {B : Nat} (h : ReadsS w A zs) (hb : Below B w w') (hB : w.heap.size ≤ B) : ReadsS w' A zs := fun j hj => by
  obtain ⟨b, off, e, h1, h2⟩ := h j hj
  exact ⟨b, off, e, Nat.lt_of_lt_of_le h1 hb.size, (hb.cell (p := ⟨b, off + j, none⟩) (Nat.lt_of_lt_of_le h1 hB)).trans h2⟩
theorem ReadsS.alloc {w : World} {A : Option Addr} {zs : List Txt} (h : ReadsS w A zs) (o : Obj) : ReadsS (w.alloc o) A zs := h.below (B := w.heap.size) ((Below.refl _ _).alloc (Nat.le_refl _) _) (Nat.le_refl _)
theorem ReadsS.own {w : World} {base : Nat} {e : TypeId} {v : Value} {n : Nat} {L : List Txt} (h : w.ownsRow base e 1 v n (L.map sv)) : ∃ A c, v = .slice A L.length c ∧ ReadsS w A L := by
  have hl : L.length = n := by have := h.1; simpa using this
  rcases h.2 with ⟨rfl, h0⟩ | ⟨g, cap, cur, rfl, _, hg, _⟩
  · obtain rfl : L = [] := List.eq_nil_of_length_eq_zero (by omega)
    exact ⟨none, 0, rfl, ReadsS.nil _ _⟩
  · refine ⟨_, _, by rw [hl], fun j hj => ⟨_, _, rfl, ?_, ?_⟩⟩
    · have := h.cellAt j (by omega)
      exact World.block_lt_of_cell? w ⟨g, j, none⟩ (by rw [this]; simp [hj]; rfl)
    · rw [Nat.zero_add, h.cellAt j (by omega)]
      simp [hj, atS]
theorem below_drewN {B : Nat} {a w : World} (h : Below B a w) (n : Nat) : Below B a (w.drewN n) := ⟨h.os, h.tape, h.output, h.size, h.block⟩
theorem own_below {w w' : World} {base : Nat} {e : TypeId} {size : Nat} {v : Value} {n : Nat} {xs : List Value} {B : Nat} (h : w.ownsRow base e size v n xs) (hb : Below B w w') (hB : w.heap.size ≤ B) : w'.ownsRow base e size v n xs := by
  refine ⟨h.1, ?_⟩
  rcases h.2 with h0 | ⟨g, cap, cur, h1, h2, h3, h4⟩
  · exact .inl h0
  · refine .inr ⟨g, cap, cur, h1, h2, ?_, h4⟩
    have hg : g < w.heap.size := (h.lt g (by rw [h1]; rfl)).2
    rw [hb.block g (by omega)]
    exact h3
theorem info_parts {i0 : Option TypeInfo} {z : Option Value} {s b : Nat} (h : i0.map (fun i => (i.zero, i.size, i.bytes)) = some (z, s, b)) : ∃ i, i0 = some i ∧ i.zero = z ∧ i.size = s ∧ i.bytes = b := by
  cases i0 with
  | none => simp at h
  | some i => simp at h; exact ⟨i, rfl, h.1, h.2.1, h.2.2⟩

theorem infoStr : (Tryd.prog.info? 9).map (fun i => (i.zero, i.size, i.bytes)) = some (some (.string ByteArray.empty), 1, 16) := by kernel_rfl
theorem ext_bytes (s : List UInt8) (a b : Nat) : (⟨s.toArray⟩ : ByteArray).extract a b = ⟨((s.drop a).take (b - a)).toArray⟩ := by
  apply ByteArray.ext
  simp
theorem cat_bytes (a b : List UInt8) : (⟨a.toArray⟩ : ByteArray) ++ ⟨b.toArray⟩ = ⟨(a ++ b).toArray⟩ := by
  apply ByteArray.ext
  simp
def BPost (g : Nat) (w : World) (v : Bool) (e : Ending) (w' : World) : Prop := e = .returned (.bool v) ∧ Below g w w'
/-- a list that lies in memory of its own kind -/
def FreshS (w : World) (A : Option Addr) (zs : List Txt) : Prop := ReadsS w A zs ∧ (zs ≠ [] → ∀ b off, A = some ⟨b, off, none⟩ → ∃ cs, w.heap[b]? = some (.cells cs 9 (0, 0)))
theorem FreshS.nil (w : World) (A : Option Addr) : FreshS w A [] := ⟨ReadsS.nil w A, fun h => absurd rfl h⟩
theorem FreshS.own {w : World} {base : Nat} {v : Value} {n : Nat} {L : List Txt} (h : w.ownsRow base 9 1 v n (L.map sv)) : ∃ A c, v = .slice A L.length c ∧ FreshS w A L := by
  obtain ⟨A, c, e, hr⟩ := ReadsS.own h
  refine ⟨A, c, e, hr, fun hn b off eA => ?_⟩
  rcases h.2 with ⟨rfl, h0⟩ | ⟨g, cap, cur, rfl, _, hg, _⟩
  · injection e with e1
    rw [eA] at e1
    cases e1
  · injection e with e1
    rw [eA] at e1
    injection e1 with e1
    injection e1 with e1
    subst e1
    exact ⟨cur, hg⟩
def IsPost (g : Nat) (w : World) (L : List Txt) (e : Ending) (w' : World) : Prop := ∃ A c, e = .returned (.slice A L.length c) ∧ FreshS w' A L ∧ Below g w w'


structure Row where
  A : Option Addr
  zs : List Txt
  cap : Nat
instance : Inhabited Row := ⟨⟨none, [], 0⟩⟩
def Row.v (r : Row) : Value := .slice r.A r.zs.length r.cap
def OkR (w : World) (r : Row) : Prop := ReadsS w r.A r.zs ∧ r.zs.length ≤ 100000
def rowsL (L : List Row) : List (List Txt) := L.map Row.zs
def rA (L : List Row) (j : Nat) : Row := L[j]?.getD ⟨none, [], 0⟩
def CellsL (w : World) (A : Option Addr) (L : List Row) : Prop :=
  ∀ j, j < L.length → ∃ b off, A = some ⟨b, off, none⟩ ∧ b < w.heap.size ∧ w.cell? ⟨b, off + j, none⟩ = some (rA L j).v
def ReadsL (w : World) (A : Option Addr) (L : List Row) : Prop := CellsL w A L ∧ ∀ r ∈ L, OkR w r
theorem rowsL_len (L : List Row) : (rowsL L).length = L.length := by simp [rowsL]
theorem rA_mem {L : List Row} {j : Nat} (h : j < L.length) : rA L j ∈ L := by
  unfold rA
  rw [List.getElem?_eq_getElem h]
  exact List.getElem_mem h
theorem rA_get {L : List Row} {j : Nat} (h : j < L.length) : (rowsL L)[j]'(by rw [rowsL_len]; exact h) = (rA L j).zs := by
  unfold rA rowsL
  rw [List.getElem?_eq_getElem h]
  simp
theorem rowsL_take (L : List Row) (k : Nat) : rowsL (L.take k) = (rowsL L).take k := by simp [rowsL, List.map_take]
theorem rowsL_snoc (L : List Row) (r : Row) : rowsL (L ++ [r]) = rowsL L ++ [r.zs] := by simp [rowsL]
theorem rowsL_all (L : List Row) : (rowsL L).take L.length = rowsL L := by rw [← rowsL_len L, List.take_length]
theorem OkR.below {w w' : World} {r : Row} {B : Nat} (h : OkR w r) (hb : Below B w w') (hB : w.heap.size ≤ B) : OkR w' r := ⟨h.1.below hb hB, h.2⟩
theorem CellsL.below {w w' : World} {A : Option Addr} {L : List Row} {B : Nat} (h : CellsL w A L) (hb : Below B w w') (hB : w.heap.size ≤ B) : CellsL w' A L := fun j hj => by
  obtain ⟨b, off, e, h1, h2⟩ := h j hj
  exact ⟨b, off, e, Nat.lt_of_lt_of_le h1 hb.size, (hb.cell (p := ⟨b, off + j, none⟩) (Nat.lt_of_lt_of_le h1 hB)).trans h2⟩
theorem ReadsL.below {w w' : World} {A : Option Addr} {L : List Row} {B : Nat} (h : ReadsL w A L) (hb : Below B w w') (hB : w.heap.size ≤ B) : ReadsL w' A L :=
  ⟨h.1.below hb hB, fun r hr => (h.2 r hr).below hb hB⟩
theorem CellsL.at {w : World} {A : Option Addr} {L : List Row} (h : CellsL w A L) (k : Nat) (hk : k < L.length) : ∃ b off, A = some ⟨b, off, none⟩ ∧ w.cell? ⟨b, off + k, none⟩ = some (.slice (rA L k).A (rA L k).zs.length (rA L k).cap) := by
  obtain ⟨b, off, e, _, h2⟩ := h k hk
  exact ⟨b, off, e, h2⟩
theorem ReadsL.nil (w : World) (A : Option Addr) : ReadsL w A [] := ⟨fun _ h => absurd h (by simp), fun _ h => by cases h⟩

/-- a row that no append to a list above s turns -/
def FarR (w : World) (s : Nat) (r : Row) : Prop := OkR w r ∧ (r.zs ≠ [] → ∀ b off, r.A = some ⟨b, off, none⟩ → b < s ∨ ∃ cs, w.heap[b]? = some (.cells cs 9 (0, 0)))
theorem FarR.fresh {w : World} {s : Nat} {A : Option Addr} {zs : List Txt} {c : Nat} (h : FreshS w A zs) (hl : zs.length ≤ 100000) : FarR w s ⟨A, zs, c⟩ :=
  ⟨⟨h.1, hl⟩, fun hn b off e => .inr (h.2 hn b off e)⟩
theorem block_of_reads {w : World} {A : Option Addr} {zs : List Txt} (h : ReadsS w A zs) (hn : zs ≠ []) {b off : Nat} (e : A = some ⟨b, off, none⟩) : b < w.heap.size := by
  obtain ⟨b', off', e', h1, _⟩ := h 0 (List.length_pos_iff.2 hn)
  rw [e] at e'
  injection e' with e'
  injection e' with e'
  rw [e']; exact h1
theorem FarR.old {w w0 : World} {s B : Nat} {r : Row} (h : OkR w0 r) (hb : Below B w0 w) (hB : w0.heap.size ≤ B) (hs : w0.heap.size ≤ s) : FarR w s r :=
  ⟨h.below hb hB, fun hn b off e => .inl (Nat.lt_of_lt_of_le (block_of_reads h.1 hn e) hs)⟩
theorem FarR.below {w w' : World} {r : Row} {s B : Nat} (h : FarR w s r) (hb : Below B w w') (hB : w.heap.size ≤ B) : FarR w' s r :=
  ⟨h.1.below hb hB, fun hn b off e => (h.2 hn b off e).imp id fun ⟨cs, hc⟩ => ⟨cs, by
    rw [hb.block b (Nat.lt_of_lt_of_le (block_of_reads h.1.1 hn e) hB)]; exact hc⟩⟩
def OwnL (w : World) (s : Nat) (v : Value) (L : List Row) : Prop := w.ownsRow s 41 1 v L.length (L.map Row.v) ∧ ∀ r ∈ L, FarR w s r
theorem OwnL.nil (w : World) (s : Nat) : OwnL w s (.slice none 0 0) [] := ⟨World.ownsRow_nil _ _ _ _, fun _ h => by cases h⟩
theorem OwnL.below {w w' : World} {s B : Nat} {v : Value} {L : List Row} (h : OwnL w s v L) (hb : Below B w w') (hB : w.heap.size ≤ B) : OwnL w' s v L :=
  ⟨own_below h.1 hb hB, fun r hr => (h.2 r hr).below hb hB⟩
theorem OwnL.reads {w : World} {s : Nat} {v : Value} {L : List Row} (h : OwnL w s v L) : ∃ A c, v = .slice A L.length c ∧ ReadsL w A L := by
  have ho := h.1
  rcases ho.2 with ⟨rfl, h0⟩ | ⟨g, cap, cur, rfl, _, hg, _⟩
  · obtain rfl : L = [] := List.eq_nil_of_length_eq_zero (by omega)
    exact ⟨none, 0, rfl, ReadsL.nil _ _⟩
  · refine ⟨_, cap, rfl, fun j hj => ?_, fun r hr => (h.2 r hr).1⟩
    have hc := ho.cellAt j (by omega)
    have e : (L.map Row.v)[j]? = some (rA L j).v := by
      unfold rA
      rw [List.getElem?_map, List.getElem?_eq_getElem hj]
      rfl
    rw [e] at hc
    exact ⟨g, 0, rfl, World.block_lt_of_cell? w ⟨g, j, none⟩ hc, by rw [Nat.zero_add]; exact hc⟩
theorem OwnL.alloc {w : World} {s : Nat} {v : Value} {L : List Row} (h : OwnL w s v L) (o : Obj) : OwnL (w.alloc o) s v L := h.below (B := w.heap.size) ((Below.refl _ _).alloc (Nat.le_refl _) _) (Nat.le_refl _)
theorem FarR.alloc {w : World} {s : Nat} {r : Row} (h : FarR w s r) (o : Obj) : FarR (w.alloc o) s r := h.below (B := w.heap.size) ((Below.refl _ _).alloc (Nat.le_refl _) _) (Nat.le_refl _)
theorem cell_new1 (w : World) (x : Value) (t : TypeId) : (w.alloc (.cells #[x] t)).cell? ⟨w.heap.size, 0, none⟩ = some x := by simp
theorem size_le_alloc {w : World} {g : Nat} (h : g ≤ w.heap.size) (o : Obj) : g ≤ (w.alloc o).heap.size := by rw [World.size_alloc]; omega
theorem infoR : (Tryd.prog.info? 41).map (fun i => (i.zero, i.size, i.bytes)) = some (some (.slice none 0 0), 1, 24) := by kernel_rfl
theorem own_grown {w w' : World} {s : Nat} {v : Value} {L : List Row} (h : OwnL w s v L) (hg : w.grownBy w' v.ownBlock) (r : Row) (hr : FarR w s r) : FarR w' s r := by
  have key : r.zs ≠ [] → ∀ b off, r.A = some ⟨b, off, none⟩ → w'.heap[b]? = w.heap[b]? := fun hn b off e => by
    refine hg.block b (block_of_reads hr.1.1 hn e) fun e2 => ?_
    rcases h.1.2 with ⟨e1, _⟩ | ⟨g, cap, cur, e1, hb, h2, _⟩
    · rw [e1] at e2; cases e2
    · rw [e1] at e2
      have e3 : g = b := by simpa [Value.ownBlock] using e2.symm
      subst e3
      rcases hr.2 hn _ off e with h3 | ⟨cs, h3⟩
      · omega
      · rw [h2] at h3
        simp at h3
  by_cases hn : r.zs = []
  · refine ⟨⟨?_, hr.1.2⟩, fun h => absurd hn h⟩
    rw [hn]
    exact ReadsS.nil _ _
  · refine ⟨⟨fun j hj => ?_, hr.1.2⟩, fun hn' b off e => (hr.2 hn' b off e).imp id fun ⟨cs, hc⟩ => ⟨cs, by rw [key hn b off e]; exact hc⟩⟩
    obtain ⟨b, off, e, h1, h2⟩ := hr.1.1 j hj
    have kb := key hn b off e
    refine ⟨b, off, e, ?_, ?_⟩
    · rcases Nat.lt_or_ge b w'.heap.size with h3 | h3
      · exact h3
      · rw [Array.getElem?_eq_none h3, Array.getElem?_eq_getElem h1] at kb
        cases kb
    · rw [← h2]
      simp only [World.cell?, kb]
theorem own_snoc {w w' : World} {s : Nat} {v v' : Value} {L : List Row} (h : OwnL w s v L) (r : Row) (hr : FarR w s r) (hg : w.grownBy w' v.ownBlock) (ho : w'.ownsRow s 41 1 v' (L.length + 1) (L.map Row.v ++ [r.v])) : OwnL w' s v' (L ++ [r]) := by
  refine ⟨?_, fun x hx => ?_⟩
  · rw [List.map_append, List.length_append]
    exact ho
  · rcases List.mem_append.1 hx with hx | hx
    · exact own_grown h hg x (h.2 x hx)
    · simp at hx
      subst hx
      exact own_grown h hg _ hr
/-- one row is appended -/
theorem wpList_row {ops : Array Oper} {rest : List Oper} {o : Oper} {a : Act} {w : World} {Q : Exit → Act → World → Prop} (hgd : o.guard = none) (s x : Operand)
    (ho : o.op = .call { callee := .builtin .append, args := #[s, x], argTypes := #[22, 22] })
    (base : Nat) (v : Value) (L : List Row) (r : Row) (hs : a.eval s = v) (hO : OwnL w base v L) (g : Nat) (hx : a.eval x = .slice (some ⟨g, 0, none⟩) 1 1)
    (hc : w.cell? ⟨g, 0, none⟩ = some r.v) (hr : FarR w base r) (hl : L.length ≤ 100000) (hbase : base ≤ w.heap.size)
    (h : ∀ v' w', OwnL w' base v' (L ++ [r]) → Below base w w' → wpList Tryd.prog ops Q rest (a.put o.dst v') w') : wpList Tryd.prog ops Q (o :: rest) a w := by
  obtain ⟨i, hi, hz, h1, h2⟩ := info_parts infoR
  refine wpList_append_own _ hgd s x 22 ho base 41 i (.slice none 0 0) 1 24 Tryd.underlying22 hi hz h1 h2 rfl (by decide) v L.length (L.map Row.v) hs hO.1 ⟨g, 0, none⟩ 1 1 [r.v] hx rfl ?_ ?_ (by unfold maxLen; omega) (by omega) hbase ?_
  · intro j u hj
    cases j with
    | zero => simp at hj; subst hj; simpa [Addr.add] using hc
    | succ j => simp at hj
  · intro u hu
    simp at hu
    subst hu
    simp [Value.oneCell', Row.v]
  · intro v' w' hown hgrow _
    refine h v' w' (own_snoc hO r hr hgrow hown) ((Below.refl base w).grown hgrow hbase fun q e => ?_)
    rcases hO.1.2 with ⟨e1, _⟩ | ⟨g', cap, cur, e1, hb, _⟩
    · rw [e1] at e; cases e
    · rw [e1] at e
      have : q = g' := by simpa [Value.ownBlock] using e.symm
      omega
end Go.Proofs.YtgjgohnomophnaaDoor
