/- The memory of digraph's heap. -/
import Derived.Test.YtdfljeonoallfaaGHI
namespace Go.Proofs.Ytdfljeonoallfaa
open Go.RowKit Go.Deep

/-- a heap of numbers in memory: the pointer's cell holds a slice of its own -/
structure HeapS (W : World) (Q base g m c : Nat) (q : Nat → Int) : Prop where
  cell : W.cell? ⟨Q, 0, none⟩ = some (.slice (some ⟨g, 0, none⟩) m c)
  frz : W.frozen? ⟨Q, 0, none⟩ = false
  own : W.ownsRow base 3 1 (.slice (some ⟨g, 0, none⟩) m c) m ((tab m q).map (Value.int .i64))
  lt : Q ≠ g
  hm : m ≤ 100000
theorem HeapS.get {W : World} {Q base g m c : Nat} {q : Nat → Int} (h : HeapS W Q base g m c q) {i : Nat} (hi : i < m) : W.cell? ⟨g, i, none⟩ = some (.int .i64 (q i)) ∧ W.frozen? ⟨g, i, none⟩ = false := by
  have h2 := own_cell h.own i (by rw [tab_len]; exact hi)
  rw [tab_at _ _ _ hi] at h2
  exact ⟨h2, h.own.frozenAt i⟩
theorem HeapS.put {W : World} {Q base g m c : Nat} {q : Nat → Int} (h : HeapS W Q base g m c q) (i : Nat) (x : Int) : HeapS (W.setCell ⟨g, i, none⟩ (.int .i64 x)) Q base g m c (fun j => if j = i then x else q j) where
  cell := by
    have hg := (h.own.lt g rfl).1
    have := h.lt
    exact (World.cell?_setCell_other _ _ _ _ (by intro e; injection e with e; exact this e.symm)).trans h.cell
  frz := by
    have hg := (h.own.lt g rfl).1
    have := h.lt
    have e : (W.setCell ⟨g, i, none⟩ (.int .i64 x)).heap[Q]? = W.heap[Q]? := blk_setCell_other _ _ _ _ (by show Q ≠ g; omega)
    have h2 := h.frz
    unfold World.frozen? at h2 ⊢
    rw [e]
    exact h2
  own := by
    have h2 := own_put h.own i x
    rw [tab_put] at h2
    exact h2
  lt := h.lt
  hm := h.hm
theorem HeapS.drew {W : World} {Q base g m c : Nat} {q : Nat → Int} (h : HeapS W Q base g m c q) : HeapS W.drew Q base g m c q := ⟨h.cell, h.frz, h.own, h.lt, h.hm⟩
theorem HeapS.swap {W : World} {Q base g m c : Nat} {q : Nat → Int} (h : HeapS W Q base g m c q) (i j : Nat) : HeapS ((W.setCell ⟨g, i, none⟩ (.int .i64 (q j))).setCell ⟨g, j, none⟩ (.int .i64 (q i))).drew Q base g m c (swpH q i j) := by
  have h2 := ((h.put i (q j)).put j (q i)).drew
  have e : (fun k => if k = j then q i else if k = i then q j else q k) = swpH q i j := funext fun k => by
    unfold swpH
    by_cases e1 : k = j
    · by_cases e2 : k = i
      · rw [if_pos e1, if_pos e2, ← e1, ← e2]
      · rw [if_pos e1, if_neg e2, if_pos e1]
    · rw [if_neg e1]
      by_cases e2 : k = i
      · rw [if_pos e2, if_pos e2]
      · rw [if_neg e2, if_neg e2, if_neg e1]
  rw [e] at h2
  exact h2
theorem HeapS.below {W W' : World} {Q base g m c : Nat} {q : Nat → Int} (h : HeapS W Q base g m c q) (hb : Below W.heap.size W W') : HeapS W' Q base g m c q := by
  have hg := h.own.lt g rfl
  have hq := World.block_lt_of_cell? W ⟨Q, 0, none⟩ h.cell
  have hq : Q < W.heap.size := hq
  have e : W'.heap[Q]? = W.heap[Q]? := hb.block Q (by omega)
  refine ⟨(hb.cell (p := ⟨Q, 0, none⟩) (by show Q < W.heap.size; omega)).trans h.cell, ?_, own_below h.own hb (Nat.le_refl _), h.lt, h.hm⟩
  have h2 := h.frz
  unfold World.frozen? at h2 ⊢
  rw [e]
  exact h2
theorem HeapS.less {W : World} {Q base g m c : Nat} {q : Nat → Int} (h : HeapS W Q base g m c q) {i j : Nat} (hi : i < m) (hj : j < m) : Calls Try.prog 63 #[.slice (some ⟨g, 0, none⟩) m c, .int .i64 (i : Nat), .int .i64 (j : Nat)] W (VPost W.heap.size W (.bool (decide (q i < q j)))) := by
  have hm := h.hm
  obtain ⟨A, c', e1, h1⟩ := ReadsV.own h.own
  injection e1 with e1
  rw [← e1] at h1
  have h2 := qless_any (some ⟨g, 0, none⟩) (tab m q) c i j W h1 (by rw [tab_len]; omega) (by rw [tab_len]; omega) (by rw [tab_len]; omega)
  rw [tab_len, tab_at _ _ _ hi, tab_at _ _ _ hj] at h2
  exact h2
/-- the same numbers, each as often once -/
def SameH (q q' : Nat → Int) (m : Nat) : Prop := (∀ x, (∃ k, k < m ∧ q' k = x) ↔ ∃ k, k < m ∧ q k = x) ∧ ((∀ a b, a < m → b < m → q a = q b → a = b) → ∀ a b, a < m → b < m → q' a = q' b → a = b)
theorem SameH.refl (q : Nat → Int) (m : Nat) : SameH q q m := ⟨fun _ => Iff.rfl, fun h => h⟩
theorem SameH.swap {q q' : Nat → Int} {m i j : Nat} (h : SameH q q' m) (hi : i < m) (hj : j < m) : SameH q (swpH q' i j) m := ⟨fun x => (swpH_mem hi hj x).trans (h.1 x), fun k => swpH_inj hi hj (h.2 k)⟩
end Go.Proofs.Ytdfljeonoallfaa
