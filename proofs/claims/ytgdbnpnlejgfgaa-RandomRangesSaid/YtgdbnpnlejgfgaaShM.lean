/- Plain lists for the shuffle: no program in sight. -/
import Derived.Test.YtgdbnpnlejgfgaaMath
import Derived.Below
import Derived.Laws.Rows
import Derived.Deep.Draws
namespace Go.Proofs.Ytgdbnpnlejgfgaa
open Go.RowKit

/-- block g is a row of the numbers L, of element type t -/
def RowI (t : TypeId) (g : Nat) (L : List Int) (w : World) : Prop := w.heap[g]? = some (.cells (L.map (Value.int .i64)).toArray t (0, 0))

section
variable {t : TypeId} {g : Nat} {L : List Int} {w w' : World}
theorem RowI.cell (h : RowI t g L w) (i : Nat) (hi : i < L.length) : w.cell? ⟨g, i, none⟩ = some (.int .i64 (L[i]?.getD 0)) := by
  rw [cell_of_row w g i _ t (0, 0) h]
  simp [hi]
theorem RowI.frozen (h : RowI t g L w) (i : Nat) : w.frozen? ⟨g, i, none⟩ = false := by
  unfold RowI at h
  simp [World.frozen?, h]
theorem RowI.put (h : RowI t g L w) (i : Nat) (x : Int) : RowI t g (L.set i x) (w.setCell ⟨g, i, none⟩ (.int .i64 x)) := by
  unfold RowI at h ⊢
  simp [World.setCell, Array.getElem?_modify, h, List.map_set]
theorem RowI.drew (h : RowI t g L w) : RowI t g L w.drew := h
theorem RowI.drewN (h : RowI t g L w) (n : Nat) : RowI t g L (w.drewN n) := h
theorem RowI.below {B : Nat} (h : RowI t g L w) (hb : Below B w w') (hg : g < B) : RowI t g L w' := (hb.block g hg).trans h
end

/-- the slice's address A reads the numbers of a row of the call's own -/
theorem own_reads {w : World} {base : Nat} {e : TypeId} {v : Value} {n : Nat} {l : List Int} (h : w.ownsRow base e 1 v n (l.map (Value.int .i64))) (hn : 1 ≤ n) :
    ∃ A c, v = .slice A n c ∧ l.length = n ∧ ∀ j, j < l.length → ∃ b off, A = some ⟨b, off, none⟩ ∧ w.cell? ⟨b, off + j, none⟩ = some (.int .i64 (l[j]?.getD 0)) := by
  have hl : l.length = n := by have := h.1; simpa using this
  rcases h.2 with ⟨_, h0⟩ | ⟨g, cap, cur, rfl, _⟩
  · omega
  · refine ⟨_, _, rfl, hl, fun j hj => ⟨_, _, rfl, ?_⟩⟩
    rw [Nat.zero_add, h.cellAt j (by omega)]
    simp [hj]

/-- the first k places hold their numbers, the others 0 -/
def mkL (n k : Nat) : List Int := (List.range n).map fun j => if j < k then (j : Int) else 0
theorem mkL_len (n k : Nat) : (mkL n k).length = n := by simp [mkL]
theorem mkL_set (n k : Nat) : (mkL n k).set k k = mkL n (k + 1) := by
  apply List.ext_getElem
  · simp [mkL]
  · intro i h1 h2
    simp only [mkL, List.getElem_set, List.getElem_map, List.getElem_range]
    by_cases h : k = i
    · subst h; simp
    · rw [if_neg h]
      by_cases h3 : i < k
      · rw [if_pos h3, if_pos (by omega)]
      · rw [if_neg h3, if_neg (by omega)]

theorem mkL_zero (n : Nat) : mkL n 0 = List.replicate n 0 := by
  apply List.ext_getElem
  · simp [mkL]
  · intro i h1 h2
    simp [mkL]
theorem row_start {t : TypeId} {n : Nat} {w W : World} (h : w.alloc (.cells (List.replicate n (Value.int .i64 0)).toArray t) = W) : RowI t w.heap.size (mkL n 0) W ∧ Below w.heap.size w W := by
  subst h
  refine ⟨?_, (Below.refl _ _).alloc (Nat.le_refl _) _⟩
  unfold RowI
  rw [mkL_zero, List.map_replicate]
  exact heap_alloc_new w _
theorem mkL_snoc (k : Nat) : mkL (k + 1) (k + 1) = mkL k k ++ [(k : Int)] := by
  apply List.ext_getElem
  · simp [mkL]
  · intro i h1 h2
    simp only [mkL, List.length_map, List.length_range] at h1
    rw [List.getElem_append]
    split
    · rename_i h3
      simp only [mkL, List.length_map, List.length_range] at h3
      simp [mkL, h3, h1]
    · rename_i h3
      simp only [mkL, List.length_map, List.length_range] at h3
      have : i = k := by omega
      subst this
      simp [mkL]
/-- two places exchanged -/
def swapL (l : List Int) (i j : Nat) : List Int := (l.set i (l[j]?.getD 0)).set j (l[i]?.getD 0)
theorem swapL_len (l : List Int) (i j : Nat) : (swapL l i j).length = l.length := by simp [swapL]
theorem swapL_take (l : List Int) (i j n : Nat) (hi : i < n) (hj : j < n) : (swapL l i j).take n = swapL (l.take n) i j := by
  unfold swapL
  rw [List.take_set, List.take_set, List.getElem?_take_of_lt hi, List.getElem?_take_of_lt hj]
/-- the exchanges from place i down, with the numbers from state s on -/
def shufF (o st : Nat → Nat) : Nat → List Int → Nat → List Int × Nat
  | 0, l, s => (l, s)
  | i + 1, l, s => shufF o st i (swapL l (i + 1) (o (st s) % (i + 2))) (st s)
theorem shufF_step (o st : Nat → Nat) (i : Nat) (l : List Int) (s : Nat) (hi : 1 ≤ i) : shufF o st i l s = shufF o st (i - 1) (swapL l i (o (st s) % (i + 1))) (st s) := by
  obtain ⟨k, rfl⟩ : ∃ k, i = k + 1 := ⟨i - 1, by omega⟩
  rfl
theorem swapL_self (l : List Int) (i : Nat) : swapL l i i = (l.set i (l[i]?.getD 0)) := by simp [swapL]
theorem shufF_take (o st : Nat → Nat) (n : Nat) : ∀ (i : Nat) (l : List Int) (s : Nat), i < n → ((shufF o st i l s).1).take n = (shufF o st i (l.take n) s).1 ∧ (shufF o st i l s).2 = (shufF o st i (l.take n) s).2 := by
  intro i
  induction i with
  | zero => intro l s _; exact ⟨rfl, rfl⟩
  | succ i ih =>
    intro l s hi
    have hj : o (st s) % (i + 2) < n := Nat.lt_of_lt_of_le (Nat.mod_lt _ (by omega)) (by omega)
    simp only [shufF]
    rw [← swapL_take l (i + 1) _ n hi hj]
    exact ih _ _ (by omega)
theorem mkL_take (k : Nat) (h : k ≤ 64) : (mkL 64 k).take k = mkL k k := by
  apply List.ext_getElem
  · simp [mkL]; omega
  · intro i h1 h2
    simp [mkL] at h2 ⊢

end Go.Proofs.Ytgdbnpnlejgfgaa
