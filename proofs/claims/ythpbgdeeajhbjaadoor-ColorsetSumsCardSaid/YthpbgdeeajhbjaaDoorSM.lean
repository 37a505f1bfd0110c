/- Plain lists for sums and differences: no walk. -/
import Derived.Test.YthpbgdeeajhbjaaDoorO
import Derived.Below
import Derived.Laws.Rows
import Derived.Laws.OwnMore
import Derived.Deep.Draws
import Derived.OwnWalk
namespace Go.Proofs.YthpbgdeeajhbjaaDoor
open Go.RowKit

def at0 (L : List Int) (k : Nat) : Int := L[k]?.getD 0
def In64 (L : List Int) : Prop := ∀ x ∈ L, -9223372036854775808 ≤ x ∧ x ≤ 9223372036854775807
theorem In64.at {L : List Int} (h : In64 L) (k : Nat) : -9223372036854775808 ≤ at0 L k ∧ at0 L k ≤ 9223372036854775807 := by
  unfold at0
  by_cases hk : k < L.length
  · rw [List.getElem?_eq_getElem hk]; exact h _ (List.getElem_mem hk)
  · rw [List.getElem?_eq_none (by omega)]; simp
def ReadsV (w : World) (A : Option Addr) (zs : List Int) : Prop :=
  ∀ j, j < zs.length → ∃ b off, A = some ⟨b, off, none⟩ ∧ b < w.heap.size ∧ w.cell? ⟨b, off + j, none⟩ = some (.int .i64 (at0 zs j))
theorem ReadsV.nil (w : World) (A : Option Addr) : ReadsV w A [] := fun _ h => absurd h (by simp)
theorem ReadsV.below {w w' : World} {A : Option Addr} {zs : List Int} {B : Nat} (h : ReadsV w A zs) (hb : Below B w w') (hB : w.heap.size ≤ B) : ReadsV w' A zs := fun j hj => by
  obtain ⟨b, off, e, h1, h2⟩ := h j hj
  exact ⟨b, off, e, Nat.lt_of_lt_of_le h1 hb.size, (hb.cell (p := ⟨b, off + j, none⟩) (Nat.lt_of_lt_of_le h1 hB)).trans h2⟩
theorem ReadsV.alloc {w : World} {A : Option Addr} {zs : List Int} (h : ReadsV w A zs) (o : Obj) : ReadsV (w.alloc o) A zs := h.below (B := w.heap.size) ((Below.refl _ _).alloc (Nat.le_refl _) _) (Nat.le_refl _)
theorem ReadsV.own {w : World} {base : Nat} {e : TypeId} {v : Value} {n : Nat} {L : List Int} (h : w.ownsRow base e 1 v n (L.map (Value.int .i64))) : ∃ A c, v = .slice A L.length c ∧ ReadsV w A L := by
  have hl : L.length = n := by have := h.1; simpa using this
  rcases h.2 with ⟨rfl, h0⟩ | ⟨g, cap, cur, rfl, _, hg, _⟩
  · obtain rfl : L = [] := List.eq_nil_of_length_eq_zero (by omega)
    exact ⟨none, 0, rfl, ReadsV.nil _ _⟩
  · refine ⟨_, _, by rw [hl], fun j hj => ⟨_, _, rfl, ?_, ?_⟩⟩
    · have := h.cellAt j (by omega)
      exact World.block_lt_of_cell? w ⟨g, j, none⟩ (by rw [this]; simp [hj]; rfl)
    · rw [Nat.zero_add, h.cellAt j (by omega)]
      simp [hj, at0]
theorem ReadsV.row {w : World} {g : Nat} {t : TypeId} {cs : Array Value} {zs : List Int} (h : w.heap[g]? = some (.cells cs t (0, 0))) (hz : cs = (zs.map (Value.int .i64)).toArray) : ReadsV w (some ⟨g, 0, none⟩) zs := by
  subst hz
  intro j hj
  have hc := cell_of_row w g j _ t (0, 0) h
  refine ⟨g, 0, rfl, ?_, ?_⟩
  · exact World.block_lt_of_cell? w ⟨g, j, none⟩ (by rw [hc]; simp [hj]; rfl)
  · rw [Nat.zero_add, hc]
    simp [hj, at0]
theorem below_drewN {B : Nat} {a w : World} (h : Below B a w) (n : Nat) : Below B a (w.drewN n) := ⟨h.os, h.tape, h.output, h.size, h.block⟩

theorem list_at0 (a : List Int) : (List.range a.length).map (at0 a) = a := by
  apply List.ext_getElem
  · simp
  · intro i h1 h2
    simp at h1
    simp [at0, h1]
theorem in_nil : In64 [] := fun _ h => by cases h
theorem own_below {w w' : World} {base : Nat} {e : TypeId} {size : Nat} {v : Value} {n : Nat} {xs : List Value} {B : Nat} (h : w.ownsRow base e size v n xs) (hb : Below B w w') (hB : w.heap.size ≤ B) : w'.ownsRow base e size v n xs := by
  refine ⟨h.1, ?_⟩
  rcases h.2 with h0 | ⟨g, cap, cur, h1, h2, h3, h4⟩
  · exact .inl h0
  · refine .inr ⟨g, cap, cur, h1, h2, ?_, h4⟩
    have hg : g < w.heap.size := (h.lt g (by rw [h1]; rfl)).2
    rw [hb.block g (by omega)]
    exact h3
theorem own_put {w : World} {base : Nat} {e : TypeId} {g n cap : Nat} {L : List Int} (h : w.ownsRow base e 1 (.slice (some ⟨g, 0, none⟩) n cap) n (L.map (Value.int .i64))) (i : Nat) (x : Int) :
    (w.setCell ⟨g, i, none⟩ (.int .i64 x)).ownsRow base e 1 (.slice (some ⟨g, 0, none⟩) n cap) n ((L.set i x).map (Value.int .i64)) := by
  rw [List.map_set]
  exact (h.stored i (.int .i64 x)).1
theorem own_cell {w : World} {base : Nat} {e : TypeId} {g n cap : Nat} {L : List Int} (h : w.ownsRow base e 1 (.slice (some ⟨g, 0, none⟩) n cap) n (L.map (Value.int .i64))) (i : Nat) (hi : i < L.length) :
    w.cell? ⟨g, i, none⟩ = some (.int .i64 (at0 L i)) := by
  have hl : L.length = n := by have := h.1; simpa using this
  rw [h.cellAt i (by omega)]
  simp [hi, at0]

theorem at_of_reads {w : World} {A : Option Addr} {zs : List Int} (h : ReadsV w A zs) (k : Nat) (hk : k < zs.length) : ∃ b off, A = some ⟨b, off, none⟩ ∧ w.cell? ⟨b, off + k, none⟩ = some (.int .i64 (at0 zs k)) := by
  obtain ⟨b, off, h1, _, h2⟩ := h k hk
  exact ⟨b, off, h1, h2⟩
theorem multi_iff {zs : List Int} : multiB zs = true ↔ ∀ k, k < zs.length → 0 ≤ at0 zs k ∧ at0 zs k ≤ 1048576 := by
  unfold multiB
  rw [List.all_eq_true]
  constructor
  · intro h k hk
    have := h zs[k] (List.getElem_mem hk)
    unfold at0
    rw [List.getElem?_eq_getElem hk]
    simpa using this
  · intro h x hx
    obtain ⟨k, hk, rfl⟩ := List.getElem_of_mem hx
    have := h k hk
    unfold at0 at this
    rw [List.getElem?_eq_getElem hk] at this
    simpa using this
/-- a list, element by element -/
def tab (n : Nat) (f : Nat → Int) : List Int := (List.range n).map f
theorem tab_len (n : Nat) (f : Nat → Int) : (tab n f).length = n := by simp [tab]
theorem tab_at (n : Nat) (f : Nat → Int) (k : Nat) (hk : k < n) : at0 (tab n f) k = f k := by simp [tab, at0, hk]
theorem tab_self (a : List Int) : tab a.length (at0 a) = a := list_at0 a
theorem tab_congr {n : Nat} {f g : Nat → Int} (h : ∀ k, k < n → f k = g k) : tab n f = tab n g := List.map_congr_left fun k hk => h k (List.mem_range.1 hk)
theorem tab_snoc (k : Nat) (f : Nat → Int) : tab (k + 1) f = tab k f ++ [f k] := by
  unfold tab
  rw [List.range_succ, List.map_append]
  rfl
theorem tab_set (n k : Nat) (f g : Nat → Int) : (tab n fun j => if j < k then f j else g j).set k (f k) = tab n fun j => if j < k + 1 then f j else g j := by
  apply List.ext_getElem
  · simp [tab]
  · intro i h1 h2
    simp only [tab, List.getElem_set, List.getElem_map, List.getElem_range]
    by_cases h : k = i
    · subst h; simp
    · rw [if_neg h]
      by_cases h3 : i < k
      · rw [if_pos h3, if_pos (by omega)]
      · rw [if_neg h3, if_neg (by omega)]
theorem tab_none (n : Nat) (f g : Nat → Int) : (tab n fun j => if j < 0 then f j else g j) = tab n g := tab_congr fun k _ => by rw [if_neg (by omega)]
theorem tab_all (n : Nat) (f g : Nat → Int) : (tab n fun j => if j < n then f j else g j) = tab n f := tab_congr fun k hk => by rw [if_pos hk]
theorem tab_at_set (n k : Nat) (f g : Nat → Int) (hk : k < n) : at0 (tab n fun j => if j < k then f j else g j) k = g k := by rw [tab_at _ _ _ hk, if_neg (by omega)]

def addS (a b : List Int) : List Int := tab a.length fun k => at0 a k + at0 b k
def subS (a b : List Int) : List Int := tab a.length fun k => at0 a k - at0 b k
def addM (a b : List Int) : List Int := if multiB a = true ∧ multiB b = true ∧ a.length = b.length ∧ multiB (addS a b) = true then addS a b else []
def leqM (a b : List Int) : Bool := decide (a.length = b.length) && multiB a && multiB b && (List.range a.length).all fun k => decide (at0 a k ≤ at0 b k)
def subM (a b : List Int) : List Int := if leqM b a = true then subS a b else []
theorem leqM_no {a b : List Int} (h : ¬ (a.length = b.length ∧ multiB a = true ∧ multiB b = true)) : leqM a b = false := by
  unfold leqM
  by_cases h1 : a.length = b.length
  · cases h2 : multiB a
    · simp
    · cases h3 : multiB b
      · simp
      · exact absurd ⟨h1, h2, h3⟩ h
  · simp [h1]
theorem leqM_at {a b : List Int} (k : Nat) (hk : k < a.length) (h : at0 b k < at0 a k) : leqM a b = false := by
  unfold leqM
  rw [Bool.and_eq_false_iff]
  right
  rw [List.all_eq_false]
  exact ⟨k, List.mem_range.2 hk, by simpa using h⟩
theorem leqM_yes {a b : List Int} (hl : a.length = b.length) (ha : multiB a = true) (hb : multiB b = true) (h : ∀ k, k < a.length → at0 a k ≤ at0 b k) : leqM a b = true := by
  unfold leqM
  rw [ha, hb]
  simp only [hl, decide_true, Bool.true_and, List.all_eq_true]
  intro k hk
  have := h k (by rw [hl]; exact List.mem_range.1 hk)
  simpa using this
theorem leqM_of {a b : List Int} (h : leqM a b = true) : a.length = b.length ∧ multiB a = true ∧ multiB b = true ∧ ∀ k, k < a.length → at0 a k ≤ at0 b k := by
  unfold leqM at h
  simp only [Bool.and_eq_true, decide_eq_true_eq, List.all_eq_true] at h
  exact ⟨h.1.1.1, h.1.1.2, h.1.2, fun k hk => by simpa using h.2 k (List.mem_range.2 hk)⟩
/-- what the law on sums looks at -/
theorem add_facts {a b : List Int} (h : 0 < (addM a b).length) : (addM a b).length = a.length ∧ subM (addM a b) b = a ∧ leqM a (addM a b) = true := by
  unfold addM at *
  split at h
  · rename_i c
    obtain ⟨ha, hb, hl, hs⟩ := c
    rw [if_pos ⟨ha, hb, hl, hs⟩]
    have ka := multi_iff.1 ha
    have kb := multi_iff.1 hb
    have e : ∀ k, k < a.length → at0 (addS a b) k = at0 a k + at0 b k := fun k hk => tab_at _ _ k hk
    have el : (addS a b).length = a.length := tab_len _ _
    refine ⟨el, ?_, ?_⟩
    · have hq : leqM b (addS a b) = true := leqM_yes (by rw [el, hl]) hb hs fun k hk => by
        rw [e k (by omega)]
        have := ka k (by omega)
        omega
      unfold subM
      rw [if_pos hq]
      unfold subS
      rw [el]
      refine Eq.trans (tab_congr fun k hk => ?_) (tab_self a)
      rw [e k hk]
      omega
    · refine leqM_yes el.symm ha hs fun k hk => ?_
      rw [e k hk]
      have := kb k (by omega)
      omega
  · simp at h
end Go.Proofs.YthpbgdeeajhbjaaDoor
