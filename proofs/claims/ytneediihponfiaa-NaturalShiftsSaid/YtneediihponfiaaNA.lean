/- Plain lists of integers, how memory reads as one, and what the calls of layer 4 compute, in plain words. -/
import Derived.Test.YtneediihponfiaaRows
import Derived.Test.YtneediihponfiaaNM
import Derived.WalkKit
import Derived.WalkLawsBesides
import Derived.WalkSpells
import Derived.Lib.Hide
import Derived.Below
import Derived.Laws.Rows
import Derived.Laws.OwnMore
import Derived.Deep.Draws
import Derived.OwnWalk
import Derived.Maps.AppendAt
import Derived.Deep.QuietTactic
import Derived.BigQuiet
import Derived.StillTailTactics
import Derived.LoopN
import Derived.Deep.RegionHeld3
import Derived.Deep.AppendLies
namespace Go.Proofs.Ytneediihponfiaa
open Go.RowKit

theorem ret_b {a b : Bool} (h : a = b) : Ending.returned (.bool a) = .returned (.bool b) := by rw [h]
def at0 (L : List Int) (k : Nat) : Int := L[k]?.getD 0
def In64 (L : List Int) : Prop := ∀ x ∈ L, -9223372036854775808 ≤ x ∧ x ≤ 9223372036854775807
theorem In64.at {L : List Int} (h : In64 L) (k : Nat) : -9223372036854775808 ≤ at0 L k ∧ at0 L k ≤ 9223372036854775807 := by
  unfold at0
  by_cases hk : k < L.length
  · rw [List.getElem?_eq_getElem hk]; exact h _ (List.getElem_mem hk)
  · rw [List.getElem?_eq_none (by omega)]; simp
def ReadsV (w : World) (A : Option Addr) (zs : List Int) : Prop :=
  ∀ j, j < zs.length → ∃ b off, A = some ⟨b, off, none⟩ ∧ b < w.heap.size ∧ w.cell? ⟨b, off + j, none⟩ = some (.int .i64 (at0 zs j))
theorem ReadsV.nil (w : World) (A : Option Addr) : ReadsV w A [] := fun _ h => absurd h (by simp)
theorem ReadsV.below {w w' : World} {A : Option Addr} {zs : List Int} {B : Nat} (h : ReadsV w A zs) (hb : Below B w w') (hB : w.heap.size ≤ B) : ReadsV w' A zs := fun j hj => by
  obtain ⟨b, off, e, h1, h2⟩ := h j hj
  exact ⟨b, off, e, Nat.lt_of_lt_of_le h1 hb.size, (hb.cell (p := ⟨b, off + j, none⟩) (Nat.lt_of_lt_of_le h1 hB)).trans h2⟩
theorem ReadsV.alloc {w : World} {A : Option Addr} {zs : List Int} (h : ReadsV w A zs) (o : Obj) : ReadsV (w.alloc o) A zs := h.below (B := w.heap.size) ((Below.refl _ _).alloc (Nat.le_refl _) _) (Nat.le_refl _)
theorem ReadsV.own {w : World} {base : Nat} {e : TypeId} {v : Value} {n : Nat} {L : List Int} (h : w.ownsRow base e 1 v n (L.map (Value.int .i64))) : ∃ A c, v = .slice A L.length c ∧ ReadsV w A L := by
  have hl : L.length = n := by have := h.1; simpa using this
  rcases h.2 with ⟨rfl, h0⟩ | ⟨g, cap, cur, rfl, _, hg, _⟩
  · obtain rfl : L = [] := List.eq_nil_of_length_eq_zero (by omega)
    exact ⟨none, 0, rfl, ReadsV.nil _ _⟩
  · refine ⟨_, _, by rw [hl], fun j hj => ⟨_, _, rfl, ?_, ?_⟩⟩
    · have := h.cellAt j (by omega)
      exact World.block_lt_of_cell? w ⟨g, j, none⟩ (by rw [this]; simp [hj]; rfl)
    · rw [Nat.zero_add, h.cellAt j (by omega)]
      simp [hj, at0]
theorem ReadsV.row {w : World} {g : Nat} {t : TypeId} {cs : Array Value} {zs : List Int} (h : w.heap[g]? = some (.cells cs t (0, 0))) (hz : cs = (zs.map (Value.int .i64)).toArray) : ReadsV w (some ⟨g, 0, none⟩) zs := by
  subst hz
  intro j hj
  have hc := cell_of_row w g j _ t (0, 0) h
  refine ⟨g, 0, rfl, ?_, ?_⟩
  · exact World.block_lt_of_cell? w ⟨g, j, none⟩ (by rw [hc]; simp [hj]; rfl)
  · rw [Nat.zero_add, hc]
    simp [hj, at0]
theorem below_drewN {B : Nat} {a w : World} (h : Below B a w) (n : Nat) : Below B a (w.drewN n) := ⟨h.os, h.tape, h.output, h.size, h.block⟩

theorem list_at0 (a : List Int) : (List.range a.length).map (at0 a) = a := by
  apply List.ext_getElem
  · simp
  · intro i h1 h2
    simp at h1
    simp [at0, h1]
theorem in_nil : In64 [] := fun _ h => by cases h
theorem own_below {w w' : World} {base : Nat} {e : TypeId} {size : Nat} {v : Value} {n : Nat} {xs : List Value} {B : Nat} (h : w.ownsRow base e size v n xs) (hb : Below B w w') (hB : w.heap.size ≤ B) : w'.ownsRow base e size v n xs := by
  refine ⟨h.1, ?_⟩
  rcases h.2 with h0 | ⟨g, cap, cur, h1, h2, h3, h4⟩
  · exact .inl h0
  · refine .inr ⟨g, cap, cur, h1, h2, ?_, h4⟩
    have hg : g < w.heap.size := (h.lt g (by rw [h1]; rfl)).2
    rw [hb.block g (by omega)]
    exact h3
theorem own_put {w : World} {base : Nat} {e : TypeId} {g n cap : Nat} {L : List Int} (h : w.ownsRow base e 1 (.slice (some ⟨g, 0, none⟩) n cap) n (L.map (Value.int .i64))) (i : Nat) (x : Int) :
    (w.setCell ⟨g, i, none⟩ (.int .i64 x)).ownsRow base e 1 (.slice (some ⟨g, 0, none⟩) n cap) n ((L.set i x).map (Value.int .i64)) := by
  rw [List.map_set]
  exact (h.stored i (.int .i64 x)).1
theorem own_cell {w : World} {base : Nat} {e : TypeId} {g n cap : Nat} {L : List Int} (h : w.ownsRow base e 1 (.slice (some ⟨g, 0, none⟩) n cap) n (L.map (Value.int .i64))) (i : Nat) (hi : i < L.length) :
    w.cell? ⟨g, i, none⟩ = some (.int .i64 (at0 L i)) := by
  have hl : L.length = n := by have := h.1; simpa using this
  rw [h.cellAt i (by omega)]
  simp [hi, at0]

theorem at_of_reads {w : World} {A : Option Addr} {zs : List Int} (h : ReadsV w A zs) (k : Nat) (hk : k < zs.length) : ∃ b off, A = some ⟨b, off, none⟩ ∧ w.cell? ⟨b, off + k, none⟩ = some (.int .i64 (at0 zs k)) := by
  obtain ⟨b, off, h1, _, h2⟩ := h k hk
  exact ⟨b, off, h1, h2⟩
/-- a list, element by element -/
def tab (n : Nat) (f : Nat → Int) : List Int := (List.range n).map f
theorem tab_len (n : Nat) (f : Nat → Int) : (tab n f).length = n := by simp [tab]
theorem tab_at (n : Nat) (f : Nat → Int) (k : Nat) (hk : k < n) : at0 (tab n f) k = f k := by simp [tab, at0, hk]
theorem tab_self (a : List Int) : tab a.length (at0 a) = a := list_at0 a
theorem tab_congr {n : Nat} {f g : Nat → Int} (h : ∀ k, k < n → f k = g k) : tab n f = tab n g := List.map_congr_left fun k hk => h k (List.mem_range.1 hk)
theorem tab_snoc (k : Nat) (f : Nat → Int) : tab (k + 1) f = tab k f ++ [f k] := by
  unfold tab
  rw [List.range_succ, List.map_append]
  rfl
theorem tab_set (n k : Nat) (f g : Nat → Int) : (tab n fun j => if j < k then f j else g j).set k (f k) = tab n fun j => if j < k + 1 then f j else g j := by
  apply List.ext_getElem
  · simp [tab]
  · intro i h1 h2
    simp only [tab, List.getElem_set, List.getElem_map, List.getElem_range]
    by_cases h : k = i
    · subst h; simp
    · rw [if_neg h]
      by_cases h3 : i < k
      · rw [if_pos h3, if_pos (by omega)]
      · rw [if_neg h3, if_neg (by omega)]
theorem tab_none (n : Nat) (f g : Nat → Int) : (tab n fun j => if j < 0 then f j else g j) = tab n g := tab_congr fun k _ => by rw [if_neg (by omega)]
theorem tab_all (n : Nat) (f g : Nat → Int) : (tab n fun j => if j < n then f j else g j) = tab n f := tab_congr fun k hk => by rw [if_pos hk]
theorem tab_at_set (n k : Nat) (f g : Nat → Int) (hk : k < n) : at0 (tab n fun j => if j < k then f j else g j) k = g k := by rw [tab_at _ _ _ hk, if_neg (by omega)]

theorem info_parts {i0 : Option TypeInfo} {z : Option Value} {s b : Nat} (h : i0.map (fun i => (i.zero, i.size, i.bytes)) = some (z, s, b)) : ∃ i, i0 = some i ∧ i.zero = z ∧ i.size = s ∧ i.bytes = b := by
  cases i0 with
  | none => simp at h
  | some i => simp at h; exact ⟨i, rfl, h.1, h.2.1, h.2.2⟩

theorem infoI : (Try.prog.info? 3).map (fun i => (i.zero, i.size, i.bytes)) = some (some (.int .i64 0), 1, 8) := by kernel_rfl
def BPost (g : Nat) (w : World) (v : Bool) (e : Ending) (w' : World) : Prop := e = .returned (.bool v) ∧ Below g w w'
/-- a list that lies in memory of its own kind -/
def FreshV (w : World) (A : Option Addr) (zs : List Int) : Prop := ReadsV w A zs ∧ (zs ≠ [] → ∀ b off, A = some ⟨b, off, none⟩ → ∃ cs, w.heap[b]? = some (.cells cs 3 (0, 0)))
theorem FreshV.nil (w : World) (A : Option Addr) : FreshV w A [] := ⟨ReadsV.nil w A, fun h => absurd rfl h⟩
theorem FreshV.own {w : World} {base : Nat} {v : Value} {n : Nat} {L : List Int} (h : w.ownsRow base 3 1 v n (L.map (Value.int .i64))) : ∃ A c, v = .slice A L.length c ∧ FreshV w A L := by
  obtain ⟨A, c, e, hr⟩ := ReadsV.own h
  refine ⟨A, c, e, hr, fun hn b off eA => ?_⟩
  rcases h.2 with ⟨rfl, h0⟩ | ⟨g, cap, cur, rfl, _, hg, _⟩
  · injection e with e1
    rw [eA] at e1
    cases e1
  · injection e with e1
    rw [eA] at e1
    injection e1 with e1
    injection e1 with e1
    subst e1
    exact ⟨cur, hg⟩
def IsPost (g : Nat) (w : World) (L : List Int) (e : Ending) (w' : World) : Prop := ∃ A c, e = .returned (.slice A L.length c) ∧ FreshV w' A L ∧ Below g w w'


theorem bound64 {x : Int} (h : -9223372036854775808 ≤ x ∧ x ≤ 9223372036854775807) : wrap64 x = x := by unfold wrap64; omega
def allB (n : Nat) (p : Nat → Bool) : Bool := (List.range n).all p
theorem allB_no {n : Nat} {p : Nat → Bool} (k : Nat) (hk : k < n) (h : p k = false) : allB n p = false := by
  unfold allB
  rw [List.all_eq_false]
  exact ⟨k, List.mem_range.2 hk, by simp [h]⟩
theorem allB_yes {n : Nat} {p : Nat → Bool} (h : ∀ k, k < n → p k = true) : allB n p = true := by
  unfold allB
  rw [List.all_eq_true]
  exact fun k hk => h k (List.mem_range.1 hk)
theorem allB_iff {n : Nat} {p : Nat → Bool} : allB n p = true ↔ ∀ k, k < n → p k = true := by
  unfold allB
  rw [List.all_eq_true]
  exact ⟨fun h k hk => h k (List.mem_range.2 hk), fun h k hk => h k (List.mem_range.1 hk)⟩
theorem list_ext {a b : List Int} (hl : a.length = b.length) (h : ∀ k, k < a.length → at0 a k = at0 b k) : a = b := by
  apply List.ext_getElem hl
  intro i h1 h2
  have := h i h1
  simpa [at0, h1, h2] using this
def firstI (f : Nat → Bool) : Nat → Nat → Int
  | 0, _ => -1
  | n + 1, k => if f k = true then k else firstI f n (k + 1)
theorem firstI_skip (f : Nat → Bool) : ∀ (k n i : Nat), (∀ j, i ≤ j → j < i + k → f j = false) → firstI f (k + n) i = firstI f n (i + k)
  | 0, n, i, _ => by rw [Nat.zero_add, Nat.add_zero]
  | k + 1, n, i, h => by
    rw [show k + 1 + n = (k + n) + 1 from by omega, firstI, if_neg (by rw [h i (Nat.le_refl _) (by omega)]; simp), firstI_skip f k n (i + 1) (fun j h1 h2 => h j (by omega) (by omega))]
    rw [show i + 1 + k = i + (k + 1) from by omega]
theorem firstI_at {f : Nat → Bool} {n k : Nat} (hk : k < n) (h : ∀ j, j < k → f j = false) (ht : f k = true) : firstI f n 0 = k := by
  have := firstI_skip f k (n - k) 0 (fun j _ h2 => h j (by omega))
  rw [show k + (n - k) = n from by omega, show n - k = (n - k - 1) + 1 from by omega, firstI, if_pos (by simpa using ht)] at this
  simpa using this
theorem firstI_none {f : Nat → Bool} {n : Nat} (h : ∀ j, j < n → f j = false) : firstI f n 0 = -1 := by
  have := firstI_skip f n 0 0 (fun j _ h2 => h j (by omega))
  simpa [firstI] using this
theorem firstI_cases (f : Nat → Bool) (n : Nat) : (firstI f n 0 = -1 ∧ ∀ j, j < n → f j = false) ∨ ∃ k, k < n ∧ firstI f n 0 = k ∧ f k = true ∧ ∀ j, j < k → f j = false := by
  by_cases h : ∃ k, k < n ∧ f k = true
  · obtain ⟨k, hk, ht⟩ := h
    have : ∃ m, m < n ∧ f m = true ∧ ∀ j, j < m → f j = false := by
      induction k using Nat.strongRecOn with
      | _ k ih =>
        by_cases h2 : ∃ j, j < k ∧ f j = true
        · obtain ⟨j, hj, hf⟩ := h2
          exact ih j hj (by omega) hf
        · exact ⟨k, hk, ht, fun j hj => by
            cases hf : f j
            · rfl
            · exact absurd ⟨j, hj, hf⟩ h2⟩
    obtain ⟨m, hm, hf, ha⟩ := this
    exact .inr ⟨m, hm, firstI_at hm ha hf, hf, ha⟩
  · have : ∀ j, j < n → f j = false := fun j hj => by
      cases hf : f j
      · rfl
      · exact absurd ⟨j, hj, hf⟩ h
    exact .inl ⟨firstI_none this, this⟩
/-- the first value that is not 0 -/
def anyB (f : Nat → Bool) (n : Nat) : Bool := decide (0 ≤ firstI f n 0)
theorem anyB_yes {f : Nat → Bool} {n k : Nat} (hk : k < n) (ht : f k = true) : anyB f n = true := by
  unfold anyB
  rcases firstI_cases f n with ⟨_, h⟩ | ⟨m, _, e, _, _⟩
  · rw [h k hk] at ht; cases ht
  · rw [e]; simp
theorem anyB_no {f : Nat → Bool} {n : Nat} (h : ∀ j, j < n → f j = false) : anyB f n = false := by
  unfold anyB
  rw [firstI_none h]
  decide
theorem upto_snoc {α : Type} {f : Nat → α} {v : α} {k : Nat} (h : ∀ j, j < k → f j = v) (hk : f k = v) : ∀ j, j < k + 1 → f j = v := fun j hj => by
  by_cases e : j < k
  · exact h j e
  · obtain rfl : j = k := by omega
    exact hk
theorem ret_i {k : IntKind} {a b : Int} (h : a = b) : Ending.returned (.int k a) = .returned (.int k b) := by rw [h]
theorem keepc {w w' : World} {b o : Nat} {v : Value} (h : w.cell? ⟨b, o, none⟩ = some v) (hb : Below w.heap.size w w') : w'.cell? ⟨b, o, none⟩ = some v :=
  (hb.cell (p := ⟨b, o, none⟩) (World.block_lt_of_cell? w ⟨b, o, none⟩ h)).trans h
def VPost (g : Nat) (w : World) (v : Value) (e : Ending) (w' : World) : Prop := e = .returned v ∧ Below g w w'
theorem infoJ : (Try.prog.info? 2).map (fun i => (i.zero, i.size, i.bytes)) = some (some (.int .i64 0), 1, 8) := by kernel_rfl
end Go.Proofs.Ytneediihponfiaa
