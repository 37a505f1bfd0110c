/- Contracts of the two Of, and of the reference's List, Len, Least, Subset, All, Ints, Next. -/
import Derived.Test.YthcbcgaekbmoaaaBtA
import Derived.Laws.Rows
import Derived.Laws.OwnMore
import Derived.Deep.Draws
import Derived.OwnWalk
import Derived.Maps.AppendAt
import Derived.Deep.QuietTactic
import Derived.BigQuiet
namespace Go.Proofs.Ythcbcgaekbmoaaa.Bt
open Go.RowKit

/-! ### words for memory -/
def vN (L : List Nat) : List Value := L.map fun n : Nat => .int .i64 (n : Int)
def vU (L : List Nat) : List Value := L.map fun n : Nat => .int .u64 (n : Int)
def vI (L : List Int) : List Value := L.map fun x => .int .i64 x
theorem vN_len (L : List Nat) : (vN L).length = L.length := by simp [vN]
theorem vU_len (L : List Nat) : (vU L).length = L.length := by simp [vU]
theorem vI_len (L : List Int) : (vI L).length = L.length := by simp [vI]
theorem vN_snoc (L : List Nat) (n : Nat) : vN (L ++ [n]) = vN L ++ [.int .i64 (n : Int)] := by simp [vN]
theorem vU_snoc (L : List Nat) (n : Nat) : vU (L ++ [n]) = vU L ++ [.int .u64 (n : Int)] := by simp [vU]
theorem vN_at {L : List Nat} {k n : Nat} (h : L[k]? = some n) : (vN L)[k]? = some (.int .i64 (n : Int)) := by simp [vN, h]
theorem vU_at {L : List Nat} {k n : Nat} (h : L[k]? = some n) : (vU L)[k]? = some (.int .u64 (n : Int)) := by simp [vU, h]
theorem vI_at {L : List Int} {k : Nat} {n : Int} (h : L[k]? = some n) : (vI L)[k]? = some (.int .i64 n) := by simp [vI, h]
theorem get_of_lt {α : Type} {L : List α} {k : Nat} (h : k < L.length) : ∃ x, L[k]? = some x := ⟨L[k], List.getElem?_eq_getElem h⟩
def Reads (w : World) (A : Option Addr) (vs : List Value) : Prop :=
  ∀ j v, vs[j]? = some v → ∃ b off, A = some ⟨b, off, none⟩ ∧ b < w.heap.size ∧ w.cell? ⟨b, off + j, none⟩ = some v
theorem Reads.nil (w : World) (A : Option Addr) : Reads w A [] := fun _ _ h => by simp at h
theorem Reads.below {w w' : World} {A : Option Addr} {vs : List Value} {B : Nat} (h : Reads w A vs) (hb : Below B w w') (hB : w.heap.size ≤ B) : Reads w' A vs := fun j v hj => by
  obtain ⟨b, off, e, h1, h2⟩ := h j v hj
  exact ⟨b, off, e, Nat.lt_of_lt_of_le h1 hb.size, (hb.cell (p := ⟨b, off + j, none⟩) (Nat.lt_of_lt_of_le h1 hB)).trans h2⟩
theorem Reads.alloc {w : World} {A : Option Addr} {vs : List Value} (h : Reads w A vs) (o : Obj) : Reads (w.alloc o) A vs := h.below (B := w.heap.size) ((Below.refl _ _).alloc (Nat.le_refl _) _) (Nat.le_refl _)
theorem Reads.own {w : World} {base : Nat} {e : TypeId} {v : Value} {n : Nat} {vs : List Value} (h : w.ownsRow base e 1 v n vs) : vs.length = n ∧ ∃ A c, v = .slice A n c ∧ Reads w A vs := by
  have hl : vs.length = n := by have := h.1; simpa using this
  refine ⟨hl, ?_⟩
  rcases h.2 with ⟨rfl, h0⟩ | ⟨g, cap, cur, rfl, _, hg, _⟩
  · obtain rfl : vs = [] := List.eq_nil_of_length_eq_zero (by omega)
    exact ⟨none, 0, by rw [h0], Reads.nil _ _⟩
  · refine ⟨_, _, rfl, fun j u hj => ⟨_, _, rfl, ?_, ?_⟩⟩
    · have hjl : j < vs.length := (List.getElem?_eq_some_iff.1 hj).1
      have := h.cellAt j (by omega)
      exact World.block_lt_of_cell? w ⟨g, j, none⟩ (by rw [this]; simp [hjl]; rfl)
    · have hjl : j < vs.length := (List.getElem?_eq_some_iff.1 hj).1
      rw [Nat.zero_add, h.cellAt j (by omega), hj]
theorem Reads.at_ {w : World} {A : Option Addr} {vs : List Value} {k : Nat} {v : Value} (h : Reads w A vs) (hk : vs[k]? = some v) : ∃ b off, A = some ⟨b, off, none⟩ ∧ w.cell? ⟨b, off + k, none⟩ = some v := by
  obtain ⟨b, off, h1, _, h2⟩ := h k v hk
  exact ⟨b, off, h1, h2⟩
theorem Reads.drewN {w : World} {A : Option Addr} {vs : List Value} (h : Reads w A vs) (n : Nat) : Reads (w.drewN n) A vs := h
theorem below_drewN {B : Nat} {a w : World} (h : Below B a w) (n : Nat) : Below B a (w.drewN n) := ⟨h.os, h.tape, h.output, h.size, h.block⟩
theorem info_parts {i0 : Option TypeInfo} {z : Option Value} {s b : Nat} (h : i0.map (fun i => (i.zero, i.size, i.bytes)) = some (z, s, b)) : ∃ i, i0 = some i ∧ i.zero = z ∧ i.size = s ∧ i.bytes = b := by
  cases i0 with
  | none => simp at h
  | some i => simp at h; exact ⟨i, rfl, h.1, h.2.1, h.2.2⟩
theorem infoI : (Try.prog.info? 3).map (fun i => (i.zero, i.size, i.bytes)) = some (some (.int .i64 0), 1, 8) := by kernel_rfl
theorem infoU : (Try.prog.info? 75).map (fun i => (i.zero, i.size, i.bytes)) = some (some (.int .u64 0), 1, 8) := by kernel_rfl
theorem one_cellI (x : Int) : ∀ u ∈ [Value.int .i64 x], u.oneCell' = true := by simp [Value.oneCell']
theorem one_cellU (x : Int) : ∀ u ∈ [Value.int .u64 x], u.oneCell' = true := by simp [Value.oneCell']

/-- a slice that reads as vs -/
def ListPost (g : Nat) (w : World) (vs : List Value) (e : Ending) (w' : World) : Prop := ∃ A c, e = .returned (.slice A vs.length c) ∧ Reads w' A vs ∧ Below g w w'
def IntPost (g : Nat) (w : World) (x : Int) (e : Ending) (w' : World) : Prop := e = .returned (.int .i64 x) ∧ Below g w w'
def BoolPost (g : Nat) (w : World) (x : Bool) (e : Ending) (w' : World) : Prop := e = .returned (.bool x) ∧ Below g w w'

/-! ### Of -/
theorem take_snoc {α : Type} {L : List α} {k : Nat} {x : α} (h : L[k]? = some x) : L.take (k + 1) = L.take k ++ [x] := by rw [List.take_add_one, h]; rfl
def lstK (s k : Nat) : List Nat := (List.range k).filter fun i => s.testBit i
theorem lstK_yes {s k : Nat} (h : s.testBit k = true) : lstK s (k + 1) = lstK s k ++ [k] := by
  unfold lstK; rw [List.range_succ, List.filter_append]; simp [h]
theorem lstK_no {s k : Nat} (h : s.testBit k = false) : lstK s (k + 1) = lstK s k := by
  unfold lstK; rw [List.range_succ, List.filter_append]; simp [h]
theorem lstK_le (s k : Nat) : (lstK s k).length ≤ k := by
  have := List.length_filter_le (fun i => s.testBit i) (List.range k)
  simpa [lstK] using this
def leastV (s : Nat) : Int := match lst s with | [] => -1 | x :: _ => (x : Int)
end Go.Proofs.Ythcbcgaekbmoaaa.Bt
