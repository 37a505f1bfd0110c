/- Transition systems in memory. -/
import Derived.Test.YthcbcgaekbmoaaaRM
import Derived.Test.YthcbcgaekbmoaaaB
import Derived.Lib.OwnBridge
namespace Go.Proofs.Ythcbcgaekbmoaaa
open Go.RowKit

structure SysV where
  st : Int
  EA : Option Addr
  el : Nat
  ev : Nat → ByteArray
  ec : Nat
  AA : Option Addr
  ar : List EdgeV
  ac : Nat
def RdS (w : World) (A : Option Addr) (n : Nat) (f : Nat → ByteArray) : Prop := ∀ j, j < n → ∃ b off, A = some ⟨b, off, none⟩ ∧ b < w.heap.size ∧ w.cell? ⟨b, off + j, none⟩ = some (.string (f j))
theorem RdS.below {w w' : World} {A : Option Addr} {n : Nat} {f : Nat → ByteArray} {B : Nat} (h : RdS w A n f) (hb : Below B w w') (hB : w.heap.size ≤ B) : RdS w' A n f := fun j hj => by
  obtain ⟨b, off, e, h1, h2⟩ := h j hj
  exact ⟨b, off, e, Nat.lt_of_lt_of_le h1 hb.size, (hb.cell (p := ⟨b, off + j, none⟩) (Nat.lt_of_lt_of_le h1 hB)).trans h2⟩
def ReadsE (w : World) (A : Option Addr) (l : List EdgeV) : Prop := ∀ j, j < l.length → ∃ b off, A = some ⟨b, off, none⟩ ∧ b < w.heap.size ∧
  w.cell? ⟨b, off + j * 3, none⟩ = some (.int .i64 (eA l j).f) ∧ w.cell? ⟨b, off + j * 3 + 1, none⟩ = some (.int .i64 (eA l j).t) ∧ w.cell? ⟨b, off + j * 3 + 2, none⟩ = some (.int .i64 (eA l j).o)
theorem ReadsE.below {w w' : World} {A : Option Addr} {l : List EdgeV} {B : Nat} (h : ReadsE w A l) (hb : Below B w w') (hB : w.heap.size ≤ B) : ReadsE w' A l := fun j hj => by
  obtain ⟨b, off, e, h1, c0, c1, c2⟩ := h j hj
  have k : ∀ o, w'.cell? ⟨b, o, none⟩ = w.cell? ⟨b, o, none⟩ := fun o => hb.cell (p := ⟨b, o, none⟩) (Nat.lt_of_lt_of_le h1 hB)
  exact ⟨b, off, e, Nat.lt_of_lt_of_le h1 hb.size, (k _).trans c0, (k _).trans c1, (k _).trans c2⟩
theorem ReadsE.nil (w : World) (A : Option Addr) : ReadsE w A [] := fun _ h => absurd h (by simp)
/-- a system, however large -/
structure SysW (w : World) (s : SysV) : Prop where
  hel : s.el ≤ maxLen
  hec : s.el ≤ s.ec
  hal : s.ar.length ≤ maxLen
  hsz : ∀ j, j < s.el → (s.ev j).size ≤ maxLen
  rs : RdS w s.EA s.el s.ev
  re : ReadsE w s.AA s.ar
structure SysR (w : World) (s : SysV) : Prop where
  hel : s.el ≤ 70
  hec : s.el ≤ s.ec
  hal : s.ar.length ≤ 400
  hsz : ∀ j, j < s.el → (s.ev j).size ≤ maxLen
  rs : RdS w s.EA s.el s.ev
  re : ReadsE w s.AA s.ar
theorem SysW.below {w w' : World} {s : SysV} {B : Nat} (h : SysW w s) (hb : Below B w w') (hB : w.heap.size ≤ B) : SysW w' s := ⟨h.hel, h.hec, h.hal, h.hsz, h.rs.below hb hB, h.re.below hb hB⟩
theorem SysR.below {w w' : World} {s : SysV} {B : Nat} (h : SysR w s) (hb : Below B w w') (hB : w.heap.size ≤ B) : SysR w' s := ⟨h.hel, h.hec, h.hal, h.hsz, h.rs.below hb hB, h.re.below hb hB⟩
theorem SysW.small {w : World} {s : SysV} (h : SysW w s) (h1 : s.el ≤ 70) (h2 : s.ar.length ≤ 400) : SysR w s := ⟨h1, h.hec, h2, h.hsz, h.rs, h.re⟩
/-! ### which systems are valid -/
def anyN (f : Nat → Bool) (n : Nat) : Bool := (List.range n).any f
theorem anyN_yes {f : Nat → Bool} {n k : Nat} (hk : k < n) (h : f k = true) : anyN f n = true := List.any_eq_true.2 ⟨k, List.mem_range.2 hk, h⟩
theorem anyN_no {f : Nat → Bool} {n : Nat} (h : ∀ j, j < n → f j = false) : anyN f n = false := List.any_eq_false.2 fun k hk => by rw [h k (List.mem_range.1 hk)]; simp
theorem anyN_false {f : Nat → Bool} {n : Nat} : anyN f n = false ↔ ∀ j, j < n → f j = false := by
  constructor
  · intro h j hj
    cases e : f j
    · rfl
    · rw [anyN_yes hj e] at h
      cases h
  · exact anyN_no
def eqS (a b : ByteArray) : Bool := a.toList == b.toList
theorem eqS_comm (a b : ByteArray) : eqS a b = eqS b a := by unfold eqS; rw [Bool.eq_iff_iff, beq_iff_eq, beq_iff_eq]; exact ⟨Eq.symm, Eq.symm⟩
def dupB (s : SysV) (i : Nat) : Bool := anyN (fun j => eqS (s.ev i) (s.ev j)) i
def evBad (s : SysV) (i : Nat) : Bool := !nameB (bytesI (s.ev i)) || dupB s i
def inR (x n : Int) : Bool := decide (0 ≤ x) && decide (x < n)
theorem inR_iff {x n : Int} : inR x n = true ↔ 0 ≤ x ∧ x < n := by unfold inR; simp
def ltE (a b : EdgeV) : Bool := decide (a.f < b.f ∨ (a.f = b.f ∧ (a.t < b.t ∨ (a.t = b.t ∧ a.o < b.o))))
def rgBad (s : SysV) (a : EdgeV) : Bool := !(inR a.f s.st && (inR a.o s.st && inR a.t s.el))
def arBad (s : SysV) (i : Nat) : Bool := rgBad s (eA s.ar i) || (decide (0 < i) && !ltE (eA s.ar (i - 1)) (eA s.ar i))
def okS (s : SysV) : Bool := decide (1 ≤ s.st ∧ s.st ≤ 200 ∧ s.el ≤ 24) && (!anyN (evBad s) s.el && !anyN (arBad s) s.ar.length)
theorem okS_size {s : SysV} (h : ¬ (1 ≤ s.st ∧ s.st ≤ 200 ∧ s.el ≤ 24)) : okS s = false := by unfold okS; rw [decide_eq_false h]; rfl
theorem okS_ev {s : SysV} {i : Nat} (hi : i < s.el) (h : evBad s i = true) : okS s = false := by unfold okS; rw [anyN_yes hi h]; simp
theorem okS_ar {s : SysV} {i : Nat} (hi : i < s.ar.length) (h : arBad s i = true) : okS s = false := by unfold okS; rw [anyN_yes hi h]; simp
theorem okS_yes {s : SysV} (h : 1 ≤ s.st ∧ s.st ≤ 200 ∧ s.el ≤ 24) (h1 : ∀ i, i < s.el → evBad s i = false) (h2 : ∀ i, i < s.ar.length → arBad s i = false) : okS s = true := by
  unfold okS; rw [decide_eq_true h, anyN_no h1, anyN_no h2]; rfl
theorem okS_parts {s : SysV} (h : okS s = true) : 1 ≤ s.st ∧ s.st ≤ 200 ∧ s.el ≤ 24 ∧ ∀ x ∈ s.ar, 0 ≤ x.f ∧ x.f < s.st ∧ 0 ≤ x.o ∧ x.o < s.st ∧ 0 ≤ x.t ∧ x.t < s.el := by
  unfold okS at h
  rw [Bool.and_eq_true, Bool.and_eq_true, Bool.not_eq_true', Bool.not_eq_true', anyN_false, anyN_false] at h
  have h0 := of_decide_eq_true h.1
  refine ⟨h0.1, h0.2.1, h0.2.2, fun x hx => ?_⟩
  obtain ⟨i, hi, rfl⟩ := List.mem_iff_getElem.1 hx
  have h2 := h.2.2 i hi
  unfold arBad at h2
  rw [Bool.or_eq_false_iff] at h2
  have e : eA s.ar i = s.ar[i] := by unfold eA; rw [List.getElem?_eq_getElem hi]; rfl
  have h3 := h2.1
  unfold rgBad at h3
  rw [e, Bool.not_eq_false', Bool.and_eq_true, Bool.and_eq_true, inR_iff, inR_iff, inR_iff] at h3
  exact ⟨h3.1.1, h3.1.2, h3.2.1.1, h3.2.1.2, h3.2.2.1, h3.2.2.2⟩
end Go.Proofs.Ythcbcgaekbmoaaa
