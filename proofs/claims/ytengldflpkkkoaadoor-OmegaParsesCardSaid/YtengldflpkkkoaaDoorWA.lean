/- What the row's condition gives; the text of an extended marking. -/
import Derived.Test.YtengldflpkkkoaaDoorH
import Derived.Test.YtengldflpkkkoaaDoorSS
import Derived.Lib.ItoaLen
import Derived.Lib.AppendIntMem
import Derived.Lib.LaidTab
import Derived.Stop.LaidErr
import Derived.MakeChecks
namespace Go.Proofs.YtengldflpkkkoaaDoor
open Go.RowKit

theorem gTab : Tryd.prog.globalNamed "internal/strconv.uint64pow10" = some 0 := by kernel_rfl
theorem gSyn : Tryd.prog.globalNamed "strconv.ErrSyntax" = some 4 := by kernel_rfl
theorem gRng : Tryd.prog.globalNamed "strconv.ErrRange" = some 5 := by kernel_rfl
/-- the tables and the errors of strconv lie where their initialisers laid them -/
structure LaidW (w : World) : Prop where
  tab : Lib.TabIs Tryd.prog w "internal/strconv.uint64pow10" .u64 Lib.pow10Tab
  syn : ∃ tp p, w.var? Tryd.prog "strconv.ErrSyntax" = some #[.iface tp p]
  rng : ∃ tp p, w.var? Tryd.prog "strconv.ErrRange" = some #[.iface tp p]
theorem var_below {n : String} {g : Nat} {w w' : World} {cs : Array Value} {B : Nat} (hg : Tryd.prog.globalNamed n = some g) (h : w.var? Tryd.prog n = some cs) (hb : Below B w w') (hB : w.heap.size ≤ B) : w'.var? Tryd.prog n = some cs := by
  unfold World.var? at h ⊢
  rw [hg] at h ⊢
  simp only [Option.bind_some] at h ⊢
  have hlt : g < w.heap.size := by
    rcases Nat.lt_or_ge g w.heap.size with h' | h'
    · exact h'
    · rw [Array.getElem?_eq_none h'] at h; cases h
  rw [hb.block g (by omega)]
  exact h
theorem LaidW.below {w w' : World} {B : Nat} (h : LaidW w) (hb : Below B w w') (hB : w.heap.size ≤ B) : LaidW w' :=
  ⟨var_below gTab h.tab hb hB, (by obtain ⟨a, b, e⟩ := h.syn; exact ⟨a, b, var_below gSyn e hb hB⟩), (by obtain ⟨a, b, e⟩ := h.rng; exact ⟨a, b, var_below gRng e hb hB⟩)⟩
theorem LaidW.alloc {w : World} (h : LaidW w) (o : Obj) : LaidW (w.alloc o) := h.below ((Below.refl _ _).alloc (Nat.le_refl _) _) (Nat.le_refl _)
/-- the table alone -/
def TabW (w : World) : Prop := Lib.TabIs Tryd.prog w "internal/strconv.uint64pow10" .u64 Lib.pow10Tab
theorem TabW.below {w w' : World} {B : Nat} (h : TabW w) (hb : Below B w w') (hB : w.heap.size ≤ B) : TabW w' := var_below gTab h hb hB
/-- with a base: what lay below g lies -/
def LaidB (g : Nat) (w : World) : Prop := ∃ w0, LaidW w0 ∧ w0.heap.size ≤ g ∧ Below g w0 w
theorem LaidW.base {w : World} (h : LaidW w) : LaidB w.heap.size w := ⟨w, h, Nat.le_refl _, Below.refl _ _⟩

/-- one element -/
def eW (x : Int) : List UInt8 := if x = -1 then [119] else Lib.itoa x
theorem eW_om : eW (-1) = [119] := rfl
theorem eW_no {x : Int} (h : x ≠ -1) : eW x = Lib.itoa x := if_neg h
theorem eW_len (x : Int) (h0 : -9223372036854775808 ≤ x) (h1 : x ≤ 9223372036854775807) : (eW x).length ≤ 21 := by
  unfold eW
  split
  · simp
  · exact Lib.itoa_length_le x h0 h1
/-- the text of the first k elements -/
def textTo (a : List Int) : Nat → List UInt8
  | 0 => []
  | k + 1 => textTo a k ++ (if k = 0 then [] else [44]) ++ eW (at0 a k)
def textL (a : List Int) : List UInt8 := if a = [] then [45] else textTo a a.length
theorem textTo_len (a : List Int) (h : In64 a) : ∀ k, (textTo a k).length ≤ 22 * k
  | 0 => by simp [textTo]
  | k + 1 => by
    have h1 := textTo_len a h k
    have h2 := eW_len (at0 a k) (h.at k).1 (h.at k).2
    simp only [textTo, List.length_append]
    split <;> simp <;> omega
theorem itoa_call (x : Int) (h : -9223372036854775808 ≤ x ∧ x ≤ 9223372036854775807) (w : World) (hL : TabW w) :
    Calls Tryd.prog 26 #[.int .i64 x] w fun e w' => e = .returned (.string ⟨(Lib.itoa x).toArray⟩) ∧ Below w.heap.size w w' := by
  refine (Tryd.strconv_Itoa x h.1 h.2 w hL).mono ?_
  rintro e w' ⟨rfl, k, os, rfl⟩
  exact ⟨rfl, Lib.below_grow _ w (Nat.le_refl _) k os⟩
theorem bytes_size (l : List UInt8) : (⟨l.toArray⟩ : ByteArray).size = l.length := by simp [ByteArray.size]

theorem builder_below {B b : Nat} {bs : List Value} {w w' : World} (h : Lib.IsBuilder 40 5 B b bs w) (hb : Below w.heap.size w w') : Lib.IsBuilder 40 5 B b bs w' := by
  have key : ∀ p, Lib.BuilderAt 40 5 B b p bs w → Lib.BuilderAt 40 5 B b p bs w' := fun p h => by
    have hlt := h.lt
    obtain ⟨hB, v, hbk, hown, hne⟩ := h
    exact ⟨hB, v, (hb.block b hlt).trans hbk, own_below hown hb (Nat.le_refl _), hne⟩
  rcases h with h | h
  · exact .inl (key _ h)
  · exact .inr (key _ h)

end Go.Proofs.YtengldflpkkkoaaDoor
