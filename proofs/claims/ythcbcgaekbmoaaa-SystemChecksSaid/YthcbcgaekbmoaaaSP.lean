/- The example. -/
import Derived.Test.YthcbcgaekbmoaaaSO
import Derived.Test.YthcbcgaekbmoaaaSB
import Derived.Test.YthcbcgaekbmoaaaSE
import Derived.Test.YthcbcgaekbmoaaaSG
namespace Go.Proofs.Ythcbcgaekbmoaaa
open Go.RowKit Go.Deep

/-- the example's list of arcs -/
def Ac (w : World) (b : Nat) : Prop := w.heap[b]? = some (.cells #[.int .i64 0, .int .i64 0, .int .i64 1, .int .i64 1, .int .i64 1, .int .i64 0] 43 (0, 0))
theorem Ac.lt {w : World} {b : Nat} (h : Ac w b) : b < w.heap.size := (Array.getElem?_eq_some_iff.1 h).1
theorem Ac.below {w w' : World} {b g : Nat} (h : Ac w b) (hb : Below g w w') (hg : b < g) : Ac w' b := (hb.block b hg).trans h
def cycS (e a : Nat) : SysV := ⟨2, some ⟨e, 0, none⟩, 2, fun j => if j = 0 then ⟨#[97]⟩ else ⟨#[98]⟩, 2, some ⟨a, 0, none⟩, [⟨0, 0, 1⟩, ⟨1, 1, 0⟩], 2⟩
theorem cyc_sys {w : World} {e a : Nat} (h1 : Ab w e) (h2 : Ac w a) : SysR w (cycS e a) where
  hel := by show (2 : Nat) ≤ 70; decide
  hec := Nat.le_refl _
  hal := by show (2 : Nat) ≤ 400; decide
  hsz := fun j hj => by
    show (if j = 0 then (⟨#[97]⟩ : ByteArray) else ⟨#[98]⟩).size ≤ maxLen
    split <;> (show (1 : Nat) ≤ maxLen; decide)
  rs := fun j hj => by
    refine ⟨e, 0, rfl, h1.lt, ?_⟩
    rcases (show j = 0 ∨ j = 1 by have : j < 2 := hj; omega) with rfl | rfl
    · exact h1.c0
    · exact h1.c1
  re := fun j hj => by
    refine ⟨a, 0, rfl, h2.lt, ?_⟩
    rcases (show j = 0 ∨ j = 1 by have : j < 2 := hj; omega) with rfl | rfl <;> refine ⟨?_, ?_, ?_⟩ <;> simp [World.cell?, show w.heap[a]? = _ from h2] <;> rfl
def CycP (g : Nat) (w : World) (e : Ending) (w' : World) : Prop := ∃ q r, e = .returned (.agg #[.int .i64 2, .slice (some ⟨q, 0, none⟩) 2 2, .slice (some ⟨r, 0, none⟩) 2 2]) ∧ Ab w' q ∧ Ac w' r ∧ g ≤ q ∧ g ≤ r ∧ Below g w w'
set_option maxHeartbeats 4000000 in
set_option maxRecDepth 100000 in
theorem cycle_any (w : World) : Calls Try.prog 19 #[] w (CycP w.heap.size w) := by
  go_enter Try.func19, Try.ntmps19
  go_wp2_with fail
  have hq : ∀ (A B C : Obj), (((w.alloc A).alloc B).alloc C).heap[w.heap.size]? = some A := fun A B C => by
    rw [heap_alloc_old _ _ (by rw [World.size_alloc, World.size_alloc]; omega), heap_alloc_old _ _ (by rw [World.size_alloc]; omega)]
    exact heap_alloc_new w A
  refine bodyPost_ret (results_cell_row rfl _ _ w.heap.size 25 _ (0, 0) _ (by rfl) (hq _ _ _) Try.underlying25 (by rfl) (by kernel_rfl)) rfl ?_
  refine ⟨_, _, rfl, ?_, ?_, by omega, by omega, (((Below.refl _ _).alloc (Nat.le_refl _) _).alloc (by rw [World.size_alloc]; omega) _).alloc (by rw [World.size_alloc, World.size_alloc]; omega) _⟩
  · show (World.heap _)[_]? = _
    rw [heap_alloc_old _ _ (by rw [World.size_alloc, World.size_alloc]; omega)]
    have := heap_alloc_new (w.alloc (.cells #[Value.int IntKind.i64 2, Value.slice (some { block := w.heap.size + 1, off := 0 }) 2 2, Value.slice (some { block := w.heap.size + 1 + 1, off := 0 }) 2 2] 25)) (.cells #[.string ⟨#[97]⟩, .string ⟨#[98]⟩] 9)
    rw [World.size_alloc] at this
    exact this
  · have := heap_alloc_new ((w.alloc (.cells #[Value.int IntKind.i64 2, Value.slice (some { block := w.heap.size + 1, off := 0 }) 2 2, Value.slice (some { block := w.heap.size + 1 + 1, off := 0 }) 2 2] 25)).alloc (.cells #[.string ⟨#[97]⟩, .string ⟨#[98]⟩] 9)) (.cells #[.int .i64 0, .int .i64 0, .int .i64 1, .int .i64 1, .int .i64 1, .int .i64 0] 43)
    rw [World.size_alloc, World.size_alloc] at this
    exact this
example (q r : Nat) : okS (cycS q r) = true := by kernel_rfl
example (q r : Nat) : nextV (cycS q r) 1 1 = 0 := by kernel_rfl
example (q r : Nat) : detV (cycS q r) = true := by kernel_rfl
example (q r : Nat) : rchV (cycS q r) = true := by kernel_rfl
end Go.Proofs.Ythcbcgaekbmoaaa
