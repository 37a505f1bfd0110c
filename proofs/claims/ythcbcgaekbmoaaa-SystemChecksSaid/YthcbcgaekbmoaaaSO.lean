/- sameEvents at the example's names. -/
import Derived.Test.YthcbcgaekbmoaaaSN
import Derived.Laws.CopyOwn
namespace Go.Proofs.Ythcbcgaekbmoaaa
open Go.RowKit Go.Deep

def sA : Value := .string ⟨#[97]⟩
def sB : Value := .string ⟨#[98]⟩
/-- the example's list of names -/
def Ab (w : World) (b : Nat) : Prop := w.heap[b]? = some (.cells #[.string ⟨#[97]⟩, .string ⟨#[98]⟩] 9 (0, 0))
theorem Ab.c0 {w : World} {b : Nat} (h : Ab w b) : w.cell? ⟨b, 0, none⟩ = some (.string ⟨#[97]⟩) := by simp [World.cell?, show w.heap[b]? = _ from h]
theorem Ab.c1 {w : World} {b : Nat} (h : Ab w b) : w.cell? ⟨b, 1, none⟩ = some (.string ⟨#[98]⟩) := by simp [World.cell?, show w.heap[b]? = _ from h]
theorem Ab.lt {w : World} {b : Nat} (h : Ab w b) : b < w.heap.size := (Array.getElem?_eq_some_iff.1 h).1
theorem Ab.below {w w' : World} {b g : Nat} (h : Ab w b) (hb : Below g w w') (hg : b < g) : Ab w' b := (hb.block b hg).trans h
set_option maxHeartbeats 4000000 in
set_option maxRecDepth 100000 in
theorem index_a (b : Nat) (w : World) (h : Ab w b) : Calls Try.prog 39 #[.slice (some ⟨b, 0, none⟩) 2 2, .string ⟨#[97]⟩] w (fun e w' => e = .returned (.int .i64 0) ∧ w' = w) := by
  have h0 := h.c0
  go_enter Try.func39, Try.ntmps39
  go_wp2_with fail
  refine wp_loop_rounds 1 ?_
  rw [rounds_succ]
  go_wp2
  go_ret
  exact ⟨rfl, rfl⟩
set_option maxHeartbeats 4000000 in
set_option maxRecDepth 100000 in
theorem index_b (b : Nat) (w : World) (h : Ab w b) : Calls Try.prog 39 #[.slice (some ⟨b, 0, none⟩) 2 2, .string ⟨#[98]⟩] w (fun e w' => e = .returned (.int .i64 1) ∧ w' = w) := by
  have h0 := h.c0
  have h1 := h.c1
  go_enter Try.func39, Try.ntmps39
  go_wp2_with fail
  refine wp_loop_rounds 2 ?_
  rw [rounds_succ]
  go_wp2
  rw [rounds_succ]
  go_wp2
  go_ret
  exact ⟨rfl, rfl⟩
/-- two numbers in a block of their own -/
def In2 (w : World) (b : Nat) (x y : Int) : Prop := w.heap[b]? = some (.cells #[.int .i64 x, .int .i64 y] 3 (0, 0))
theorem In2.c0 {w : World} {b : Nat} {x y : Int} (h : In2 w b x y) : w.cell? ⟨b, 0, none⟩ = some (.int .i64 x) := by simp [World.cell?, show w.heap[b]? = _ from h]
theorem In2.c1 {w : World} {b : Nat} {x y : Int} (h : In2 w b x y) : w.cell? ⟨b, 1, none⟩ = some (.int .i64 y) := by simp [World.cell?, show w.heap[b]? = _ from h]
theorem In2.fr {w : World} {b : Nat} {x y : Int} (h : In2 w b x y) (o : Nat) : w.frozen? ⟨b, o, none⟩ = false := by simp [World.frozen?, show w.heap[b]? = _ from h]
theorem In2.lt {w : World} {b : Nat} {x y : Int} (h : In2 w b x y) : b < w.heap.size := (Array.getElem?_eq_some_iff.1 h).1
theorem In2.below {w w' : World} {b g : Nat} {x y : Int} (h : In2 w b x y) (hb : Below g w w') (hg : b < g) : In2 w' b x y := (hb.block b hg).trans h
theorem In2.keep {w w' : World} {b : Nat} {x y : Int} (h : In2 w b x y) (hb : Below w.heap.size w w') : In2 w' b x y := (hb.block b h.lt).trans h
theorem In2.set {w : World} {b : Nat} {x y : Int} (h : In2 w b x y) (i : Nat) (z : Int) (hi : i < 2) : In2 (w.setCell ⟨b, i, none⟩ (.int .i64 z)) b (if i = 0 then z else x) (if i = 0 then y else z) := by
  obtain ⟨hlt, hk2⟩ := Array.getElem?_eq_some_iff.1 h
  show (w.heap.modify b _)[b]? = _
  rw [Array.getElem?_eq_getElem (by rw [Array.size_modify]; exact hlt), Array.getElem_modify_self, hk2]
  rcases (show i = 0 ∨ i = 1 by omega) with rfl | rfl <;> rfl
theorem In2.other {w : World} {b q o : Nat} {x y : Int} {v : Value} (h : In2 w b x y) (hne : b ≠ q) : In2 (w.setCell ⟨q, o, none⟩ v) b x y :=
  (Below.heap_setCell _ _ _ b hne).trans h
set_option maxHeartbeats 4000000 in
set_option maxRecDepth 100000 in
theorem index_no (b : Nat) (w : World) (h : In2 w b 0 1) : Calls Try.prog 51 #[.slice (some ⟨b, 0, none⟩) 2 2, .int .i64 (-1)] w (fun e w' => e = .returned (.int .i64 (-1)) ∧ w' = w) := by
  have h0 := h.c0
  have h1 := h.c1
  go_enter Try.func51, Try.ntmps51
  go_wp2_with fail
  refine wp_loop_rounds 3 ?_
  rw [rounds_succ]
  go_wp2
  rw [rounds_succ]
  go_wp2
  rw [rounds_succ]
  go_wp2
  go_ret
  exact ⟨rfl, rfl⟩
set_option maxHeartbeats 4000000 in
set_option maxRecDepth 100000 in
theorem contains_no (b : Nat) (w : World) (h : In2 w b 0 1) : Calls Try.prog 47 #[.slice (some ⟨b, 0, none⟩) 2 2, .int .i64 (-1)] w (fun e w' => e = .returned (.bool false) ∧ w' = w) := by
  have C := Lib.hid (index_no b w h)
  go_enter Try.func47, Try.ntmps47
  go_wp2_with fail
  refine C.out.mono ?_
  rintro e w' ⟨rfl, rfl⟩
  go_wp2
  go_ret
  exact ⟨rfl, rfl⟩
def SePost (g : Nat) (w : World) (e : Ending) (w' : World) : Prop := ∃ q, e = .returned (.tuple #[.slice (some ⟨q, 0, none⟩) 2 2, .bool true]) ∧ In2 w' q 0 1 ∧ g ≤ q ∧ Below g w w'
set_option maxHeartbeats 4000000 in
set_option maxRecDepth 100000 in
theorem same_events (b c : Nat) (w : World) (hb : Ab w b) (hc : Ab w c) : Calls Try.prog 33 #[.slice (some ⟨b, 0, none⟩) 2 2, .slice (some ⟨c, 0, none⟩) 2 2] w (SePost w.heap.size w) := by
  have hmk : ∀ w : World, (Instr.makeSlice 34 (.int .i64 2) (.int .i64 2)).run Try.prog w = .ok (.slice (some ⟨w.heap.size, 0, none⟩) 2 2) (w.alloc (.cells (madeCells #[.int .i64 0] 2) 3)) := fun w => run_make_ints 2 (by decide) w
  have HB := Lib.hid hb
  have HC := Lib.hid hc
  clear hb hc
  go_enter Try.func33, Try.ntmps33
  go_wp2_with fail
  obtain ⟨w1, hw1⟩ : ∃ w1, w1 = w.alloc (.cells (madeCells #[.int .i64 0] 2) 3) := ⟨_, rfl⟩
  have N1 : In2 w1 w.heap.size 0 0 := by rw [hw1, made_two]; exact heap_alloc_new w _
  have B1 : Below w.heap.size w w1 := by rw [hw1]; exact (Below.refl _ _).alloc (Nat.le_refl _) _
  have HB1 := Lib.hid (HB.out.below B1 HB.out.lt)
  have HC1 := Lib.hid (HC.out.below B1 HC.out.lt)
  have hb0 := HB1.out.c0
  have hb1 := HB1.out.c1
  rw [← hw1]
  clear hw1
  have B1 := Lib.hid B1
  have CA := Lib.hid (index_a c w1 HC1.out)
  have n0 := N1.fr 0
  have n1 := N1.c0
  have N1 := Lib.hid N1
  refine wp_loop_rounds 3 ?_
  rw [rounds_succ]
  go_wp2_with fail
  refine CA.out.mono ?_
  rintro e w' ⟨rfl, rfl⟩
  go_wp2
  obtain ⟨w2, hw2⟩ : ∃ w2, w2 = w'.setCell ⟨w.heap.size, 0, none⟩ (.int .i64 0) := ⟨_, rfl⟩
  have N2 : In2 w2 w.heap.size 0 0 := by rw [hw2]; exact N1.out.set 0 0 (by decide)
  have B2 : Below w.heap.size w w2 := by rw [hw2]; exact B1.out.setCell (Nat.le_refl _) _
  rw [← hw2]
  clear hw2 n0 n1 N1 hb0 hb1 HB1
  have HB2 := Lib.hid (HB.out.below B2 HB.out.lt)
  have HC2 := Lib.hid (HC.out.below B2 HC.out.lt)
  have hb1 := HB2.out.c1
  have CB := Lib.hid (index_b c w2 HC2.out)
  have n0 := N2.fr 1
  have n1 := N2.c1
  have N3 := Lib.hid N2
  have B3 := Lib.hid B2
  clear N2 B2 CA
  rw [rounds_succ]
  go_wp2_with fail
  refine CB.out.mono ?_
  rintro e w' ⟨rfl, rfl⟩
  go_wp2
  obtain ⟨w3, hw3⟩ : ∃ w3, w3 = w'.setCell ⟨w.heap.size, 1, none⟩ (.int .i64 1) := ⟨_, rfl⟩
  have N4 : In2 w3 w.heap.size 0 1 := by rw [hw3]; exact N3.out.set 1 1 (by decide)
  have B4 : Below w.heap.size w w3 := by rw [hw3]; exact B3.out.setCell (Nat.le_refl _) _
  rw [← hw3]
  clear hw3 n0 n1 hb1
  have N4 := Lib.hid N4
  have B4 := Lib.hid B4
  have CC := Lib.hid (contains_no w.heap.size w3 N4.out)
  rw [rounds_succ]
  go_wp2_with fail
  refine CC.out.mono ?_
  rintro e w' ⟨rfl, rfl⟩
  go_wp2
  go_ret2
  exact ⟨_, rfl, N4.out, Nat.le_refl _, B4.out⟩
end Go.Proofs.Ythcbcgaekbmoaaa
