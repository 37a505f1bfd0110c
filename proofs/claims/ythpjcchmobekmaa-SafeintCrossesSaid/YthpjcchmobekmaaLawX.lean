/- The two laws on the comparison of products return true, and only new memory is touched. -/
import Derived.Test.YthpjcchmobekmaaLawA
import Derived.Deep.RegionHeld3
namespace Go.Proofs.Ythpjcchmobekmaa
open Go.RowKit

theorem four_cells {a b c d : Value} {t : TypeId} {g B : Nat} {w0 w1 : World} (h : Below B w0 w1) (hg : g < B) (h0 : w0.heap[g]? = some (.cells #[a, b, c, d] t (0, 0))) :
    w1.cell? ⟨g, 0, none⟩ = some a ∧ w1.cell? ⟨g, 1, none⟩ = some b ∧ w1.cell? ⟨g, 2, none⟩ = some c ∧ w1.cell? ⟨g, 3, none⟩ = some d := by
  have hh : w1.heap[g]? = some (.cells #[a, b, c, d] t (0, 0)) := (h.block _ hg).trans h0
  exact ⟨cell_of_row w1 _ 0 _ t (0, 0) hh, cell_of_row w1 _ 1 _ t (0, 0) hh, cell_of_row w1 _ 2 _ t (0, 0) hh, cell_of_row w1 _ 3 _ t (0, 0) hh⟩

/-- block g holds the four numbers -/
def Holds4 (a b c d : Int) (g : Nat) (w : World) : Prop :=
  w.cell? ⟨g, 0, none⟩ = some (.int .i64 a) ∧ w.cell? ⟨g, 1, none⟩ = some (.int .i64 b) ∧ w.cell? ⟨g, 2, none⟩ = some (.int .i64 c) ∧ w.cell? ⟨g, 3, none⟩ = some (.int .i64 d)
theorem Holds4.below {a b c d : Int} {g B : Nat} {w w1 : World} (h : Holds4 a b c d g w) (hb : Below B w w1) (hg : g < B) : Holds4 a b c d g w1 :=
  ⟨(hb.cell (p := ⟨g, 0, none⟩) hg).trans h.1, (hb.cell (p := ⟨g, 1, none⟩) hg).trans h.2.1, (hb.cell (p := ⟨g, 2, none⟩) hg).trans h.2.2.1, (hb.cell (p := ⟨g, 3, none⟩) hg).trans h.2.2.2⟩
theorem Holds4.new (a b c d : Int) (t : TypeId) (w : World) : Holds4 a b c d w.heap.size (w.alloc (.cells #[.int .i64 a, .int .i64 b, .int .i64 c, .int .i64 d] t)) := by
  have hh := heap_alloc_new w (.cells #[.int .i64 a, .int .i64 b, .int .i64 c, .int .i64 d] t)
  exact ⟨cell_of_row _ _ 0 _ t (0, 0) hh, cell_of_row _ _ 1 _ t (0, 0) hh, cell_of_row _ _ 2 _ t (0, 0) hh, cell_of_row _ _ 3 _ t (0, 0) hh⟩

set_option maxRecDepth 100000 in
set_option maxHeartbeats 4000000 in
theorem crosses_walk (a b c d : Int) (h1 : -9223372036854775808 ≤ a) (h2 : a ≤ 9223372036854775807) (h3 : -9223372036854775808 ≤ b) (h4 : b ≤ 9223372036854775807)
    (h5 : -9223372036854775808 ≤ c) (h6 : c ≤ 9223372036854775807) (h7 : -9223372036854775808 ≤ d) (h8 : d ≤ 9223372036854775807) (w : World) :
    Calls Try.prog 6 #[.agg #[.int .i64 a, .int .i64 b, .int .i64 c, .int .i64 d]] w fun e w' => e = .returned (.bool true) ∧ Below w.heap.size w w' := by
  have X1 := Lib.hid (cross_any a b c d h1 h2 h3 h4 h5 h6 h7 h8)
  have X2 := Lib.hid (rcross_any a b c d h1 h2 h3 h4 h5 h6 h7 h8)
  generalize crossV (a * b) (c * d) = v at X1 X2
  clear h1 h2 h3 h4 h5 h6 h7 h8
  go_enter Try.func6, Try.ntmps6
  go_wp2_with fail
  have hB := (Below.refl w.heap.size w).alloc (Nat.le_refl _) (.cells #[.int .i64 a, .int .i64 b, .int .i64 c, .int .i64 d] 27)
  have hg : w.heap.size < (w.alloc (.cells #[.int .i64 a, .int .i64 b, .int .i64 c, .int .i64 d] 27)).heap.size := by simp
  have H := Lib.hid (Holds4.new a b c d 27 w)
  generalize w.alloc (.cells #[.int .i64 a, .int .i64 b, .int .i64 c, .int .i64 d] 27) = W0 at hB hg H ⊢
  obtain ⟨f0, f1, f2, f3⟩ := H.out
  go_region_held3 (fun w' => w'.cell? ⟨w.heap.size, 0, none⟩ = some (.int .i64 a) ∧ w'.cell? ⟨w.heap.size, 1, none⟩ = some (.int .i64 b) ∧ w'.cell? ⟨w.heap.size, 2, none⟩ = some (.int .i64 c) ∧ w'.cell? ⟨w.heap.size, 3, none⟩ = some (.int .i64 d))
    (first
      | go_keep
      | exact H1.out
      | exact H2.out
      | exact H3.out)
    ((first
      | (go_at_call 25; refine (X1.out _).mono ?_; rintro e w1 ⟨rfl, hb1⟩; have H1 := Lib.hid (Holds4.below (a := a) (b := b) (c := c) (d := d) (g := w.heap.size) (by exact H.out) hb1 (by exact hg)))
      | (go_at_call 26; refine (X2.out _).mono ?_; rintro e w2 ⟨rfl, hb2⟩; have g2 := Nat.lt_of_lt_of_le hg hb1.size; have H2 := Lib.hid (Holds4.below (a := a) (b := b) (c := c) (d := d) (g := w.heap.size) (by exact H1.out) hb2 (by exact g2)))
      | (go_at_call 16; refine (alive_any _).mono ?_; rintro e w3 ⟨rfl, hb3⟩; have g3 := Nat.lt_of_lt_of_le g2 hb2.size; have H3 := Lib.hid (Holds4.below (a := a) (b := b) (c := c) (d := d) (g := w.heap.size) (by exact H2.out) hb3 (by exact g3)))))
  go_wp2
  go_ret
  exact ⟨rfl, hB.drew.trans ((hb1.mono (by have := hB.size; simpa using this)).trans ((hb2.mono (by have := hB.size; omega)).trans (hb3.mono (by have := hB.size; omega))))⟩

theorem crossV_in (p q : Int) : -1 ≤ crossV p q ∧ crossV p q ≤ 1 := by unfold crossV; (repeat split) <;> omega
theorem crossV_swap (p q : Int) : crossV q p = -crossV p q := by unfold crossV; (repeat split) <;> omega
theorem crossV_self (p : Int) : crossV p p = 0 := by unfold crossV; (repeat split) <;> omega

set_option maxRecDepth 100000 in
set_option maxHeartbeats 4000000 in
theorem orders_walk (a b c d : Int) (h1 : -9223372036854775808 ≤ a) (h2 : a ≤ 9223372036854775807) (h3 : -9223372036854775808 ≤ b) (h4 : b ≤ 9223372036854775807)
    (h5 : -9223372036854775808 ≤ c) (h6 : c ≤ 9223372036854775807) (h7 : -9223372036854775808 ≤ d) (h8 : d ≤ 9223372036854775807) (w : World) :
    Calls Try.prog 9 #[.agg #[.int .i64 a, .int .i64 b, .int .i64 c, .int .i64 d]] w fun e w' => e = .returned (.bool true) ∧ Below w.heap.size w w' := by
  have X1 := Lib.hid (cross_any a b c d h1 h2 h3 h4 h5 h6 h7 h8)
  have X2 := cross_any c d a b h5 h6 h7 h8 h1 h2 h3 h4
  have X3 := cross_any b a c d h3 h4 h1 h2 h5 h6 h7 h8
  have X4 := cross_any a b b a h1 h2 h3 h4 h3 h4 h1 h2
  rw [crossV_swap] at X2
  rw [Int.mul_comm b a] at X3 X4
  rw [crossV_self] at X4
  obtain ⟨v1, v2⟩ := crossV_in (a * b) (c * d)
  generalize crossV (a * b) (c * d) = v at X1 X2 X3 v1 v2
  have X2 := Lib.hid X2
  have X3 := Lib.hid X3
  have X4 := Lib.hid X4
  clear h1 h2 h3 h4 h5 h6 h7 h8
  go_enter Try.func9, Try.ntmps9
  go_wp2_with fail
  refine (X1.out _).mono ?_
  rintro e w1 ⟨rfl, hb1⟩
  have hB := (((Below.refl w.heap.size w).alloc (Nat.le_refl _) (.cells #[.int .i64 a, .int .i64 b, .int .i64 c, .int .i64 d] 27)).trans (hb1.mono (by simp)))
  have hg : w.heap.size < w1.heap.size := by have := hb1.size; simp at this; omega
  have H := Lib.hid (Holds4.below (Holds4.new a b c d 27 w) hb1 (by simp))
  obtain ⟨f0, f1, f2, f3⟩ := H.out
  clear hb1
  go_wp2_with fail
  refine (X2.out _).mono ?_
  rintro e w2 ⟨rfl, hb2⟩
  have H2 := Lib.hid (Holds4.below H.out hb2 hg)
  replace hB := hB.trans (hb2.mono (by have := hB.size; omega))
  replace hg : w.heap.size < w2.heap.size := Nat.lt_of_lt_of_le hg hb2.size
  clear hb2 f0 f1 f2 f3
  obtain ⟨f0, f1, f2, f3⟩ := H2.out
  go_wp2_with fail
  refine (X3.out _).mono ?_
  rintro e w3 ⟨rfl, hb3⟩
  have H3 := Lib.hid (Holds4.below H2.out hb3 hg)
  replace hB := hB.trans (hb3.mono (by have := hB.size; omega))
  replace hg : w.heap.size < w3.heap.size := Nat.lt_of_lt_of_le hg hb3.size
  clear hb3 f0 f1 f2 f3
  obtain ⟨f0, f1, f2, f3⟩ := H3.out
  go_wp2_with fail
  refine (X4.out _).mono ?_
  rintro e w4 ⟨rfl, hb4⟩
  have H4 := Lib.hid (Holds4.below H3.out hb4 hg)
  replace hB := hB.trans (hb4.mono (by have := hB.size; omega))
  replace hg : w.heap.size < w4.heap.size := Nat.lt_of_lt_of_le hg hb4.size
  clear hb4 f0 f1 f2 f3
  obtain ⟨f0, f1, f2, f3⟩ := H4.out
  go_wp2_with fail
  refine (alive_any _).mono ?_
  rintro e w5 ⟨rfl, hb5⟩
  go_wp2
  go_ret
  exact ⟨rfl, hB.trans (hb5.mono (by have := hB.size; omega))⟩
end Go.Proofs.Ythpjcchmobekmaa
