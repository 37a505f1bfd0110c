/- table at the example. -/
import Derived.Test.YthcbcgaekbmoaaaSP
namespace Go.Proofs.Ythcbcgaekbmoaaa
open Go.RowKit Go.Deep

/-- two rows in a block of their own -/
def Sl2 (w : World) (b p q : Nat) : Prop := w.heap[b]? = some (.cells #[.slice (some ⟨p, 0, none⟩) 2 2, .slice (some ⟨q, 0, none⟩) 2 2] 34 (0, 0))
theorem Sl2.c0 {w : World} {b p q : Nat} (h : Sl2 w b p q) : w.cell? ⟨b, 0, none⟩ = some (.slice (some ⟨p, 0, none⟩) 2 2) := by simp [World.cell?, show w.heap[b]? = _ from h]
theorem Sl2.c1 {w : World} {b p q : Nat} (h : Sl2 w b p q) : w.cell? ⟨b, 1, none⟩ = some (.slice (some ⟨q, 0, none⟩) 2 2) := by simp [World.cell?, show w.heap[b]? = _ from h]
theorem Sl2.lt {w : World} {b p q : Nat} (h : Sl2 w b p q) : b < w.heap.size := (Array.getElem?_eq_some_iff.1 h).1
theorem Sl2.below {w w' : World} {b p q g : Nat} (h : Sl2 w b p q) (hb : Below g w w') (hg : b < g) : Sl2 w' b p q := (hb.block b hg).trans h
theorem Sl2.keep {w w' : World} {b p q : Nat} (h : Sl2 w b p q) (hb : Below w.heap.size w w') : Sl2 w' b p q := (hb.block b h.lt).trans h
theorem Sl2.other {w : World} {b p q k o : Nat} {v : Value} (h : Sl2 w b p q) (hne : b ≠ k) : Sl2 (w.setCell ⟨k, o, none⟩ v) b p q := (Below.heap_setCell _ _ _ b hne).trans h
theorem Ac.cells {w : World} {b : Nat} (h : Ac w b) : w.cell? ⟨b, 0, none⟩ = some (.int .i64 0) ∧ w.cell? ⟨b, 1, none⟩ = some (.int .i64 0) ∧ w.cell? ⟨b, 2, none⟩ = some (.int .i64 1) ∧ w.cell? ⟨b, 3, none⟩ = some (.int .i64 1) ∧ w.cell? ⟨b, 4, none⟩ = some (.int .i64 1) ∧ w.cell? ⟨b, 5, none⟩ = some (.int .i64 0) := by
  refine ⟨?_, ?_, ?_, ?_, ?_, ?_⟩ <;> simp [World.cell?, show w.heap[b]? = _ from h]
theorem Sl2.fr {w : World} {b p q : Nat} (h : Sl2 w b p q) (o : Nat) : w.frozen? ⟨b, o, none⟩ = false := by simp [World.frozen?, show w.heap[b]? = _ from h]
def Rw2 (w : World) (b : Nat) (u v : Value) : Prop := w.heap[b]? = some (.cells #[u, v] 34 (0, 0))
theorem Rw2.c0 {w : World} {b : Nat} {u v : Value} (h : Rw2 w b u v) : w.cell? ⟨b, 0, none⟩ = some u := by simp [World.cell?, show w.heap[b]? = _ from h]
theorem Rw2.c1 {w : World} {b : Nat} {u v : Value} (h : Rw2 w b u v) : w.cell? ⟨b, 1, none⟩ = some v := by simp [World.cell?, show w.heap[b]? = _ from h]
theorem Rw2.fr {w : World} {b : Nat} {u v : Value} (h : Rw2 w b u v) (o : Nat) : w.frozen? ⟨b, o, none⟩ = false := by simp [World.frozen?, show w.heap[b]? = _ from h]
theorem Rw2.lt {w : World} {b : Nat} {u v : Value} (h : Rw2 w b u v) : b < w.heap.size := (Array.getElem?_eq_some_iff.1 h).1
theorem Rw2.keep {w w' : World} {b : Nat} {u v : Value} (h : Rw2 w b u v) (hb : Below w.heap.size w w') : Rw2 w' b u v := (hb.block b h.lt).trans h
theorem Rw2.set {w : World} {b : Nat} {u v : Value} (h : Rw2 w b u v) (i : Nat) (z : Value) (hi : i < 2) : Rw2 (w.setCell ⟨b, i, none⟩ z) b (if i = 0 then z else u) (if i = 0 then v else z) := by
  obtain ⟨hlt, hk2⟩ := Array.getElem?_eq_some_iff.1 h
  show (w.heap.modify b _)[b]? = _
  rw [Array.getElem?_eq_getElem (by rw [Array.size_modify]; exact hlt), Array.getElem_modify_self, hk2]
  rcases (show i = 0 ∨ i = 1 by omega) with rfl | rfl <;> rfl
def TabP (g : Nat) (w : World) (e : Ending) (w' : World) : Prop := ∃ q r s, e = .returned (.slice (some ⟨q, 0, none⟩) 2 2) ∧ Sl2 w' q r s ∧ In2 w' r 1 (-1) ∧ In2 w' s (-1) 0 ∧ g ≤ q ∧ g ≤ r ∧ g ≤ s ∧ Below g w w'
theorem made_rows : madeCells #[Value.slice none 0 0] 2 = #[.slice none 0 0, .slice none 0 0] := Array.toList_inj.1 (by rw [toList_madeCells_one]; rfl)
set_option maxHeartbeats 4000000 in
set_option maxRecDepth 100000 in
theorem table_cyc (x y : Nat) (w : World) (hx : Ab w x) (hy : Ac w y) : Calls Try.prog 34 #[.agg #[.int .i64 2, .slice (some ⟨x, 0, none⟩) 2 2, .slice (some ⟨y, 0, none⟩) 2 2]] w (TabP w.heap.size w) := by
  have hmk : ∀ w : World, (Instr.makeSlice 48 (.int .i64 2) (.int .i64 2)).run Try.prog w = .ok (.slice (some ⟨w.heap.size, 0, none⟩) 2 2) (w.alloc (.cells (madeCells #[.slice none 0 0] 2) 34)) := fun w => run_make_rows 2 (by decide) w
  have HX := Lib.hid hx
  have HY := Lib.hid hy
  clear hx hy
  have NW := Lib.hid (fun w => nowhere_two w)
  go_enter Try.func34, Try.ntmps34
  go_wp2_with fail
  obtain ⟨w1, hw1⟩ : ∃ w1, w1 = w.alloc (.cells #[.int .i64 2, .slice (some ⟨x, 0, none⟩) 2 2, .slice (some ⟨y, 0, none⟩) 2 2] 25) := ⟨_, rfl⟩
  have d1 : w1.cell? ⟨w.heap.size, 1, none⟩ = some (.slice (some ⟨x, 0, none⟩) 2 2) := by rw [hw1]; simp
  have d2 : w1.cell? ⟨w.heap.size, 2, none⟩ = some (.slice (some ⟨y, 0, none⟩) 2 2) := by rw [hw1]; simp
  have s1 : w1.heap.size = w.heap.size + 1 := by rw [hw1, World.size_alloc]
  have B1 : Below w.heap.size w w1 := by rw [hw1]; exact (Below.refl _ _).alloc (Nat.le_refl _) _
  rw [← hw1, ← s1]
  clear hw1
  obtain ⟨w2, hw2⟩ : ∃ w2, w2 = w1.alloc (.cells (madeCells #[.slice none 0 0] 2) 34) := ⟨_, rfl⟩
  have N2 : Rw2 w2 w1.heap.size (.slice none 0 0) (.slice none 0 0) := by rw [hw2, made_rows]; exact heap_alloc_new w1 _
  have B2 : Below w1.heap.size w1 w2 := by rw [hw2]; exact (Below.refl _ _).alloc (Nat.le_refl _) _
  have s2 : w2.heap.size = w1.heap.size + 1 := by rw [hw2, World.size_alloc]
  rw [← hw2]
  clear hw2
  have e1 : w2.cell? ⟨w.heap.size, 1, none⟩ = some (.slice (some ⟨x, 0, none⟩) 2 2) := (B2.cell (p := ⟨w.heap.size, 1, none⟩) (by show w.heap.size < _; omega)).trans d1
  have D2 := Lib.hid ((B2.cell (p := ⟨w.heap.size, 2, none⟩) (by show w.heap.size < _; omega)).trans d2)
  have BW2 := Lib.hid (B1.trans (B2.mono (by omega)))
  clear d1 d2 B1 B2
  have S1 := Lib.hid s1
  have S2 := Lib.hid s2
  clear s1 s2
  have N2' := Lib.hid N2
  clear N2
  refine wp_loop_rounds 3 ?_
  rw [rounds_succ]
  go_wp2_with fail
  refine (NW.out _).mono ?_
  rintro e w3 ⟨r, rfl, h1, h2, h3⟩
  have N3 := N2'.out.keep h3
  have R3 : In2 w3 r (-1) (-1) := h1
  have e3 : w3.cell? ⟨w.heap.size, 1, none⟩ = some (.slice (some ⟨x, 0, none⟩) 2 2) := (h3.cell (p := ⟨w.heap.size, 1, none⟩) (by show w.heap.size < _; have := S1.out; have := S2.out; omega)).trans e1
  have z0 := N3.c0
  have z1 := N3.fr 0
  have L3 := Lib.hid h2
  have BW3 := Lib.hid (BW2.out.trans (h3.mono BW2.out.size))
  have D3 := Lib.hid ((h3.cell (p := ⟨w.heap.size, 2, none⟩) (by show w.heap.size < _; have := S1.out; have := S2.out; omega)).trans D2.out)
  have N3 := Lib.hid N3
  have R3 := Lib.hid R3
  have sz3 := Lib.hid h3.size
  clear h1 h2 h3 e1 D2 N2'
  go_wp2
  obtain ⟨w4, hw4⟩ : ∃ w4, w4 = w3.setCell ⟨w1.heap.size, 0, none⟩ (.slice (some ⟨r, 0, none⟩) 2 2) := ⟨_, rfl⟩
  have N4 : Rw2 w4 w1.heap.size (.slice (some ⟨r, 0, none⟩) 2 2) (.slice none 0 0) := by rw [hw4]; exact N3.out.set 0 _ (by decide)
  have R4 : In2 w4 r (-1) (-1) := by rw [hw4]; exact R3.out.other (by have := L3.out; have := S1.out; have := S2.out; omega)
  have BW4 : Below w.heap.size w w4 := by rw [hw4]; exact BW3.out.setCell (by show w.heap.size ≤ w1.heap.size; have := S1.out; omega) _
  have e4 : w4.cell? ⟨w.heap.size, 1, none⟩ = some (.slice (some ⟨x, 0, none⟩) 2 2) := by rw [hw4, World.cell?_setCell_other _ _ _ _ (by intro e; injection e with e1; have := S1.out; omega)]; exact e3
  have D4 : w4.cell? ⟨w.heap.size, 2, none⟩ = some (.slice (some ⟨y, 0, none⟩) 2 2) := by rw [hw4, World.cell?_setCell_other _ _ _ _ (by intro e; injection e with e1; have := S1.out; omega)]; exact D3.out
  have sz4 : w4.heap.size = w3.heap.size := by rw [hw4]; simp [World.setCell]
  rw [← hw4]
  clear hw4 z0 z1 e3 N3 R3 BW3 D3
  have BW4 := Lib.hid BW4
  have N4 := Lib.hid N4
  have R4 := Lib.hid R4
  have D4 := Lib.hid D4
  have sz4 := Lib.hid sz4
  rw [rounds_succ]
  go_wp2_with fail
  refine (NW.out _).mono ?_
  rintro e w5 ⟨q, rfl, h1, h2, h3⟩
  have N5 := N4.out.keep h3
  have R5 := R4.out.keep h3
  have Q5 : In2 w5 q (-1) (-1) := h1
  have D5 := Lib.hid ((h3.cell (p := ⟨w.heap.size, 2, none⟩) (by show w.heap.size < _; have := S1.out; have := S2.out; have := sz3.out; have := sz4.out; omega)).trans D4.out)
  have z0 := N5.c1
  have z1 := N5.fr 1
  have L5 := Lib.hid h2
  have BW5 := Lib.hid (BW4.out.trans (h3.mono BW4.out.size))
  have rlt := Lib.hid R4.out.lt
  clear h1 h2 h3 e4 D4 N4 R4
  have N5 := Lib.hid N5
  have R5 := Lib.hid R5
  have Q5 := Lib.hid Q5
  go_wp2
  obtain ⟨w6, hw6⟩ : ∃ w6, w6 = w5.setCell ⟨w1.heap.size, 1, none⟩ (.slice (some ⟨q, 0, none⟩) 2 2) := ⟨_, rfl⟩
  have hk1 : w1.heap.size < r ∧ w1.heap.size < q ∧ w.heap.size < w1.heap.size ∧ r < q := by have := L3.out; have := S1.out; have := S2.out; have := sz3.out; have := sz4.out; have := L5.out; have := rlt.out; omega
  have N6 : Sl2 w6 w1.heap.size r q := by rw [hw6]; exact N5.out.set 1 _ (by decide)
  have R6 : In2 w6 r (-1) (-1) := by rw [hw6]; exact R5.out.other (by omega)
  have Q6 : In2 w6 q (-1) (-1) := by rw [hw6]; exact Q5.out.other (by omega)
  have BW6 : Below w.heap.size w w6 := by rw [hw6]; exact BW5.out.setCell (by show w.heap.size ≤ w1.heap.size; omega) _
  have D6 : w6.cell? ⟨w.heap.size, 2, none⟩ = some (.slice (some ⟨y, 0, none⟩) 2 2) := by rw [hw6, World.cell?_setCell_other _ _ _ _ (by intro e; injection e with e1; omega)]; exact D5.out
  rw [← hw6]
  clear hw6 z0 z1 N5 R5 Q5 BW5 D5 S1 S2 L3 L5 sz3 sz4 rlt NW hmk
  have HK := Lib.hid hk1
  clear hk1
  have N6 := Lib.hid N6
  have R6 := Lib.hid R6
  have Q6 := Lib.hid Q6
  have BW6 := Lib.hid BW6
  clear BW2
  rw [rounds_succ]
  go_wp2
  have hy6 := (HY.out.below BW6.out HY.out.lt).cells
  obtain ⟨y0, y1, y2, y3, y4, y5⟩ := hy6
  have HY6 := Lib.hid (HY.out.below BW6.out HY.out.lt)
  have HYL := Lib.hid HY.out.lt
  clear y3 y4 y5
  refine wp_loop_rounds 3 ?_
  rw [rounds_succ]
  go_wp2_with fail
  obtain ⟨w7, hw7⟩ : ∃ w7, w7 = w6.alloc (.cells #[.int .i64 0, .int .i64 0, .int .i64 1] 43) := ⟨_, rfl⟩
  have K7 : Below w6.heap.size w6 w7 := by rw [hw7]; exact (Below.refl _ _).alloc (Nat.le_refl _) _
  have x7 : EBx w7 w6.heap.size 0 0 1 := by rw [hw7]; exact EBx.new _ _ _ _
  have N7 := (show Sl2 w7 w1.heap.size r q from N6.out.keep K7)
  have R7 := R6.out.keep K7
  have Q7 := Q6.out.keep K7
  have sz7 := Lib.hid K7.size
  have BW7 := Lib.hid (BW6.out.trans (K7.mono BW6.out.size))
  have HY7 := Lib.hid (HY6.out.below K7 HY6.out.lt)
  have D7 := Lib.hid ((K7.cell (World.block_lt_of_cell? w6 _ D6)).trans D6)
  try rw [← hw7]
  clear hw7 K7 y0 y1 y2 D6 N6 R6 Q6 BW6 HY6
  have a0 := x7.c0
  have a1 := x7.c1
  have a2 := x7.c2
  have n0 := N7.c0
  have r0 := R7.c0
  have r1 := R7.fr 0
  clear x7
  have N7 := Lib.hid N7
  have R7 := Lib.hid R7
  have Q7 := Lib.hid Q7
  go_region
  obtain ⟨w8, hw8⟩ : ∃ w8, w8 = (w7.setCell ⟨r, 0, none⟩ (.int .i64 1)).drew := ⟨_, rfl⟩
  obtain ⟨k1, k2, k3, k4⟩ := HK.out
  have R8 : In2 w8 r 1 (-1) := by rw [hw8]; exact In2.set R7.out 0 1 (by decide)
  have N8 : Sl2 w8 w1.heap.size r q := by rw [hw8]; exact Sl2.other N7.out (by omega)
  have Q8 : In2 w8 q (-1) (-1) := by rw [hw8]; exact In2.other Q7.out (by omega)
  have BW8 : Below w.heap.size w w8 := by rw [hw8]; exact (BW7.out.setCell (by show w.heap.size ≤ r; omega) _).drew
  rw [← hw8]
  clear hw8 a0 a1 a2 n0 r0 r1 N7 R7 Q7 HY7 D7
  obtain ⟨y0, y1, y2, y3, y4, y5⟩ := (HY.out.below BW8 HY.out.lt).cells
  have HY8 := Lib.hid (HY.out.below BW8 HY.out.lt)
  clear y0 y1 y2 k1 k2 k3 k4 BW7
  have N8 := Lib.hid N8
  have R8 := Lib.hid R8
  have Q8 := Lib.hid Q8
  have BW8 := Lib.hid BW8
  go_wp2
  rw [rounds_succ]
  go_wp2_with fail
  obtain ⟨w9, hw9⟩ : ∃ w9, w9 = w8.alloc (.cells #[.int .i64 1, .int .i64 1, .int .i64 0] 43) := ⟨_, rfl⟩
  have K9 : Below w8.heap.size w8 w9 := by rw [hw9]; exact (Below.refl _ _).alloc (Nat.le_refl _) _
  have x9 : EBx w9 w8.heap.size 1 1 0 := by rw [hw9]; exact EBx.new _ _ _ _
  have N9 := (show Sl2 w9 w1.heap.size r q from N8.out.keep K9)
  have R9 := R8.out.keep K9
  have Q9 := Q8.out.keep K9
  have BW9 := Lib.hid (BW8.out.trans (K9.mono BW8.out.size))
  try rw [← hw9]
  clear hw9 K9 y3 y4 y5 N8 R8 Q8 BW8 HY8
  have a0 := x9.c0
  have a1 := x9.c1
  have a2 := x9.c2
  have n0 := N9.c1
  have r0 := Q9.c1
  have r1 := Q9.fr 1
  clear x9
  have N9 := Lib.hid N9
  have R9 := Lib.hid R9
  have Q9 := Lib.hid Q9
  go_region
  obtain ⟨w10, hw10⟩ : ∃ w10, w10 = (w9.setCell ⟨q, 1, none⟩ (.int .i64 0)).drew := ⟨_, rfl⟩
  obtain ⟨k1, k2, k3, k4⟩ := HK.out
  have R10 : In2 w10 r 1 (-1) := by rw [hw10]; exact In2.other R9.out (by omega)
  have N10 : Sl2 w10 w1.heap.size r q := by rw [hw10]; exact Sl2.other N9.out (by omega)
  have Q10 : In2 w10 q (-1) 0 := by rw [hw10]; exact In2.set Q9.out 1 0 (by decide)
  have BW10 : Below w.heap.size w w10 := by rw [hw10]; exact (BW9.out.setCell (by show w.heap.size ≤ q; omega) _).drew
  rw [← hw10]
  have F := Lib.hid (show w.heap.size ≤ w1.heap.size ∧ w.heap.size ≤ r ∧ w.heap.size ≤ q by omega)
  clear hw10 a0 a1 a2 n0 r0 r1 N9 R9 Q9 k1 k2 k3 k4
  have N10 := Lib.hid N10
  have R10 := Lib.hid R10
  have Q10 := Lib.hid Q10
  have BW10 := Lib.hid BW10
  go_wp2
  rw [rounds_succ]
  go_wp2
  go_ret
  exact ⟨_, _, _, rfl, N10.out, R10.out, Q10.out, F.out.1, F.out.2.1, F.out.2.2, BW10.out⟩
end Go.Proofs.Ythcbcgaekbmoaaa
