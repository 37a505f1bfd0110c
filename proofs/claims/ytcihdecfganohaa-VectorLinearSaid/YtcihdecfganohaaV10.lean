/- The chapter's examples. -/
import Derived.Test.YtcihdecfganohaaV9
namespace Go.Proofs.Ytcihdecfganohaa
open Go.RowKit

theorem in_nil : In64 [] := fun _ h => by cases h
theorem row1 (w : World) (cs : Array Value) (t : TypeId) : (w.alloc (.cells cs t)).heap[w.heap.size]? = some (.cells cs t (0, 0)) := heap_alloc_new w _
theorem row2a (w : World) (cs : Array Value) (t : TypeId) (o : Obj) : ((w.alloc (.cells cs t)).alloc o).heap[w.heap.size]? = some (.cells cs t (0, 0)) :=
  (Below.heap_alloc (w.alloc (.cells cs t)) o w.heap.size (by simp)).trans (row1 w cs t)
theorem row2b (w : World) (cs : Array Value) (t : TypeId) (o : Obj) : ((w.alloc o).alloc (.cells cs t)).heap[w.heap.size + 1]? = some (.cells cs t (0, 0)) := by
  have := heap_alloc_new (w.alloc o) (.cells cs t)
  rw [World.size_alloc] at this
  exact this
theorem below1 (w : World) (o : Obj) : Below w.heap.size w (w.alloc o) := (Below.refl _ _).alloc (Nat.le_refl _) _
/-- from one call's end to the next one's -/
theorem via1 {w w' : World} {o : Obj} (h : Below (w.alloc o).heap.size (w.alloc o) w') : Below w.heap.size w w' := (below1 w o).trans (h.mono (by simp))
theorem via2 {w w' : World} {o o2 : Obj} (h : Below ((w.alloc o).alloc o2).heap.size ((w.alloc o).alloc o2) w') : Below w.heap.size w w' := (below2 w o o2).trans (h.mono (by simp; omega))
theorem read1 {w : World} {A : Option Addr} {x : Int} (h : ReadsV w A [x]) : ∃ b o, A = some ⟨b, o, none⟩ ∧ w.cell? ⟨b, o, none⟩ = some (.int .i64 x) := by
  obtain ⟨b, o, e, _, h0⟩ := h 0 (by simp)
  exact ⟨b, o, e, h0⟩
theorem read2 {w : World} {A : Option Addr} {x y : Int} (h : ReadsV w A [x, y]) : ∃ b o, A = some ⟨b, o, none⟩ ∧ w.cell? ⟨b, o, none⟩ = some (.int .i64 x) ∧ w.cell? ⟨b, o + 1, none⟩ = some (.int .i64 y) := by
  obtain ⟨b, o, e, _, h0⟩ := h 0 (by simp)
  obtain ⟨b1, o1, e1, _, h1⟩ := h 1 (by simp)
  rw [e] at e1
  cases e1
  exact ⟨b, o, e, h0, h1⟩
theorem read3 {w : World} {A : Option Addr} {x y z : Int} (h : ReadsV w A [x, y, z]) : ∃ b o, A = some ⟨b, o, none⟩ ∧ w.cell? ⟨b, o, none⟩ = some (.int .i64 x) ∧ w.cell? ⟨b, o + 1, none⟩ = some (.int .i64 y) ∧ w.cell? ⟨b, o + 2, none⟩ = some (.int .i64 z) := by
  obtain ⟨b, o, e, _, h0⟩ := h 0 (by simp)
  obtain ⟨b1, o1, e1, _, h1⟩ := h 1 (by simp)
  obtain ⟨b2, o2, e2, _, h2⟩ := h 2 (by simp)
  rw [e] at e1 e2
  cases e1
  cases e2
  exact ⟨b, o, e, h0, h1, h2⟩

theorem ex0 (W : World) : Calls Try.prog 27 #[.slice (some ⟨W.heap.size, 0, none⟩) 3 3] (W.alloc (.cells #[.int .i64 4, .int .i64 (-6), .int .i64 0] 2)) (VecPost (W.alloc (.cells #[.int .i64 4, .int .i64 (-6), .int .i64 0] 2)).heap.size (W.alloc (.cells #[.int .i64 4, .int .i64 (-6), .int .i64 0] 2)) ([2, -3, 0], 0)) := by
  have e : primV [4, -6, 0] = ([2, -3, 0], 0) := by decide +kernel
  have r0 : ReadsV (W.alloc (.cells #[.int .i64 4, .int .i64 (-6), .int .i64 0] 2)) (some ⟨W.heap.size, 0, none⟩) [4, -6, 0] := ReadsV.row (row1 W _ _) rfl
  rw [← e]
  exact prim_law _ [4, -6, 0] _ _ (by unfold In64; decide) r0 (by decide)

theorem ex1 (W : World) : Calls Try.prog 21 #[.slice (some ⟨W.heap.size, 0, none⟩) 2 2, .int .i64 2, .slice (some ⟨W.heap.size + 1, 0, none⟩) 2 2, .int .i64 3] ((W.alloc (.cells #[.int .i64 1, .int .i64 0] 2)).alloc (.cells #[.int .i64 0, .int .i64 1] 2)) (VecPost ((W.alloc (.cells #[.int .i64 1, .int .i64 0] 2)).alloc (.cells #[.int .i64 0, .int .i64 1] 2)).heap.size ((W.alloc (.cells #[.int .i64 1, .int .i64 0] 2)).alloc (.cells #[.int .i64 0, .int .i64 1] 2)) ([2, 3], 0)) := by
  have e : cmbV [1, 0] 2 [0, 1] 3 = ([2, 3], 0) := by decide +kernel
  have r0 : ReadsV ((W.alloc (.cells #[.int .i64 1, .int .i64 0] 2)).alloc (.cells #[.int .i64 0, .int .i64 1] 2)) (some ⟨W.heap.size, 0, none⟩) [1, 0] := ReadsV.row (row2a W _ _ _) rfl
  have r1 : ReadsV ((W.alloc (.cells #[.int .i64 1, .int .i64 0] 2)).alloc (.cells #[.int .i64 0, .int .i64 1] 2)) (some ⟨W.heap.size + 1, 0, none⟩) [0, 1] := ReadsV.row (row2b W _ _ _) rfl
  rw [← e]
  exact cmb_law _ _ [1, 0] [0, 1] _ _ 2 3 _ (by unfold In64; decide) (by unfold In64; decide) r0 r1 (by decide) (by omega) (by omega) (by omega) (by omega)

theorem ex2 (W : World) : Calls Try.prog 16 #[.slice (some ⟨W.heap.size, 0, none⟩) 2 2, .slice (some ⟨W.heap.size + 1, 0, none⟩) 2 2] ((W.alloc (.cells #[.int .i64 1, .int .i64 2] 2)).alloc (.cells #[.int .i64 3, .int .i64 4] 2)) (DPost ((W.alloc (.cells #[.int .i64 1, .int .i64 2] 2)).alloc (.cells #[.int .i64 3, .int .i64 4] 2)).heap.size ((W.alloc (.cells #[.int .i64 1, .int .i64 2] 2)).alloc (.cells #[.int .i64 3, .int .i64 4] 2)) (11, 0)) := by
  have e : dotV [1, 2] [3, 4] = (11, 0) := by decide +kernel
  have r0 : ReadsV ((W.alloc (.cells #[.int .i64 1, .int .i64 2] 2)).alloc (.cells #[.int .i64 3, .int .i64 4] 2)) (some ⟨W.heap.size, 0, none⟩) [1, 2] := ReadsV.row (row2a W _ _ _) rfl
  have r1 : ReadsV ((W.alloc (.cells #[.int .i64 1, .int .i64 2] 2)).alloc (.cells #[.int .i64 3, .int .i64 4] 2)) (some ⟨W.heap.size + 1, 0, none⟩) [3, 4] := ReadsV.row (row2b W _ _ _) rfl
  rw [← e]
  exact dot_law _ _ [1, 2] [3, 4] _ _ _ (by unfold In64; decide) (by unfold In64; decide) r0 r1 (by decide)

theorem ex3 (W : World) : Calls Try.prog 12 #[.slice (some ⟨W.heap.size, 0, none⟩) 1 1, .slice (some ⟨W.heap.size + 1, 0, none⟩) 1 1] ((W.alloc (.cells #[.int .i64 1] 2)).alloc (.cells #[.int .i64 2] 2)) (VecPost ((W.alloc (.cells #[.int .i64 1] 2)).alloc (.cells #[.int .i64 2] 2)).heap.size ((W.alloc (.cells #[.int .i64 1] 2)).alloc (.cells #[.int .i64 2] 2)) ([3], 0)) := by
  have e : addV [1] [2] = ([3], 0) := by decide +kernel
  have r0 : ReadsV ((W.alloc (.cells #[.int .i64 1] 2)).alloc (.cells #[.int .i64 2] 2)) (some ⟨W.heap.size, 0, none⟩) [1] := ReadsV.row (row2a W _ _ _) rfl
  have r1 : ReadsV ((W.alloc (.cells #[.int .i64 1] 2)).alloc (.cells #[.int .i64 2] 2)) (some ⟨W.heap.size + 1, 0, none⟩) [2] := ReadsV.row (row2b W _ _ _) rfl
  rw [← e]
  exact add_law _ _ [1] [2] _ _ _ (by unfold In64; decide) (by unfold In64; decide) r0 r1 (by decide)

theorem ex4 (W : World) : Calls Try.prog 14 #[.slice (some ⟨W.heap.size, 0, none⟩) 1 1, .slice (some ⟨W.heap.size + 1, 0, none⟩) 1 1] ((W.alloc (.cells #[.int .i64 1] 2)).alloc (.cells #[.int .i64 3] 2)) (VecPost ((W.alloc (.cells #[.int .i64 1] 2)).alloc (.cells #[.int .i64 3] 2)).heap.size ((W.alloc (.cells #[.int .i64 1] 2)).alloc (.cells #[.int .i64 3] 2)) ([-2], 0)) := by
  have e : subV [1] [3] = ([-2], 0) := by decide +kernel
  have r0 : ReadsV ((W.alloc (.cells #[.int .i64 1] 2)).alloc (.cells #[.int .i64 3] 2)) (some ⟨W.heap.size, 0, none⟩) [1] := ReadsV.row (row2a W _ _ _) rfl
  have r1 : ReadsV ((W.alloc (.cells #[.int .i64 1] 2)).alloc (.cells #[.int .i64 3] 2)) (some ⟨W.heap.size + 1, 0, none⟩) [3] := ReadsV.row (row2b W _ _ _) rfl
  rw [← e]
  exact sub_law _ _ [1] [3] _ _ _ (by unfold In64; decide) (by unfold In64; decide) r0 r1 (by decide)

theorem ex5 (W : World) : Calls Try.prog 19 #[.slice (some ⟨W.heap.size, 0, none⟩) 1 1, .int .i64 (-3)] (W.alloc (.cells #[.int .i64 2] 2)) (VecPost (W.alloc (.cells #[.int .i64 2] 2)).heap.size (W.alloc (.cells #[.int .i64 2] 2)) ([-6], 0)) := by
  have e : sclV [2] (-3) = ([-6], 0) := by decide +kernel
  have r0 : ReadsV (W.alloc (.cells #[.int .i64 2] 2)) (some ⟨W.heap.size, 0, none⟩) [2] := ReadsV.row (row1 W _ _) rfl
  rw [← e]
  exact scl_law _ [2] _ (-3) _ (by unfold In64; decide) r0 (by decide) (by omega) (by omega)

theorem ex6 (W : World) : Calls Try.prog 12 #[.slice (some ⟨W.heap.size, 0, none⟩) 1 1, .slice none 0 0] (W.alloc (.cells #[.int .i64 1] 2)) (VecPost (W.alloc (.cells #[.int .i64 1] 2)).heap.size (W.alloc (.cells #[.int .i64 1] 2)) ([], 2)) := by
  have e : addV [1] [] = ([], 2) := by decide +kernel
  have r0 : ReadsV (W.alloc (.cells #[.int .i64 1] 2)) (some ⟨W.heap.size, 0, none⟩) [1] := ReadsV.row (row1 W _ _) rfl
  rw [← e]
  exact add_law _ _ [1] [] _ 0 _ (by unfold In64; decide) in_nil r0 (ReadsV.nil _ none) (by decide)

theorem ex7 (W : World) : Calls Try.prog 12 #[.slice (some ⟨W.heap.size, 0, none⟩) 1 1, .slice (some ⟨W.heap.size + 1, 0, none⟩) 1 1] ((W.alloc (.cells #[.int .i64 9223372036854775807] 2)).alloc (.cells #[.int .i64 1] 2)) (VecPost ((W.alloc (.cells #[.int .i64 9223372036854775807] 2)).alloc (.cells #[.int .i64 1] 2)).heap.size ((W.alloc (.cells #[.int .i64 9223372036854775807] 2)).alloc (.cells #[.int .i64 1] 2)) ([], 3)) := by
  have e : addV [9223372036854775807] [1] = ([], 3) := by decide +kernel
  have r0 : ReadsV ((W.alloc (.cells #[.int .i64 9223372036854775807] 2)).alloc (.cells #[.int .i64 1] 2)) (some ⟨W.heap.size, 0, none⟩) [9223372036854775807] := ReadsV.row (row2a W _ _ _) rfl
  have r1 : ReadsV ((W.alloc (.cells #[.int .i64 9223372036854775807] 2)).alloc (.cells #[.int .i64 1] 2)) (some ⟨W.heap.size + 1, 0, none⟩) [1] := ReadsV.row (row2b W _ _ _) rfl
  rw [← e]
  exact add_law _ _ [9223372036854775807] [1] _ _ _ (by unfold In64; decide) (by unfold In64; decide) r0 r1 (by decide)

theorem exS (W : World) : Calls Try.prog 30 #[.slice (some ⟨W.heap.size, 0, none⟩) 2 2] (W.alloc (.cells #[.int .i64 0, .int .i64 5] 2)) (IsPost (W.alloc (.cells #[.int .i64 0, .int .i64 5] 2)).heap.size (W.alloc (.cells #[.int .i64 0, .int .i64 5] 2)) [1]) := by
  have e : sup [0, 5] 2 = [1] := by decide +kernel
  have r0 : ReadsV (W.alloc (.cells #[.int .i64 0, .int .i64 5] 2)) (some ⟨W.heap.size, 0, none⟩) [0, 5] := ReadsV.row (row1 W _ _) rfl
  rw [← e]
  exact sup_law _ [0, 5] 2 _ r0 (by decide)
theorem exL (W : World) : Calls Try.prog 23 #[.slice (some ⟨W.heap.size, 0, none⟩) 1 1, .slice (some ⟨W.heap.size + 1, 0, none⟩) 1 1] ((W.alloc (.cells #[.int .i64 1] 2)).alloc (.cells #[.int .i64 1] 2)) (BPost ((W.alloc (.cells #[.int .i64 1] 2)).alloc (.cells #[.int .i64 1] 2)).heap.size ((W.alloc (.cells #[.int .i64 1] 2)).alloc (.cells #[.int .i64 1] 2)) true) := by
  have e : leqV [1] [1] = true := by decide +kernel
  have r0 : ReadsV ((W.alloc (.cells #[.int .i64 1] 2)).alloc (.cells #[.int .i64 1] 2)) (some ⟨W.heap.size, 0, none⟩) [1] := ReadsV.row (row2a W _ _ _) rfl
  have r1 : ReadsV ((W.alloc (.cells #[.int .i64 1] 2)).alloc (.cells #[.int .i64 1] 2)) (some ⟨W.heap.size + 1, 0, none⟩) [1] := ReadsV.row (row2b W _ _ _) rfl
  rw [← e]
  exact leq_law _ _ [1] [1] 1 1 _ r0 r1 (by decide)
theorem exC (W : World) : Calls Try.prog 25 #[.slice (some ⟨W.heap.size, 0, none⟩) 1 1, .slice (some ⟨W.heap.size + 1, 0, none⟩) 2 2] ((W.alloc (.cells #[.int .i64 1] 2)).alloc (.cells #[.int .i64 1, .int .i64 0] 2)) (IPost ((W.alloc (.cells #[.int .i64 1] 2)).alloc (.cells #[.int .i64 1, .int .i64 0] 2)).heap.size ((W.alloc (.cells #[.int .i64 1] 2)).alloc (.cells #[.int .i64 1, .int .i64 0] 2)) (-1)) := by
  have e : cmpL [1] [1, 0] = -1 := by decide +kernel
  have r0 : ReadsV ((W.alloc (.cells #[.int .i64 1] 2)).alloc (.cells #[.int .i64 1, .int .i64 0] 2)) (some ⟨W.heap.size, 0, none⟩) [1] := ReadsV.row (row2a W _ _ _) rfl
  have r1 : ReadsV ((W.alloc (.cells #[.int .i64 1] 2)).alloc (.cells #[.int .i64 1, .int .i64 0] 2)) (some ⟨W.heap.size + 1, 0, none⟩) [1, 0] := ReadsV.row (row2b W _ _ _) rfl
  rw [← e]
  exact cmp_law _ _ [1] [1, 0] 1 2 _ r0 r1 (by decide) (by decide)

set_option maxHeartbeats 4000000 in
set_option maxRecDepth 100000 in
theorem lives_any (w : World) : Calls Try.prog 11 #[] w (BPost w.heap.size w true) := by
  go_enter Try.func11, Try.ntmps11
  go_wp2_with fail
  refine (ex0 _).mono ?_
  rintro e w0 ⟨A0, c0, rfl, R0, K0⟩
  have R0 := Lib.hid R0
  have K0 := Lib.hid (via1 K0)
  have D0 := K0
  go_wp2_with fail
  refine (ex1 _).mono ?_
  rintro e w1 ⟨A1, c1, rfl, R1, K1⟩
  have R1 := Lib.hid R1
  have K1 := Lib.hid (via2 K1)
  have D1 : Hid (Below w.heap.size w w1) := D0.out.trans (K1.out.mono D0.out.size)
  have R0 := Lib.hid (R0.out.below K1.out (Nat.le_refl _))
  go_wp2_with fail
  refine (ex2 _).mono ?_
  rintro e w2 ⟨rfl, K2⟩
  have K2 := Lib.hid (via2 K2)
  have D2 : Hid (Below w.heap.size w w2) := D1.out.trans (K2.out.mono D1.out.size)
  have R0 := Lib.hid (R0.out.below K2.out (Nat.le_refl _))
  have R1 := Lib.hid (R1.out.below K2.out (Nat.le_refl _))
  go_wp2_with fail
  refine (ex3 _).mono ?_
  rintro e w3 ⟨A3, c3, rfl, R3, K3⟩
  have R3 := Lib.hid R3
  have K3 := Lib.hid (via2 K3)
  have D3 : Hid (Below w.heap.size w w3) := D2.out.trans (K3.out.mono D2.out.size)
  have R0 := Lib.hid (R0.out.below K3.out (Nat.le_refl _))
  have R1 := Lib.hid (R1.out.below K3.out (Nat.le_refl _))
  go_wp2_with fail
  refine (ex4 _).mono ?_
  rintro e w4 ⟨A4, c4, rfl, R4, K4⟩
  have R4 := Lib.hid R4
  have K4 := Lib.hid (via2 K4)
  have D4 : Hid (Below w.heap.size w w4) := D3.out.trans (K4.out.mono D3.out.size)
  have R0 := Lib.hid (R0.out.below K4.out (Nat.le_refl _))
  have R1 := Lib.hid (R1.out.below K4.out (Nat.le_refl _))
  have R3 := Lib.hid (R3.out.below K4.out (Nat.le_refl _))
  go_wp2_with fail
  refine (ex5 _).mono ?_
  rintro e w5 ⟨A5, c5, rfl, R5, K5⟩
  have R5 := Lib.hid R5
  have K5 := Lib.hid (via1 K5)
  have D5 : Hid (Below w.heap.size w w5) := D4.out.trans (K5.out.mono D4.out.size)
  have R0 := Lib.hid (R0.out.below K5.out (Nat.le_refl _))
  have R1 := Lib.hid (R1.out.below K5.out (Nat.le_refl _))
  have R3 := Lib.hid (R3.out.below K5.out (Nat.le_refl _))
  have R4 := Lib.hid (R4.out.below K5.out (Nat.le_refl _))
  go_wp2_with fail
  refine (ex6 _).mono ?_
  rintro e w6 ⟨A6, c6, rfl, R6, K6⟩
  have R6 := Lib.hid R6
  have K6 := Lib.hid (via1 K6)
  have D6 : Hid (Below w.heap.size w w6) := D5.out.trans (K6.out.mono D5.out.size)
  have R0 := Lib.hid (R0.out.below K6.out (Nat.le_refl _))
  have R1 := Lib.hid (R1.out.below K6.out (Nat.le_refl _))
  have R3 := Lib.hid (R3.out.below K6.out (Nat.le_refl _))
  have R4 := Lib.hid (R4.out.below K6.out (Nat.le_refl _))
  have R5 := Lib.hid (R5.out.below K6.out (Nat.le_refl _))
  go_wp2_with fail
  refine (ex7 _).mono ?_
  rintro e w7 ⟨A7, c7, rfl, R7, K7⟩
  have R7 := Lib.hid R7
  have K7 := Lib.hid (via2 K7)
  have D7 : Hid (Below w.heap.size w w7) := D6.out.trans (K7.out.mono D6.out.size)
  have R0 := Lib.hid (R0.out.below K7.out (Nat.le_refl _))
  have R1 := Lib.hid (R1.out.below K7.out (Nat.le_refl _))
  have R3 := Lib.hid (R3.out.below K7.out (Nat.le_refl _))
  have R4 := Lib.hid (R4.out.below K7.out (Nat.le_refl _))
  have R5 := Lib.hid (R5.out.below K7.out (Nat.le_refl _))
  have R6 := Lib.hid (R6.out.below K7.out (Nat.le_refl _))
  obtain ⟨b0, o0, rfl, p0, p1, p2⟩ := read3 R0.out
  obtain ⟨b1, o1, rfl, p3, p4⟩ := read2 R1.out
  obtain ⟨b3, o3, rfl, p5⟩ := read1 R3.out
  obtain ⟨b4, o4, rfl, p6⟩ := read1 R4.out
  obtain ⟨b5, o5, rfl, p7⟩ := read1 R5.out
  clear R0 R1 R3 R4 R5 R6 R7
  go_wp2_with fail
  refine (exS _).mono ?_
  rintro e w8 ⟨A8, c8, rfl, R8, K8⟩
  have K8 := Lib.hid (via1 K8)
  have D8 : Hid (Below w.heap.size w w8) := D7.out.trans (K8.out.mono D7.out.size)
  clear p0 p1 p2 p3 p4 p5 p6 p7
  obtain ⟨b8, o8, rfl, p8⟩ := read1 R8
  clear R8
  go_wp2_with fail
  refine (exL _).mono ?_
  rintro e w9 ⟨rfl, K9⟩
  have K9 := Lib.hid (via2 K9)
  have D9 : Hid (Below w.heap.size w w9) := D8.out.trans (K9.out.mono D8.out.size)
  go_wp2_with fail
  refine (exC _).mono ?_
  rintro e w10 ⟨rfl, K10⟩
  have K10 := Lib.hid (via2 K10)
  go_wp2
  go_ret
  exact ⟨rfl, D9.out.trans (K10.out.mono D9.out.size)⟩
end Go.Proofs.Ytcihdecfganohaa
