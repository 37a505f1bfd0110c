/- The chapter's example holds, in every world where the tables lie as they were laid. -/
import Derived.Test.YtbpadefpgkjnaaaDoorTP
namespace Go.Proofs.YtbpadefpgkjnaaaDoor
open Go.RowKit

theorem ex_p1 : parseL [48, 49] = none := by decide +kernel
theorem ex_p2 : parseL [49, 44, 48, 44, 50] = some [1, 0, 2] := by decide +kernel
theorem ex_t : textL [1, 0, 2] = [49, 44, 48, 44, 50] := by decide +kernel
theorem ex_m : maxL [1, 0] [0, 3] = [1, 3] := by decide +kernel
theorem ex_s1 : sameL [1, 0, 2] [1, 0, 2] = true := by decide +kernel
theorem ex_s2 : sameL [1, 3] [1, 3] = true := by decide +kernel
theorem reads_two (g : Nat) (w : World) (x y : Int) (t : TypeId) (h : w.heap[g]? = some (.cells #[.int .i64 x, .int .i64 y] t (0, 0))) : ReadsV w (some ⟨g, 0, none⟩) [x, y] := ReadsV.row h rfl
theorem reads_three (g : Nat) (w : World) (x y z : Int) (t : TypeId) (h : w.heap[g]? = some (.cells #[.int .i64 x, .int .i64 y, .int .i64 z] t (0, 0))) : ReadsV w (some ⟨g, 0, none⟩) [x, y, z] := ReadsV.row h rfl

set_option maxHeartbeats 4000000 in
set_option maxRecDepth 100000 in
theorem alive_any (w : World) (hL : LaidW w) :
    Calls Tryd.prog 10 #[] w fun e w' => e = .returned (.bool true) ∧ Below w.heap.size w w' := by
  have LB := Lib.hid (fun W (h : Below w.heap.size w W) => hL.below h (Nat.le_refl _))
  have P1 := Lib.hid (fun W (h : Below w.heap.size w W) => parse_law [48, 49] W (LB.out W h))
  rw [ex_p1] at P1
  have P2 := Lib.hid (fun W (h : Below w.heap.size w W) => parse_law [49, 44, 48, 44, 50] W (LB.out W h))
  rw [ex_p2] at P2
  have S1 := Lib.hid (fun A B ca cb W ra rb => same_law A B [1, 0, 2] [1, 0, 2] ca cb W ra rb (by decide))
  rw [ex_s1] at S1
  have S2 := Lib.hid (fun A B ca cb W ra rb => same_law A B [1, 3] [1, 3] ca cb W ra rb (by decide))
  rw [ex_s2] at S2
  have T := Lib.hid (fun A ca W ra (h : Below w.heap.size w W) => text_law2 A [1, 0, 2] ca W ra (by unfold In64; decide) (by decide) (LB.out W h))
  rw [ex_t] at T
  have M := Lib.hid (fun A B ca cb W ra rb => max_law A B [1, 0] [0, 3] ca cb W ra rb (by decide))
  rw [ex_m] at M
  have Z : Hid (Below w.heap.size w w) := Below.refl _ _
  clear hL LB
  go_enter Tryd.func10, Tryd.ntmps10
  go_wp2_with fail
  refine (P1.out _ Z.out).mono ?_
  rintro e w1 ⟨rfl, K1⟩
  have B1 := Lib.hid K1
  clear K1
  go_wp2_with fail
  refine (P2.out _ B1.out).mono ?_
  rintro e w2 ⟨A2, c2, rfl, R2, K2⟩
  have B2 : Hid (Below w.heap.size w w2) := B1.out.trans (K2.mono B1.out.size)
  have R2 := Lib.hid R2
  clear K2 B1
  go_wp2_with fail
  refine (S1.out _ _ _ _ _ (R2.out.alloc _) (reads_three _ _ 1 0 2 3 (heap_alloc_new w2 _))).mono ?_
  rintro e w3 ⟨rfl, K3⟩
  have B3 : Hid (Below w.heap.size w w3) := (B2.out.alloc B2.out.size _).trans (K3.mono (by have := B2.out.size; rw [World.size_alloc]; omega))
  clear K3 R2 B2
  go_wp2_with fail
  refine (T.out _ _ _ (reads_three _ _ 1 0 2 3 (heap_alloc_new w3 _)) (B3.out.alloc B3.out.size _)).mono ?_
  rintro e w4 ⟨rfl, K4⟩
  have B4 : Hid (Below w.heap.size w w4) := (B3.out.alloc B3.out.size _).trans (K4.mono (by have := B3.out.size; rw [World.size_alloc]; omega))
  clear K4 B3
  go_wp2_with fail
  have h5 := heap_alloc_new (w4.alloc (.cells #[.int .i64 1, .int .i64 0] 3)) (.cells #[.int .i64 0, .int .i64 3] 3)
  rw [World.size_alloc] at h5
  refine (M.out _ _ _ _ _ ((reads_two _ _ 1 0 3 (heap_alloc_new w4 _)).alloc _) (reads_two _ _ 0 3 3 h5)).mono ?_
  rintro e w5 ⟨A5, c5, rfl, R5, K5⟩
  have B5 : Hid (Below w.heap.size w w5) := ((B4.out.alloc B4.out.size _).alloc (by have := B4.out.size; rw [World.size_alloc]; omega) _).trans (K5.mono (by have := B4.out.size; rw [World.size_alloc, World.size_alloc]; omega))
  have R5 := Lib.hid R5
  clear K5 B4 h5
  go_wp2_with fail
  refine (S2.out _ _ _ _ _ (R5.out.alloc _) (reads_two _ _ 1 3 3 (heap_alloc_new w5 _))).mono ?_
  rintro e w6 ⟨rfl, K6⟩
  go_wp2
  go_ret
  exact ⟨rfl, (B5.out.alloc B5.out.size _).trans (K6.mono (by have := B5.out.size; rw [World.size_alloc]; omega))⟩
end Go.Proofs.YtbpadefpgkjnaaaDoor
