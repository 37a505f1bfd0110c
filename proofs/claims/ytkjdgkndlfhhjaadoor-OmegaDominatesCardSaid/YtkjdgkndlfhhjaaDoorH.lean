/- The chapter's example holds, in every world. -/
import Derived.Test.YtkjdgkndlfhhjaaDoorG
namespace Go.Proofs.YtkjdgkndlfhhjaaDoor
open Go.RowKit

theorem Below.cell' {B : Nat} {w w' : World} (h : Below B w w') {b j : Nat} {v : Value} (hb : b < B) (hc : w.cell? ⟨b, j, none⟩ = some v) : w'.cell? ⟨b, j, none⟩ = some v := (h.cell (p := ⟨b, j, none⟩) hb).trans hc
theorem Itoa_ex (k : Nat) (hk : k < 10) (c : UInt8) (hc : Lib.decDigits k = [c]) (W : World) : Calls Tryd.prog 30 #[.int .i64 k] W fun e w' => e = .returned (.string ⟨#[c]⟩) ∧ W = w' := by
  have h := Tryd.strconv_Itoa_small k (by omega) W
  rw [hc] at h
  exact h.mono fun _ _ ⟨h1, h2⟩ => ⟨h1, h2.symm⟩

set_option maxHeartbeats 4000000 in
set_option maxRecDepth 100000 in
theorem text_ex (bA off c : Nat) (w : World) (hA : bA < w.heap.size) (h0 : w.cell? ⟨bA, off, none⟩ = some (.int .i64 1)) (h1 : w.cell? ⟨bA, off + 1, none⟩ = some (.int .i64 (-1))) (h2 : w.cell? ⟨bA, off + 2, none⟩ = some (.int .i64 2)) :
    Calls Tryd.prog 12 #[.slice (some ⟨bA, off, none⟩) 3 c] w fun e w' => e = .returned (.string ⟨#[49, 44, 119, 44, 50]⟩) ∧ Below w.heap.size w w' := by
  have I1 := Lib.hid (Itoa_ex 1 (by decide) 49 (by decide +kernel))
  have I2 := Lib.hid (Itoa_ex 2 (by decide) 50 (by decide +kernel))
  have F0 := Lib.hid (Lib.fresh_isBuilder 43 5 w)
  have D0 : Hid (Below w.heap.size w (w.alloc (.cells #[.pointer none, .slice none 0 0] 43))) := (Below.refl _ _).alloc (Nat.le_refl _) _
  have T := Lib.hid (fun bs s W h hl hB => text_law w.heap.size w.heap.size bs s W h hl hB)
  have Y := Lib.hid (fun bs s W h hl hB => byte_law w.heap.size w.heap.size bs s W h hl hB)
  have S := Lib.hid (fun l W h hB => Tryd.Builder_String_any w.heap.size w.heap.size l W h hB)
  have G0 := Lib.hid (fun W (h : Below w.heap.size w W) => Below.cell' h hA h0)
  have G1 := Lib.hid (fun W (h : Below w.heap.size w W) => Below.cell' h hA h1)
  have G2 := Lib.hid (fun W (h : Below w.heap.size w W) => Below.cell' h hA h2)
  clear h0 h1 h2
  have q0 := G0.out _ D0.out
  go_enter Tryd.func12, Tryd.ntmps12
  go_wp2_with fail
  refine wp_loop_rounds 4 ?_
  rw [rounds_succ]
  go_wp2_with fail
  refine (I1.out _).mono ?_
  rintro e w1 ⟨rfl, rfl⟩
  go_wp2_with fail
  refine (T.out [] ⟨#[49]⟩ _ F0.out (by decide) (by simp)).mono ?_
  rintro e w1 ⟨rfl, F1, K1⟩
  have D1 : Hid (Below w.heap.size w w1) := D0.out.trans K1
  have F1 := Lib.hid F1
  have q1 := G1.out _ D1.out
  clear K1 F0 D0 q0
  go_wp2_with fail
  rw [rounds_succ]
  go_wp2_with fail
  refine (Y.out _ 44 _ (.inr F1.out) (by decide) D1.out.size).mono ?_
  rintro e w2 ⟨rfl, F2, K2⟩
  have D2 : Hid (Below w.heap.size w w2) := D1.out.trans K2
  have F2 := Lib.hid F2
  clear K2 F1 D1 q1
  go_wp2_with fail
  refine (T.out _ ⟨#[119]⟩ _ (.inr F2.out) (by decide) D2.out.size).mono ?_
  rintro e w3 ⟨rfl, F3, K3⟩
  have D3 : Hid (Below w.heap.size w w3) := D2.out.trans K3
  have F3 := Lib.hid F3
  have q2 := G2.out _ D3.out
  clear K3 F2 D2
  go_wp2_with fail
  rw [rounds_succ]
  go_wp2_with fail
  refine (Y.out _ 44 _ (.inr F3.out) (by decide) D3.out.size).mono ?_
  rintro e w4 ⟨rfl, F4, K4⟩
  have D4 : Hid (Below w.heap.size w w4) := D3.out.trans K4
  have F4 := Lib.hid F4
  clear K4 F3 D3 q2
  go_wp2_with fail
  refine (I2.out _).mono ?_
  rintro e w5 ⟨rfl, rfl⟩
  go_wp2_with fail
  refine (T.out _ ⟨#[50]⟩ _ (.inr F4.out) (by decide) D4.out.size).mono ?_
  rintro e w5 ⟨rfl, F5, K5⟩
  have D5 : Hid (Below w.heap.size w w5) := D4.out.trans K5
  have F5 := Lib.hid F5
  clear K5 F4 D4
  go_wp2_with fail
  rw [rounds_succ]
  go_wp2_with fail
  refine (S.out [49, 44, 119, 44, 50] w5 (.inr F5.out) D5.out.size).mono ?_
  rintro e w6 ⟨rfl, K6⟩
  go_wp2
  go_ret
  exact ⟨rfl, D5.out.trans K6⟩

theorem reads_three (g : Nat) (w : World) (x y z : Int) (t : TypeId) (h : w.heap[g]? = some (.cells #[.int .i64 x, .int .i64 y, .int .i64 z] t (0, 0))) : ReadsV w (some ⟨g, 0, none⟩) [x, y, z] := ReadsV.row h rfl
theorem acc_ex : accM [1, 0, 2] [1, 1, 2] = [1, -1, 2] := by decide +kernel
theorem cov_ex1 : covW [1, -1, 2] [1, 7, 0] = true := by decide +kernel
theorem cov_ex2 : covW [1, -1, 2] [2, 7, 0] = false := by decide +kernel

set_option maxHeartbeats 4000000 in
set_option maxRecDepth 100000 in
theorem example_any (w : World) :
    Calls Tryd.prog 5 #[] w fun e w' => e = .returned (.bool true) ∧ Below w.heap.size w w' := by
  have A := Lib.hid (fun A B ca cb W ra rb => acc_law A B [1, 0, 2] [1, 1, 2] ca cb W ra rb (by decide) (by decide))
  rw [acc_ex] at A
  have C1 := Lib.hid (fun A B ca cb W ra rb => covers_law A B [1, -1, 2] [1, 7, 0] ca cb W ra rb (by decide) (by decide))
  rw [cov_ex1] at C1
  have C2 := Lib.hid (fun A B ca cb W ra rb => covers_law A B [1, -1, 2] [2, 7, 0] ca cb W ra rb (by decide) (by decide))
  rw [cov_ex2] at C2
  have D0 : Hid (Below w.heap.size w ((w.alloc (.cells #[.int .i64 1, .int .i64 0, .int .i64 2] 3)).alloc (.cells #[.int .i64 1, .int .i64 1, .int .i64 2] 3))) := ((Below.refl _ _).alloc (Nat.le_refl _) _).alloc (by simp) _
  have R0 : Hid (ReadsV ((w.alloc (.cells #[.int .i64 1, .int .i64 0, .int .i64 2] 3)).alloc (.cells #[.int .i64 1, .int .i64 1, .int .i64 2] 3)) (some ⟨w.heap.size, 0, none⟩) [1, 0, 2]) := (reads_three _ _ 1 0 2 3 (heap_alloc_new w _)).alloc _
  have R1 : Hid (ReadsV ((w.alloc (.cells #[.int .i64 1, .int .i64 0, .int .i64 2] 3)).alloc (.cells #[.int .i64 1, .int .i64 1, .int .i64 2] 3)) (some ⟨w.heap.size + 1, 0, none⟩) [1, 1, 2]) := reads_three _ _ 1 1 2 3 (by have h := heap_alloc_new (w.alloc (.cells #[.int .i64 1, .int .i64 0, .int .i64 2] 3)) (.cells #[.int .i64 1, .int .i64 1, .int .i64 2] 3); rw [World.size_alloc] at h; exact h)
  go_enter Tryd.func5, Tryd.ntmps5
  go_wp2_with fail
  refine (A.out _ _ _ _ _ R0.out R1.out).mono ?_
  rintro e w1 ⟨A1, c1, rfl, RR, K1⟩
  have D1 : Hid (Below w.heap.size w w1) := D0.out.trans (K1.mono (by simp; omega))
  have RR := Lib.hid RR
  clear K1 D0 R0 R1
  obtain ⟨bA, off, e0, l0, h0⟩ := RR.out 0 (by decide)
  subst e0
  obtain ⟨b2, o2, e2, _, h1⟩ := RR.out 1 (by decide)
  cases e2
  obtain ⟨b2, o2, e2, _, h2⟩ := RR.out 2 (by decide)
  cases e2
  have T := Lib.hid (text_ex bA off c1 w1 l0 h0 h1 h2)
  clear h0 h1 h2
  go_wp2_with fail
  refine T.out.mono ?_
  rintro e w2 ⟨rfl, K2⟩
  have D2 : Hid (Below w.heap.size w w2) := D1.out.trans (K2.mono D1.out.size)
  have RR2 := Lib.hid (RR.out.below K2 (Nat.le_refl _))
  clear K2 RR D1 T
  go_wp2_with fail
  refine (C1.out _ _ _ _ _ (RR2.out.alloc _) (reads_three _ _ 1 7 0 3 (heap_alloc_new w2 _))).mono ?_
  rintro e w3 ⟨rfl, K3⟩
  have D3 : Hid (Below w.heap.size w w3) := (D2.out.alloc D2.out.size _).trans (K3.mono (by have := D2.out.size; rw [World.size_alloc]; omega))
  have RR3 := Lib.hid ((RR2.out.alloc _).below K3 (Nat.le_refl _))
  clear K3 RR2 D2
  go_wp2_with fail
  refine (C2.out _ _ _ _ _ (RR3.out.alloc _) (reads_three _ _ 2 7 0 3 (heap_alloc_new w3 _))).mono ?_
  rintro e w4 ⟨rfl, K4⟩
  go_wp2
  go_ret
  exact ⟨rfl, (D3.out.alloc D3.out.size _).trans (K4.mono (by have := D3.out.size; rw [World.size_alloc]; omega))⟩
end Go.Proofs.YtkjdgkndlfhhjaaDoor
