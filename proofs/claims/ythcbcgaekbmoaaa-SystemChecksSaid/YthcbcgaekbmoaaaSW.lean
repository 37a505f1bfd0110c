/- The example holds. -/
import Derived.Test.YthcbcgaekbmoaaaSU
namespace Go.Proofs.Ythcbcgaekbmoaaa
open Go.RowKit Go.Deep

set_option maxHeartbeats 4000000 in
set_option maxRecDepth 100000 in
theorem same_cyc (x y : Nat) (w : World) (hx : In2 w x 0 1) (hy : In2 w y 0 1) : Calls Try.prog 18 #[.slice (some ⟨x, 0, none⟩) 2 2, .slice (some ⟨y, 0, none⟩) 2 2] w (VPost w.heap.size w (.bool true)) := by
  have q0 := hx.c0
  have q1 := hy.c0
  have HX := Lib.hid hx
  have HY := Lib.hid hy
  clear hx hy
  go_enter Try.func18, Try.ntmps18
  go_wp2
  refine wp_loop_rounds 3 ?_
  rw [rounds_succ]
  go_wp2
  go_region
  clear q0 q1
  have HX1 : Hid (In2 w.drew x 0 1) := HX.out
  have HY1 : Hid (In2 w.drew y 0 1) := HY.out
  have B1 : Hid (Below w.heap.size w w.drew) := (Below.refl _ w).drew
  generalize w.drew = w1 at *
  have q0 := HX1.out.c1
  have q1 := HY1.out.c1
  go_wp2
  rw [rounds_succ]
  go_wp2
  go_region
  clear q0 q1
  have B2 : Hid (Below w.heap.size w w1.drew) := B1.out.drew
  generalize w1.drew = w2 at *
  go_wp2
  rw [rounds_succ]
  go_wp2
  go_ret
  exact ⟨rfl, B2.out⟩
set_option maxHeartbeats 4000000 in
set_option maxRecDepth 100000 in
theorem alive_any (w : World) : Calls Try.prog 7 #[] w (VPost w.heap.size w (.bool true)) := by
  have B0 : Hid (Below w.heap.size w w) := Below.refl _ _
  go_enter Try.func7, Try.ntmps7
  go_wp2_with fail
  refine (cycle_any _).mono ?_
  rintro e w1 ⟨e1, a1, rfl, h1, h2, -, -, K⟩
  have B1 : Hid (Below w.heap.size w w1) := B0.out.trans (K.mono B0.out.size)
  have H1 := Lib.hid h1
  have H2 := Lib.hid h2
  clear h1 h2 K B0
  go_wp2_with fail
  refine (cycle_any _).mono ?_
  rintro e w2 ⟨e2, a2, rfl, h3, h4, -, -, K⟩
  have B2 : Hid (Below w.heap.size w w2) := B1.out.trans (K.mono B1.out.size)
  have H1 := Lib.hid (H1.out.below K H1.out.lt)
  have H2 := Lib.hid (H2.out.below K H2.out.lt)
  have H3 := Lib.hid h3
  have H4 := Lib.hid h4
  clear h3 h4 K B1
  go_wp2_with fail
  refine (iso_cyc e1 a1 e2 a2 _ H1.out H2.out H3.out H4.out).mono ?_
  rintro e w3 ⟨q, rfl, hq, K⟩
  have B3 : Hid (Below w.heap.size w w3) := B2.out.trans (K.mono B2.out.size)
  have HQ := Lib.hid hq
  clear hq K B2 H1 H2 H3 H4
  go_wp2_with fail
  have K4 : Below w3.heap.size w3 (w3.alloc (.cells #[.int .i64 0, .int .i64 1] 3)) := (Below.refl _ _).alloc (Nat.le_refl _) _
  have N4 : In2 (w3.alloc (.cells #[.int .i64 0, .int .i64 1] 3)) w3.heap.size 0 1 := heap_alloc_new _ _
  refine (same_cyc q _ _ (HQ.out.keep K4) N4).mono ?_
  rintro e w4 ⟨rfl, K⟩
  have B4 : Hid (Below w.heap.size w w4) := (B3.out.trans (K4.mono B3.out.size)).trans (K.mono (B3.out.trans (K4.mono B3.out.size)).size)
  clear K K4 N4 B3 HQ
  go_wp2_with fail
  refine (cycle_any _).mono ?_
  rintro e w5 ⟨e3, a3, rfl, h1, h2, -, -, K⟩
  have B5 : Hid (Below w.heap.size w w5) := B4.out.trans (K.mono B4.out.size)
  have H1 := Lib.hid h1
  have H2 := Lib.hid h2
  clear h1 h2 K B4
  go_wp2_with fail
  refine (next_cyc e3 a3 _ H1.out H2.out).mono ?_
  rintro e w6 ⟨rfl, K⟩
  have B6 : Hid (Below w.heap.size w w6) := B5.out.trans (K.mono B5.out.size)
  clear K B5 H1 H2
  go_wp2_with fail
  refine (cycle_any _).mono ?_
  rintro e w7 ⟨e4, a4, rfl, h1, h2, -, -, K⟩
  have B7 : Hid (Below w.heap.size w w7) := B6.out.trans (K.mono B6.out.size)
  have H1 := Lib.hid h1
  have H2 := Lib.hid h2
  clear h1 h2 K B6
  go_wp2_with fail
  refine (det_cyc e4 a4 _ H1.out H2.out).mono ?_
  rintro e w8 ⟨rfl, K⟩
  have B8 : Hid (Below w.heap.size w w8) := B7.out.trans (K.mono B7.out.size)
  clear K B7 H1 H2
  go_wp2_with fail
  refine (cycle_any _).mono ?_
  rintro e w9 ⟨e5, a5, rfl, h1, h2, -, -, K⟩
  have B9 : Hid (Below w.heap.size w w9) := B8.out.trans (K.mono B8.out.size)
  have H1 := Lib.hid h1
  have H2 := Lib.hid h2
  clear h1 h2 K B8
  go_wp2_with fail
  refine (rch_cyc e5 a5 _ H1.out H2.out).mono ?_
  rintro e w10 ⟨rfl, K⟩
  have B10 : Hid (Below w.heap.size w w10) := B9.out.trans (K.mono B9.out.size)
  clear K B9 H1 H2
  go_wp2
  go_ret
  exact ⟨rfl, B10.out⟩
end Go.Proofs.Ythcbcgaekbmoaaa
