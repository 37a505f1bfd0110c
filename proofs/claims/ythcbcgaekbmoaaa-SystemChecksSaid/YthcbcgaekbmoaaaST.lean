/- Iso's search at the example. -/
import Derived.Test.YthcbcgaekbmoaaaSQ
namespace Go.Proofs.Ythcbcgaekbmoaaa
open Go.RowKit Go.Deep

structure IsC where
  g : Nat
  Bi : Nat
  Bo : Nat
  Bn : Nat
  Bm : Nat
  Be : Nat
  Bv : Nat
  I : Nat
  O : Nat
  E : Nat
  T : Nat
  r : Nat
  s : Nat
  U : Nat
  p : Nat
  q : Nat
def IsC.fn (C : IsC) : Value := .func (.func 36) #[] #[.pointer (some ⟨C.Bi, 0, none⟩), .pointer (some ⟨C.Bo, 0, none⟩), .pointer (some ⟨C.Bn, 0, none⟩), .pointer (some ⟨C.Bm, 0, none⟩), .pointer (some ⟨C.Be, 0, none⟩), .pointer (some ⟨C.Bv, 0, none⟩)]
structure GeoI (C : IsC) : Prop where
  io : C.I ≠ C.O
  gi : C.g ≤ C.I
  go : C.g ≤ C.O
  ni : C.Bi ≠ C.I ∧ C.Bo ≠ C.I ∧ C.Bn ≠ C.I ∧ C.Bm ≠ C.I ∧ C.Be ≠ C.I ∧ C.Bv ≠ C.I ∧ C.E ≠ C.I ∧ C.T ≠ C.I ∧ C.r ≠ C.I ∧ C.s ≠ C.I ∧ C.U ≠ C.I ∧ C.p ≠ C.I ∧ C.q ≠ C.I
  no : C.Bi ≠ C.O ∧ C.Bo ≠ C.O ∧ C.Bn ≠ C.O ∧ C.Bm ≠ C.O ∧ C.Be ≠ C.O ∧ C.Bv ≠ C.O ∧ C.E ≠ C.O ∧ C.T ≠ C.O ∧ C.r ≠ C.O ∧ C.s ≠ C.O ∧ C.U ≠ C.O ∧ C.p ≠ C.O ∧ C.q ≠ C.O
structure EnvI (C : IsC) (w0 : World) (x0 x1 y0 y1 : Int) (W : World) : Prop where
  bi : W.cell? ⟨C.Bi, 0, none⟩ = some (.slice (some ⟨C.I, 0, none⟩) 2 2)
  bo : W.cell? ⟨C.Bo, 0, none⟩ = some (.slice (some ⟨C.O, 0, none⟩) 2 2)
  bn : W.cell? ⟨C.Bn, 0, none⟩ = some (.slice (some ⟨C.T, 0, none⟩) 2 2)
  bm : W.cell? ⟨C.Bm, 0, none⟩ = some (.slice (some ⟨C.U, 0, none⟩) 2 2)
  be : W.cell? ⟨C.Be, 0, none⟩ = some (.slice (some ⟨C.E, 0, none⟩) 2 2)
  bv : W.cell? ⟨C.Bv, 0, none⟩ = some C.fn
  ii : In2 W C.I x0 x1
  oo : In2 W C.O y0 y1
  ee : In2 W C.E 0 1
  tt : Sl2 W C.T C.r C.s
  uu : Sl2 W C.U C.p C.q
  rr : In2 W C.r 1 (-1)
  ss : In2 W C.s (-1) 0
  pp : In2 W C.p 1 (-1)
  qq : In2 W C.q (-1) 0
  bw : Below C.g w0 W
theorem EnvI.drew {C : IsC} {w0 : World} {x0 x1 y0 y1 : Int} {W : World} (h : EnvI C w0 x0 x1 y0 y1 W) : EnvI C w0 x0 x1 y0 y1 W.drew :=
  ⟨h.bi, h.bo, h.bn, h.bm, h.be, h.bv, h.ii, h.oo, h.ee, h.tt, h.uu, h.rr, h.ss, h.pp, h.qq, h.bw.drew⟩
theorem far_cell {W : World} {b k i : Nat} {u v : Value} (h : W.cell? ⟨b, 0, none⟩ = some u) (hne : b ≠ k) : (W.setCell ⟨k, i, none⟩ v).cell? ⟨b, 0, none⟩ = some u :=
  (World.cell?_setCell_other _ _ _ _ (by intro e; injection e with e1; first | exact hne e1 | exact hne e1.symm)).trans h
theorem EnvI.setI {C : IsC} {w0 : World} {x0 x1 y0 y1 : Int} {W : World} (G : GeoI C) (h : EnvI C w0 x0 x1 y0 y1 W) (i : Nat) (z : Int) (hi : i < 2) : EnvI C w0 (if i = 0 then z else x0) (if i = 0 then x1 else z) y0 y1 (W.setCell ⟨C.I, i, none⟩ (.int .i64 z)) := by
  obtain ⟨n1, n2, n3, n4, n5, n6, n7, n8, n9, n10, n11, n12, n13⟩ := G.ni
  exact ⟨far_cell h.bi n1, far_cell h.bo n2, far_cell h.bn n3, far_cell h.bm n4, far_cell h.be n5, far_cell h.bv n6, h.ii.set i z hi, h.oo.other (Ne.symm G.io), h.ee.other n7, h.tt.other n8, h.uu.other n11, h.rr.other n9, h.ss.other n10, h.pp.other n12, h.qq.other n13, h.bw.setCell G.gi _⟩
theorem EnvI.setO {C : IsC} {w0 : World} {x0 x1 y0 y1 : Int} {W : World} (G : GeoI C) (h : EnvI C w0 x0 x1 y0 y1 W) (i : Nat) (z : Int) (hi : i < 2) : EnvI C w0 x0 x1 (if i = 0 then z else y0) (if i = 0 then y1 else z) (W.setCell ⟨C.O, i, none⟩ (.int .i64 z)) := by
  obtain ⟨n1, n2, n3, n4, n5, n6, n7, n8, n9, n10, n11, n12, n13⟩ := G.no
  exact ⟨far_cell h.bi n1, far_cell h.bo n2, far_cell h.bn n3, far_cell h.bm n4, far_cell h.be n5, far_cell h.bv n6, h.ii.other G.io, h.oo.set i z hi, h.ee.other n7, h.tt.other n8, h.uu.other n11, h.rr.other n9, h.ss.other n10, h.pp.other n12, h.qq.other n13, h.bw.setCell G.go _⟩
abbrev IsC.args (C : IsC) (x y : Int) : Array Value := #[.int .i64 x, .int .i64 y, .pointer (some ⟨C.Bi, 0, none⟩), .pointer (some ⟨C.Bo, 0, none⟩), .pointer (some ⟨C.Bn, 0, none⟩), .pointer (some ⟨C.Bm, 0, none⟩), .pointer (some ⟨C.Be, 0, none⟩), .pointer (some ⟨C.Bv, 0, none⟩)]
set_option maxHeartbeats 4000000 in
set_option maxRecDepth 100000 in
theorem visit_seen (C : IsC) (w0 W : World) (E : EnvI C w0 0 1 0 1 W) : Calls Try.prog 36 (C.args 0 0) W (fun e W' => e = .returned (.bool true) ∧ EnvI C w0 0 1 0 1 W') := by
  have q1 := E.bi
  have q2 := E.ii.c0
  have HE := Lib.hid E
  unfold IsC.args
  go_enter Try.func36, Try.ntmps36
  go_wp2
  go_ret
  exact ⟨rfl, HE.out⟩
set_option maxHeartbeats 4000000 in
set_option maxRecDepth 100000 in
theorem visit_one (C : IsC) (G : GeoI C) (w0 W : World) (E : EnvI C w0 0 (-1) 0 (-1) W) : Calls Try.prog 36 (C.args 1 1) W (fun e W' => e = .returned (.bool true) ∧ EnvI C w0 0 1 0 1 W') := by
  have q1 := E.bi
  have q2 := E.ii.c1
  have q3 := E.bo
  have q4 := E.oo.c1
  have q5 := E.ii.fr 1
  have q6 := E.oo.fr 1
  have HE := Lib.hid E
  have HG := Lib.hid G
  unfold IsC.args
  go_enter Try.func36, Try.ntmps36
  go_wp2
  have hio := G.io
  have hoi := G.io.symm
  go_region
  obtain ⟨W2, hW2⟩ : ∃ W2, W2 = ((W.setCell ⟨C.I, 1, none⟩ (.int .i64 1)).setCell ⟨C.O, 1, none⟩ (.int .i64 1)).drew := ⟨_, rfl⟩
  have E2 : EnvI C w0 0 1 0 1 W2 := by rw [hW2]; exact (EnvI.setO G (EnvI.setI G HE.out 1 1 (by decide)) 1 1 (by decide)).drew
  rw [← hW2]
  clear hW2 E q1 q2 q3 q4 q5 q6 HE hio hoi
  have q1 := E2.bn
  have q2 := E2.tt.c1
  have q3 := E2.ss.c0
  have q4 := E2.bm
  have q5 := E2.uu.c1
  have q6 := E2.be
  have q7 := E2.ee.c0
  have q8 := E2.qq.c0
  have E2 := Lib.hid E2
  go_wp2
  refine wp_loop_rounds 3 ?_
  rw [rounds_succ]
  go_wp2
  go_region
  clear q1 q2 q3 q4 q5 q6 q7 q8
  have E3 := Lib.hid E2.out.drew
  generalize W2.drew = W3 at *
  have q2 := E3.out.tt.c1
  have q3 := E3.out.ss.c1
  have q4 := E3.out.bm
  have q5 := E3.out.uu.c1
  have q6 := E3.out.be
  have q7 := E3.out.ee.c1
  have q8 := E3.out.qq.c1
  go_wp2
  rw [rounds_succ]
  go_wp2
  go_region
  clear q2 q3 q4 q5 q6 q7 q8
  have E4 := Lib.hid E3.out.drew
  generalize W3.drew = W4 at *
  have CV := Lib.hid (visit_seen C w0 W4 E4.out)
  have q1 := E4.out.bv
  unfold IsC.fn at q1
  go_wp2_with fail
  refine CV.out.mono ?_
  rintro e W5 ⟨rfl, E5⟩
  have E5 := Lib.hid E5
  go_wp2
  rw [rounds_succ]
  go_wp2
  go_ret
  exact ⟨rfl, E5.out⟩
set_option maxHeartbeats 4000000 in
set_option maxRecDepth 100000 in
theorem visit_first (C : IsC) (G : GeoI C) (w0 W : World) (E : EnvI C w0 (-1) (-1) (-1) (-1) W) : Calls Try.prog 36 (C.args 0 0) W (fun e W' => e = .returned (.bool true) ∧ EnvI C w0 0 1 0 1 W') := by
  have q1 := E.bi
  have q2 := E.ii.c0
  have q3 := E.bo
  have q4 := E.oo.c0
  have q5 := E.ii.fr 0
  have q6 := E.oo.fr 0
  have HE := Lib.hid E
  have HG := Lib.hid G
  have CV := Lib.hid (fun W h => visit_one C G w0 W h)
  unfold IsC.args
  go_enter Try.func36, Try.ntmps36
  go_wp2
  have hio := G.io
  have hoi := G.io.symm
  have hn1 := G.ni.2.1
  have hn2 := G.ni.2.1.symm
  go_region
  obtain ⟨W2, hW2⟩ : ∃ W2, W2 = ((W.setCell ⟨C.I, 0, none⟩ (.int .i64 0)).setCell ⟨C.O, 0, none⟩ (.int .i64 0)).drew := ⟨_, rfl⟩
  have E2 : EnvI C w0 0 (-1) 0 (-1) W2 := by rw [hW2]; exact (EnvI.setO G (EnvI.setI G HE.out 0 0 (by decide)) 0 0 (by decide)).drew
  rw [← hW2]
  clear hW2 E q1 q2 q3 q4 q5 q6 HE hio hoi hn1 hn2
  have q1 := E2.bn
  have q2 := E2.tt.c0
  have q3 := E2.rr.c0
  have q4 := E2.bm
  have q5 := E2.uu.c0
  have q6 := E2.be
  have q7 := E2.ee.c0
  have q8 := E2.pp.c0
  have E2 := Lib.hid E2
  go_wp2
  refine wp_loop_rounds 3 ?_
  rw [rounds_succ]
  go_wp2
  go_region
  clear q1 q2 q3 q4 q5 q6 q7 q8
  have E3 := Lib.hid E2.out.drew
  generalize W2.drew = W3 at *
  have CV3 := Lib.hid (CV.out W3 E3.out)
  have q1 := E3.out.bv
  unfold IsC.fn at q1
  go_wp2_with fail
  refine CV3.out.mono ?_
  rintro e W4 ⟨rfl, E4⟩
  clear q1 CV3 E3
  have E4 := Lib.hid E4
  have q3 := E4.out.rr.c1
  have q4 := E4.out.bm
  have q5 := E4.out.uu.c0
  have q6 := E4.out.be
  have q7 := E4.out.ee.c1
  have q8 := E4.out.pp.c1
  go_wp2
  rw [rounds_succ]
  go_wp2
  go_region
  clear q3 q4 q5 q6 q7 q8
  have E5 := Lib.hid E4.out.drew
  generalize W4.drew = W5 at *
  go_wp2
  rw [rounds_succ]
  go_wp2
  go_ret
  exact ⟨rfl, E5.out⟩
end Go.Proofs.Ythcbcgaekbmoaaa
