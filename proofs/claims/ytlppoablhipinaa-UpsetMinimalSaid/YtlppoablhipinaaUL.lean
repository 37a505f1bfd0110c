/- The example holds, in every world. -/
import Derived.Test.YtlppoablhipinaaUK
namespace Go.Proofs.Ytlppoablhipinaa
open Go.RowKit

theorem litv (w : World) (x y : Int) : ReadsV (w.alloc (.cells #[.int .i64 x, .int .i64 y] 3)) (some ⟨w.heap.size, 0, none⟩) [x, y] := fun j hj => by
  refine ⟨w.heap.size, 0, rfl, by simp, ?_⟩
  simp at hj
  rcases (by omega : j = 0 ∨ j = 1) with rfl | rfl
  · simp [at0]
  · simp [at0]
theorem lit1 (w : World) (x y : Int) : ReadsL ((w.alloc (.cells #[.int .i64 x, .int .i64 y] 3)).alloc (.cells #[.slice (some ⟨w.heap.size, 0, none⟩) 2 2] 28)) (some ⟨w.heap.size + 1, 0, none⟩) [⟨some ⟨w.heap.size, 0, none⟩, [x, y], 2⟩] := by
  refine ⟨fun j hj => ?_, fun r hr => ?_⟩
  · simp at hj
    subst hj
    exact ⟨w.heap.size + 1, 0, rfl, by simp, by have h := cell_new1 (w.alloc (.cells #[.int .i64 x, .int .i64 y] 3)) (.slice (some ⟨w.heap.size, 0, none⟩) 2 2) 28; rw [World.size_alloc] at h; exact h⟩
  · simp at hr
    subst hr
    exact ⟨(litv w x y).alloc _, by simp⟩
theorem cell_three (w : World) (x y z : Value) (t : TypeId) : (w.alloc (.cells #[x, y, z] t)).cell? ⟨w.heap.size, 0, none⟩ = some x ∧ (w.alloc (.cells #[x, y, z] t)).cell? ⟨w.heap.size, 1, none⟩ = some y ∧ (w.alloc (.cells #[x, y, z] t)).cell? ⟨w.heap.size, 2, none⟩ = some z := ⟨by simp, by simp, by simp⟩
theorem lit3 (w : World) : ReadsL ((((w.alloc (.cells #[.int .i64 1, .int .i64 0] 3)).alloc (.cells #[.int .i64 2, .int .i64 0] 3)).alloc (.cells #[.int .i64 0, .int .i64 3] 3)).alloc
    (.cells #[.slice (some ⟨w.heap.size, 0, none⟩) 2 2, .slice (some ⟨w.heap.size + 1, 0, none⟩) 2 2, .slice (some ⟨w.heap.size + 1 + 1, 0, none⟩) 2 2] 28)) (some ⟨w.heap.size + 1 + 1 + 1, 0, none⟩)
    [⟨some ⟨w.heap.size, 0, none⟩, [1, 0], 2⟩, ⟨some ⟨w.heap.size + 1, 0, none⟩, [2, 0], 2⟩, ⟨some ⟨w.heap.size + 1 + 1, 0, none⟩, [0, 3], 2⟩] := by
  refine ⟨fun j hj => ?_, fun r hr => ?_⟩
  · have h := cell_three (((w.alloc (.cells #[.int .i64 1, .int .i64 0] 3)).alloc (.cells #[.int .i64 2, .int .i64 0] 3)).alloc (.cells #[.int .i64 0, .int .i64 3] 3)) (.slice (some ⟨w.heap.size, 0, none⟩) 2 2) (.slice (some ⟨w.heap.size + 1, 0, none⟩) 2 2) (.slice (some ⟨w.heap.size + 1 + 1, 0, none⟩) 2 2) 28
    rw [World.size_alloc, World.size_alloc, World.size_alloc] at h
    simp at hj
    rcases (by omega : j = 0 ∨ j = 1 ∨ j = 2) with rfl | rfl | rfl
    · exact ⟨w.heap.size + 1 + 1 + 1, 0, rfl, by simp, h.1⟩
    · exact ⟨w.heap.size + 1 + 1 + 1, 0, rfl, by simp, h.2.1⟩
    · exact ⟨w.heap.size + 1 + 1 + 1, 0, rfl, by simp, h.2.2⟩
  · simp at hr
    rcases hr with rfl | rfl | rfl
    · exact ⟨(((litv w 1 0).alloc _).alloc _).alloc _, by simp⟩
    · have h := ((litv (w.alloc (.cells #[.int .i64 1, .int .i64 0] 3)) 2 0).alloc (.cells #[.int .i64 0, .int .i64 3] 3)).alloc (.cells #[.slice (some ⟨w.heap.size, 0, none⟩) 2 2, .slice (some ⟨w.heap.size + 1, 0, none⟩) 2 2, .slice (some ⟨w.heap.size + 1 + 1, 0, none⟩) 2 2] 28)
      rw [World.size_alloc] at h
      exact ⟨h, by simp⟩
    · have h := (litv ((w.alloc (.cells #[.int .i64 1, .int .i64 0] 3)).alloc (.cells #[.int .i64 2, .int .i64 0] 3)) 0 3).alloc (.cells #[.slice (some ⟨w.heap.size, 0, none⟩) 2 2, .slice (some ⟨w.heap.size + 1, 0, none⟩) 2 2, .slice (some ⟨w.heap.size + 1 + 1, 0, none⟩) 2 2] 28)
      rw [World.size_alloc, World.size_alloc] at h
      exact ⟨h, by simp⟩
theorem ReadsL.alloc {w : World} {A : Option Addr} {L : List Row} (h : ReadsL w A L) (o : Obj) : ReadsL (w.alloc o) A L := h.below (B := w.heap.size) ((Below.refl _ _).alloc (Nat.le_refl _) _) (Nat.le_refl _)
theorem rows_one {L : List Row} {x : List Int} (h : rowsL L = [x]) : ∃ p q, L = [⟨p, x, q⟩] := by
  match L, h with
  | [⟨p, z, q⟩], h =>
    simp [rowsL] at h
    subst h
    exact ⟨p, q, rfl⟩
  | [], h => simp [rowsL] at h
  | _ :: _ :: _, h => simp [rowsL] at h
theorem rows_two {L : List Row} {x y : List Int} (h : rowsL L = [x, y]) : ∃ p q p2 q2, L = [⟨p, x, q⟩, ⟨p2, y, q2⟩] := by
  match L, h with
  | [⟨p, z, q⟩, ⟨p2, z2, q2⟩], h =>
    simp [rowsL] at h
    obtain ⟨rfl, rfl⟩ := h
    exact ⟨p, q, p2, q2, rfl⟩
  | [], h => simp [rowsL] at h
  | [_], h => simp [rowsL] at h
  | _ :: _ :: _ :: _, h => simp [rowsL] at h
theorem reads_two {w : World} {p : Option Addr} {x y : Int} (h : ReadsV w p [x, y]) : ∃ b o, p = some ⟨b, o, none⟩ ∧ w.cell? ⟨b, o, none⟩ = some (.int .i64 x) ∧ w.cell? ⟨b, o + 1, none⟩ = some (.int .i64 y) := by
  obtain ⟨b, o, e, _, h0⟩ := h 0 (by simp)
  obtain ⟨b2, o2, e2, _, h1⟩ := h 1 (by simp)
  rw [e] at e2
  injection e2 with e2
  injection e2 with e3 e4
  subst e3 e4
  exact ⟨b, o, e, h0, h1⟩
theorem cells_two {w : World} {A : Option Addr} {r t : Row} (h : CellsL w A [r, t]) : ∃ b o, A = some ⟨b, o, none⟩ ∧ w.cell? ⟨b, o, none⟩ = some (.slice r.A r.zs.length r.cap) ∧ w.cell? ⟨b, o + 1, none⟩ = some (.slice t.A t.zs.length t.cap) := by
  obtain ⟨b, o, e, h0⟩ := h.at 0 (by simp)
  obtain ⟨b2, o2, e2, h1⟩ := h.at 1 (by simp)
  rw [e] at e2
  injection e2 with e2
  injection e2 with e3 e4
  subst e3 e4
  exact ⟨b, o, e, h0, h1⟩
theorem cells_one {w : World} {A : Option Addr} {r : Row} (h : CellsL w A [r]) : ∃ b o, A = some ⟨b, o, none⟩ ∧ w.cell? ⟨b, o, none⟩ = some (.slice r.A r.zs.length r.cap) := by
  obtain ⟨b, o, e, h0⟩ := h.at 0 (by simp)
  exact ⟨b, o, e, h0⟩
theorem ex_make : makeL [[1, 0], [2, 0], [0, 3]] = [[0, 3], [1, 0]] := by decide +kernel
theorem ex_meet : meetL [[1, 0]] [[0, 2]] = [[1, 2]] := by decide +kernel
theorem ex_union : unionL [[1, 0]] [[0, 2]] = [[0, 2], [1, 0]] := by decide +kernel
theorem ex_has1 : hasV [[0, 3], [1, 0]] [1, 0] = true := by decide +kernel
theorem ex_has2 : hasV [[0, 3], [1, 0]] [0, 2] = false := by decide +kernel
theorem ex_sub1 : subV [[1, 2]] [[0, 2], [1, 0]] = true := by decide +kernel
theorem ex_sub2 : subV [[0, 2], [1, 0]] [[1, 2]] = false := by decide +kernel
theorem ex_same : smV [[0, 3], [1, 0]] [[0, 3], [1, 0]] = true := by decide +kernel
theorem ex_val1 : valV [[0, 3], [1, 0]] 2 = true := by decide +kernel
theorem ex_val2 : valV [[0, 3], [1, 0]] 3 = false := by decide +kernel
set_option maxHeartbeats 8000000 in
set_option maxRecDepth 100000 in
theorem lives_any (w : World) :
    Calls Try.prog 11 #[] w (BPost w.heap.size w true) := by
  unfold BPost
  have C1 := Lib.hid (make_any _ _ 3 _ (lit3 w) (by simp))
  go_enter Try.func11, Try.ntmps11
  go_wp2_with fail
  refine C1.out.mono ?_
  rintro e w1 ⟨A1, c1, L1, rfl, E1, _, R1, K⟩
  obtain ⟨p0, q0, p1, q1, rfl⟩ := rows_two (E1.trans ex_make)
  have B1 : Hid (Below w.heap.size w w1) := (((((Below.refl _ _).alloc (Nat.le_refl _) _).alloc (by simp) _).alloc (by simp; omega) _).alloc (by simp; omega) _).trans (K.mono (by simp; omega))
  have R1 := Lib.hid R1
  clear K C1 E1
  have hs1 := B1.out.size
  have l1 := (lit1 w1 1 0).alloc (.cells #[.int .i64 0, .int .i64 2] 3) |>.alloc (.cells #[.slice (some ⟨w1.heap.size + 1 + 1, 0, none⟩) 2 2] 28)
  have l2 := lit1 ((w1.alloc (.cells #[.int .i64 1, .int .i64 0] 3)).alloc (.cells #[.slice (some ⟨w1.heap.size, 0, none⟩) 2 2] 28)) 0 2
  simp only [World.size_alloc] at l2
  have C2 := Lib.hid (meet_any _ _ _ _ 1 1 _ l1 (by simp) l2 (by simp))
  clear l1 l2
  go_wp2_with fail
  refine C2.out.mono ?_
  rintro e w2 ⟨A2, c2, L2, rfl, E2, _, R2, K⟩
  obtain ⟨p2, q2, rfl⟩ := rows_one (E2.trans ex_meet)
  have B2x : Hid (Below w1.heap.size w1 w2) := (((((Below.refl _ _).alloc (Nat.le_refl _) _).alloc (by simp) _).alloc (by simp; omega) _).alloc (by simp; omega) _).trans (K.mono (by simp; omega))
  have R12 := Lib.hid (R1.out.below B2x.out (Nat.le_refl _))
  have B2 := Lib.hid (B1.out.trans (B2x.out.mono hs1))
  have R2 := Lib.hid R2
  clear K C2 E2 R1 B1 B2x
  have hs2 := B2.out.size
  have l1 := (lit1 w2 1 0).alloc (.cells #[.int .i64 0, .int .i64 2] 3) |>.alloc (.cells #[.slice (some ⟨w2.heap.size + 1 + 1, 0, none⟩) 2 2] 28)
  have l2 := lit1 ((w2.alloc (.cells #[.int .i64 1, .int .i64 0] 3)).alloc (.cells #[.slice (some ⟨w2.heap.size, 0, none⟩) 2 2] 28)) 0 2
  simp only [World.size_alloc] at l2
  have C3 := Lib.hid (union_any _ _ _ _ 1 1 _ l1 (by simp) l2 (by simp) (fun h => by cases h) (fun h => by cases h))
  clear l1 l2
  go_wp2_with fail
  refine C3.out.mono ?_
  rintro e w3 ⟨A3, c3, L3, rfl, E3, _, R3, K⟩
  obtain ⟨p3, q3, p4, q4, rfl⟩ := rows_two (E3.trans ex_union)
  have B3x : Hid (Below w2.heap.size w2 w3) := (((((Below.refl _ _).alloc (Nat.le_refl _) _).alloc (by simp) _).alloc (by simp; omega) _).alloc (by simp; omega) _).trans (K.mono (by simp; omega))
  have R13 := Lib.hid (R12.out.below B3x.out (Nat.le_refl _))
  have R23 := Lib.hid (R2.out.below B3x.out (Nat.le_refl _))
  have B3 := Lib.hid (B2.out.trans (B3x.out.mono hs2))
  have R33 := Lib.hid R3
  clear K C3 E3 R12 B2 B3x R2
  have hs3 := B3.out.size
  obtain ⟨ba, oa, eA, ha0, ha1⟩ := cells_two R13.out.1
  obtain ⟨bb, ob, eB, hb0, hb1⟩ := reads_two (R13.out.2 ⟨p0, [0, 3], q0⟩ (by simp)).1
  obtain ⟨bc, oc, eC, hc0, hc1⟩ := reads_two (R13.out.2 ⟨p1, [1, 0], q1⟩ (by simp)).1
  obtain ⟨bd, od, eD, hd0⟩ := cells_one R23.out.1
  obtain ⟨be, oe, eE, he0, he1⟩ := reads_two (R23.out.2 ⟨p2, [1, 2], q2⟩ (by simp)).1
  dsimp only at eB eC eE
  subst eA eB eC eD eE
  dsimp only [List.length] at ha0 ha1 hd0
  clear R3
  go_wp2_with fail
  have H0 := has_any _ _ _ _ c1 2 _ (R13.out.alloc (.cells #[.int .i64 1, .int .i64 0] 3)) (by simp) (litv w3 1 0) (by simp)
  rw [show hasV (rowsL [⟨some ⟨bb, ob, none⟩, [0, 3], q0⟩, ⟨some ⟨bc, oc, none⟩, [1, 0], q1⟩]) [1, 0] = true from ex_has1] at H0
  have H0 := Lib.hid H0
  refine H0.out.mono ?_
  rintro e w4 ⟨rfl, K⟩
  have Dw4 : Hid (Below w3.heap.size w3 w4) := ((Below.refl _ _).alloc (Nat.le_refl _) _).trans (K.mono (by simp))
  have B4 := Lib.hid (B3.out.trans (Dw4.out.mono B3.out.size))
  have R14 := Lib.hid (R13.out.below Dw4.out (Nat.le_refl _))
  have R24 := Lib.hid (R23.out.below Dw4.out (Nat.le_refl _))
  have R34 := Lib.hid (R33.out.below Dw4.out (Nat.le_refl _))
  clear K H0 R13 R23 R33 B3 Dw4
  have H1 := has_any _ _ _ _ c1 2 _ (R14.out.alloc (.cells #[.int .i64 0, .int .i64 2] 3)) (by simp) (litv w4 0 2) (by simp)
  rw [show hasV (rowsL [⟨some ⟨bb, ob, none⟩, [0, 3], q0⟩, ⟨some ⟨bc, oc, none⟩, [1, 0], q1⟩]) [0, 2] = false from ex_has2] at H1
  have H1 := Lib.hid H1
  go_wp2_with fail
  refine H1.out.mono ?_
  rintro e w5 ⟨rfl, K⟩
  have Dw5 : Hid (Below w4.heap.size w4 w5) := ((Below.refl _ _).alloc (Nat.le_refl _) _).trans (K.mono (by simp))
  have B5 := Lib.hid (B4.out.trans (Dw5.out.mono B4.out.size))
  have R15 := Lib.hid (R14.out.below Dw5.out (Nat.le_refl _))
  have R25 := Lib.hid (R24.out.below Dw5.out (Nat.le_refl _))
  have R35 := Lib.hid (R34.out.below Dw5.out (Nat.le_refl _))
  clear K H1 R14 R24 R34 B4 Dw5
  have H2 := subset_any _ _ _ _ c2 c3 _ R25.out (by simp) R35.out (by simp)
  rw [show subV (rowsL [⟨some ⟨be, oe, none⟩, [1, 2], q2⟩]) (rowsL [⟨p3, [0, 2], q3⟩, ⟨p4, [1, 0], q4⟩]) = true from ex_sub1] at H2
  have H2 := Lib.hid H2
  go_wp2_with fail
  refine H2.out.mono ?_
  rintro e w6 ⟨rfl, K⟩
  have Dw6 : Hid (Below w5.heap.size w5 w6) := K
  have B6 := Lib.hid (B5.out.trans (Dw6.out.mono B5.out.size))
  have R16 := Lib.hid (R15.out.below Dw6.out (Nat.le_refl _))
  have R26 := Lib.hid (R25.out.below Dw6.out (Nat.le_refl _))
  have R36 := Lib.hid (R35.out.below Dw6.out (Nat.le_refl _))
  clear K H2 R15 R25 R35 B5 Dw6
  have H3 := subset_any _ _ _ _ c3 c2 _ R36.out (by simp) R26.out (by simp)
  rw [show subV (rowsL [⟨p3, [0, 2], q3⟩, ⟨p4, [1, 0], q4⟩]) (rowsL [⟨some ⟨be, oe, none⟩, [1, 2], q2⟩]) = false from ex_sub2] at H3
  have H3 := Lib.hid H3
  go_wp2_with fail
  refine H3.out.mono ?_
  rintro e w7 ⟨rfl, K⟩
  have Dw7 : Hid (Below w6.heap.size w6 w7) := K
  have B7 := Lib.hid (B6.out.trans (Dw7.out.mono B6.out.size))
  have R17 := Lib.hid (R16.out.below Dw7.out (Nat.le_refl _))
  have R27 := Lib.hid (R26.out.below Dw7.out (Nat.le_refl _))
  have R37 := Lib.hid (R36.out.below Dw7.out (Nat.le_refl _))
  clear K H3 R16 R26 R36 B6 Dw7
  have H4 := same_any _ _ _ _ c1 c1 _ R17.out (by simp) R17.out (by simp)
  rw [show smV (rowsL [⟨some ⟨bb, ob, none⟩, [0, 3], q0⟩, ⟨some ⟨bc, oc, none⟩, [1, 0], q1⟩]) (rowsL [⟨some ⟨bb, ob, none⟩, [0, 3], q0⟩, ⟨some ⟨bc, oc, none⟩, [1, 0], q1⟩]) = true from ex_same] at H4
  have H4 := Lib.hid H4
  go_wp2_with fail
  refine H4.out.mono ?_
  rintro e w8 ⟨rfl, K⟩
  have Dw8 : Hid (Below w7.heap.size w7 w8) := K
  have B8 := Lib.hid (B7.out.trans (Dw8.out.mono B7.out.size))
  have R18 := Lib.hid (R17.out.below Dw8.out (Nat.le_refl _))
  have R28 := Lib.hid (R27.out.below Dw8.out (Nat.le_refl _))
  have R38 := Lib.hid (R37.out.below Dw8.out (Nat.le_refl _))
  clear K H4 R17 R27 R37 B7 Dw8
  have H5 := valid21_any _ _ c1 2 _ R18.out (by simp)
  rw [show valV (rowsL [⟨some ⟨bb, ob, none⟩, [0, 3], q0⟩, ⟨some ⟨bc, oc, none⟩, [1, 0], q1⟩]) 2 = true from ex_val1] at H5
  have H5 := Lib.hid H5
  go_wp2_with fail
  refine H5.out.mono ?_
  rintro e w9 ⟨rfl, K⟩
  have Dw9 : Hid (Below w8.heap.size w8 w9) := K
  have B9 := Lib.hid (B8.out.trans (Dw9.out.mono B8.out.size))
  have R19 := Lib.hid (R18.out.below Dw9.out (Nat.le_refl _))
  have R29 := Lib.hid (R28.out.below Dw9.out (Nat.le_refl _))
  have R39 := Lib.hid (R38.out.below Dw9.out (Nat.le_refl _))
  clear K H5 R18 R28 R38 B8 Dw9
  have H6 := valid21_any _ _ c1 3 _ R19.out (by simp)
  rw [show valV (rowsL [⟨some ⟨bb, ob, none⟩, [0, 3], q0⟩, ⟨some ⟨bc, oc, none⟩, [1, 0], q1⟩]) 3 = false from ex_val2] at H6
  have H6 := Lib.hid H6
  go_wp2_with fail
  refine H6.out.mono ?_
  rintro e w10 ⟨rfl, K⟩
  have Dw10 : Hid (Below w9.heap.size w9 w10) := K
  have B10 := Lib.hid (B9.out.trans (Dw10.out.mono B9.out.size))
  have R110 := Lib.hid (R19.out.below Dw10.out (Nat.le_refl _))
  have R210 := Lib.hid (R29.out.below Dw10.out (Nat.le_refl _))
  have R310 := Lib.hid (R39.out.below Dw10.out (Nat.le_refl _))
  clear K H6 R19 R29 R39 B9 Dw10
  go_wp2
  go_ret
  exact ⟨rfl, B10.out⟩
end Go.Proofs.Ytlppoablhipinaa
