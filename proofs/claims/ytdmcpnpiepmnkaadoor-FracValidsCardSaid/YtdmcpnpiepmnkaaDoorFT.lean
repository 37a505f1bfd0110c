/- The reference's text; the law. -/
import Derived.Test.YtdmcpnpiepmnkaaDoorFM
namespace Go.Proofs.YtdmcpnpiepmnkaaDoor
open Go.RowKit

theorem itoa_parts (x : Int) : Lib.itoa x = (if x < 0 then [45] else []) ++ Lib.decDigits x.natAbs := by
  unfold Lib.itoa
  by_cases h : x < 0
  · rw [if_pos h, if_pos h]; rfl
  · rw [if_neg h, if_neg h, show x.toNat = x.natAbs by omega]; rfl
set_option maxHeartbeats 800000 in
set_option maxRecDepth 1000000 in
theorem rText_any (x y : Int) (w : World) (h1 : -9223372036854775808 ≤ x) (h2 : x ≤ 9223372036854775807) (h3 : -9223372036854775808 ≤ y) (h4 : y ≤ 9223372036854775807) :
    Calls Tryd.prog 9 #[.agg #[.int .i64 x, .int .i64 y]] w fun e w' => e = .returned (.string ⟨(textV x y).toArray⟩) ∧ Below w.heap.size w w' := by
  have HV := Lib.hid (fun w => refValid_any x y w h1 h2 h3 h4)
  by_cases hv : validB x y = true
  · have hy := validB_pos hv
    have HZ := Lib.hid (fun w => size_any x w h1 h2)
    have HX := Lib.hid (fun w => digits_any x.natAbs (by omega) w)
    have LX := Lib.hid (dec_len20 (u := x.natAbs) (by omega))
    have HP := Lib.hid (itoa_parts x)
    rw [hv] at HV
    by_cases hx : x < 0
    · rw [if_pos hx] at HP
      by_cases hy1 : y = 1
      · have HE : Hid (textV x y = [45] ++ Lib.decDigits x.natAbs) := by
          show _ = _
          unfold textV
          rw [if_pos hv, if_pos hy1, List.append_nil, HP.out]
        rw [HE.out]
        clear HE hv HP h1 h2 h3 h4 hy
        subst hy1
        generalize Lib.decDigits x.natAbs = X at *
        generalize x.natAbs = xa at *
        have P1 := Lib.hid (cat_bytes [45] X)
        go_enter Tryd.func9, Tryd.ntmps9
        go_wp2_with fail
        go_at_call 7
        refine (HV.out _).mono ?_
        rintro _ w1 ⟨rfl, hb⟩
        have C1 : w1.cell? ⟨w.heap.size, 0, none⟩ = some (.int .i64 x) := by rw [hb.cell (by simp)]; simp [go_sem]
        have C2 : w1.cell? ⟨w.heap.size, 1, none⟩ = some (.int .i64 1) := by rw [hb.cell (by simp)]; simp [go_sem]
        have HL : Hid (w.heap.size < w1.heap.size) := by have := hb.size; simp at this; show _ < _; omega
        have K1 := Lib.hid (((Below.refl w.heap.size w).alloc (Nat.le_refl _) (.cells #[.int .i64 x, .int .i64 1] 23)).trans (hb.mono (by simp)))
        clear hb
        go_wp2_with fail
        go_at_call 14
        refine (HZ.out _).mono ?_
        rintro _ _ ⟨rfl, rfl⟩
        go_wp2_with fail
        go_at_call 16
        refine (HX.out _).mono ?_
        rintro _ w2 ⟨rfl, hb⟩
        have D1 : w2.cell? ⟨w.heap.size, 0, none⟩ = some (.int .i64 x) := by rw [hb.cell HL.out]; exact C1
        have D2 : w2.cell? ⟨w.heap.size, 1, none⟩ = some (.int .i64 1) := by rw [hb.cell HL.out]; exact C2
        have K2 := Lib.hid (K1.out.trans (hb.mono (Nat.le_of_lt HL.out)))
        clear hb C1 C2 HX
        go_wp2_with fail
        · exfalso
          have := LX.out
          omega
        go_ret
        exact ⟨congrArg (fun s => Ending.returned (Value.string s)) P1.out, K2.out⟩
      · obtain ⟨m, hm⟩ : ∃ m : Nat, y = m := ⟨y.toNat, by omega⟩
        have HY := Lib.hid (fun w => digits_any m (by omega) w)
        have LY := Lib.hid (dec_len20 (u := m) (by omega))
        have HE : Hid (textV x y = ([45] ++ Lib.decDigits x.natAbs) ++ [47] ++ Lib.decDigits m) := by
          show _ = _
          unfold textV
          rw [if_pos hv, if_neg hy1, HP.out, hm, Lib.itoa_nonneg]
          simp
        rw [HE.out]
        have hyb : (y != 1) = true := by simpa using hy1
        rw [← hm] at HY
        have hw : IntKind.u64.wrap y = y := by simp only [IntKind.wrap_u64]; omega
        clear HE hv HP h1 h2 h3 h4 hy hy1
        generalize Lib.decDigits x.natAbs = X at *
        generalize Lib.decDigits m = Y at *
        clear hm
        generalize x.natAbs = xa at *
        have P1 := Lib.hid (cat_bytes [45] X)
        have P2 : Hid ((⟨([45] ++ X).toArray⟩ : ByteArray) ++ ⟨#[47]⟩ ++ ⟨Y.toArray⟩ = ⟨([45] ++ X ++ [47] ++ Y).toArray⟩) := by show _ = _; rw [show (⟨#[47]⟩ : ByteArray) = ⟨[47].toArray⟩ from rfl, cat_bytes, cat_bytes]
        go_enter Tryd.func9, Tryd.ntmps9
        go_wp2_with fail
        go_at_call 7
        refine (HV.out _).mono ?_
        rintro _ w1 ⟨rfl, hb⟩
        have C1 : w1.cell? ⟨w.heap.size, 0, none⟩ = some (.int .i64 x) := by rw [hb.cell (by simp)]; simp [go_sem]
        have C2 : w1.cell? ⟨w.heap.size, 1, none⟩ = some (.int .i64 y) := by rw [hb.cell (by simp)]; simp [go_sem]
        have HL : Hid (w.heap.size < w1.heap.size) := by have := hb.size; simp at this; show _ < _; omega
        have K1 := Lib.hid (((Below.refl w.heap.size w).alloc (Nat.le_refl _) (.cells #[.int .i64 x, .int .i64 y] 23)).trans (hb.mono (by simp)))
        clear hb
        go_wp2_with fail
        go_at_call 14
        refine (HZ.out _).mono ?_
        rintro _ _ ⟨rfl, rfl⟩
        go_wp2_with fail
        go_at_call 16
        refine (HX.out _).mono ?_
        rintro _ w2 ⟨rfl, hb⟩
        have D1 : w2.cell? ⟨w.heap.size, 0, none⟩ = some (.int .i64 x) := by rw [hb.cell HL.out]; exact C1
        have D2 : w2.cell? ⟨w.heap.size, 1, none⟩ = some (.int .i64 y) := by rw [hb.cell HL.out]; exact C2
        have K2 := Lib.hid (K1.out.trans (hb.mono (Nat.le_of_lt HL.out)))
        clear hb C1 C2 HX
        go_wp2_with fail
        · exfalso
          have := LX.out
          omega
        · exfalso
          have := LX.out
          simp at *
          omega
        go_at_call 16
        refine (HY.out _).mono ?_
        rintro _ w3 ⟨rfl, hb⟩
        have K3 := Lib.hid (K2.out.trans (hb.mono K2.out.size))
        clear hb D1 D2 HY
        go_wp2_with fail
        · exfalso
          have := LX.out
          have := LY.out
          simp at *
          omega
        go_ret
        exact ⟨congrArg (fun s => Ending.returned (Value.string s)) (((congrArg (fun t => t ++ (⟨#[47]⟩ : ByteArray) ++ (⟨Y.toArray⟩ : ByteArray)) P1.out).trans P2.out)), K3.out⟩
    · rw [if_neg hx] at HP
      by_cases hy1 : y = 1
      · have HE : Hid (textV x y = Lib.decDigits x.natAbs) := by
          show _ = _
          unfold textV
          rw [if_pos hv, if_pos hy1, List.append_nil, HP.out]; rfl
        rw [HE.out]
        clear HE hv HP h1 h2 h3 h4 hy
        subst hy1
        generalize Lib.decDigits x.natAbs = X at *
        generalize x.natAbs = xa at *
        go_enter Tryd.func9, Tryd.ntmps9
        go_wp2_with fail
        go_at_call 7
        refine (HV.out _).mono ?_
        rintro _ w1 ⟨rfl, hb⟩
        have C1 : w1.cell? ⟨w.heap.size, 0, none⟩ = some (.int .i64 x) := by rw [hb.cell (by simp)]; simp [go_sem]
        have C2 : w1.cell? ⟨w.heap.size, 1, none⟩ = some (.int .i64 1) := by rw [hb.cell (by simp)]; simp [go_sem]
        have HL : Hid (w.heap.size < w1.heap.size) := by have := hb.size; simp at this; show _ < _; omega
        have K1 := Lib.hid (((Below.refl w.heap.size w).alloc (Nat.le_refl _) (.cells #[.int .i64 x, .int .i64 1] 23)).trans (hb.mono (by simp)))
        clear hb
        go_wp2_with fail
        go_at_call 14
        refine (HZ.out _).mono ?_
        rintro _ _ ⟨rfl, rfl⟩
        go_wp2_with fail
        go_at_call 16
        refine (HX.out _).mono ?_
        rintro _ w2 ⟨rfl, hb⟩
        have D1 : w2.cell? ⟨w.heap.size, 0, none⟩ = some (.int .i64 x) := by rw [hb.cell HL.out]; exact C1
        have D2 : w2.cell? ⟨w.heap.size, 1, none⟩ = some (.int .i64 1) := by rw [hb.cell HL.out]; exact C2
        have K2 := Lib.hid (K1.out.trans (hb.mono (Nat.le_of_lt HL.out)))
        clear hb C1 C2 HX
        go_wp2_with fail
        go_ret
        exact ⟨rfl, K2.out⟩
      · obtain ⟨m, hm⟩ : ∃ m : Nat, y = m := ⟨y.toNat, by omega⟩
        have HY := Lib.hid (fun w => digits_any m (by omega) w)
        have LY := Lib.hid (dec_len20 (u := m) (by omega))
        have HE : Hid (textV x y = Lib.decDigits x.natAbs ++ [47] ++ Lib.decDigits m) := by
          show _ = _
          unfold textV
          rw [if_pos hv, if_neg hy1, HP.out, hm, Lib.itoa_nonneg]
          simp
        rw [HE.out]
        have hyb : (y != 1) = true := by simpa using hy1
        rw [← hm] at HY
        have hw : IntKind.u64.wrap y = y := by simp only [IntKind.wrap_u64]; omega
        clear HE hv HP h1 h2 h3 h4 hy hy1
        generalize Lib.decDigits x.natAbs = X at *
        generalize Lib.decDigits m = Y at *
        clear hm
        generalize x.natAbs = xa at *
        have P2 : Hid ((⟨X.toArray⟩ : ByteArray) ++ ⟨#[47]⟩ ++ ⟨Y.toArray⟩ = ⟨(X ++ [47] ++ Y).toArray⟩) := by show _ = _; rw [show (⟨#[47]⟩ : ByteArray) = ⟨[47].toArray⟩ from rfl, cat_bytes, cat_bytes]
        go_enter Tryd.func9, Tryd.ntmps9
        go_wp2_with fail
        go_at_call 7
        refine (HV.out _).mono ?_
        rintro _ w1 ⟨rfl, hb⟩
        have C1 : w1.cell? ⟨w.heap.size, 0, none⟩ = some (.int .i64 x) := by rw [hb.cell (by simp)]; simp [go_sem]
        have C2 : w1.cell? ⟨w.heap.size, 1, none⟩ = some (.int .i64 y) := by rw [hb.cell (by simp)]; simp [go_sem]
        have HL : Hid (w.heap.size < w1.heap.size) := by have := hb.size; simp at this; show _ < _; omega
        have K1 := Lib.hid (((Below.refl w.heap.size w).alloc (Nat.le_refl _) (.cells #[.int .i64 x, .int .i64 y] 23)).trans (hb.mono (by simp)))
        clear hb
        go_wp2_with fail
        go_at_call 14
        refine (HZ.out _).mono ?_
        rintro _ _ ⟨rfl, rfl⟩
        go_wp2_with fail
        go_at_call 16
        refine (HX.out _).mono ?_
        rintro _ w2 ⟨rfl, hb⟩
        have D1 : w2.cell? ⟨w.heap.size, 0, none⟩ = some (.int .i64 x) := by rw [hb.cell HL.out]; exact C1
        have D2 : w2.cell? ⟨w.heap.size, 1, none⟩ = some (.int .i64 y) := by rw [hb.cell HL.out]; exact C2
        have K2 := Lib.hid (K1.out.trans (hb.mono (Nat.le_of_lt HL.out)))
        clear hb C1 C2 HX
        go_wp2_with fail
        · exfalso
          have := LX.out
          simp at *
          omega
        go_at_call 16
        refine (HY.out _).mono ?_
        rintro _ w3 ⟨rfl, hb⟩
        have K3 := Lib.hid (K2.out.trans (hb.mono K2.out.size))
        clear hb D1 D2 HY
        go_wp2_with fail
        · exfalso
          have := LX.out
          have := LY.out
          simp at *
          omega
        go_ret
        exact ⟨congrArg (fun s => Ending.returned (Value.string s)) (P2.out), K3.out⟩
  · replace hv : validB x y = false := by simpa using hv
    rw [hv] at HV
    have HE : Hid (textV x y = [63]) := by show _ = _; unfold textV; rw [hv]; rfl
    rw [HE.out]
    clear HE hv h1 h2 h3 h4
    go_enter Tryd.func9, Tryd.ntmps9
    go_wp2_with fail
    go_at_call 7
    refine (HV.out _).mono ?_
    rintro _ w1 ⟨rfl, hb⟩
    have K1 := Lib.hid (((Below.refl w.heap.size w).alloc (Nat.le_refl _) (.cells #[.int .i64 x, .int .i64 y] 23)).trans (hb.mono (by simp)))
    clear hb
    go_wp2_with fail
    go_ret
    exact ⟨rfl, K1.out⟩

theorem floor_shape (x y : Int) : ∃ N E : Int, floorT x y = .tuple #[.int .i64 N, .int .i64 E] := by
  unfold floorT
  by_cases h : validB x y = true
  · exact ⟨_, _, if_pos h⟩
  · exact ⟨_, _, if_neg h⟩
set_option maxHeartbeats 1000000 in
set_option maxRecDepth 1000000 in
theorem valids_law (x y : Int) (w : World) (h1 : -9223372036854775808 ≤ x) (h2 : x ≤ 9223372036854775807) (h3 : -9223372036854775808 ≤ y) (h4 : y ≤ 9223372036854775807) (hT : TabP w.heap.size w) :
    Calls Tryd.prog 3 #[.agg #[.int .i64 x, .int .i64 y]] w fun e w' => e = .returned (.bool true) ∧ Below w.heap.size w w' := by
  have HT := Lib.hid hT
  have F1 := Lib.hid (fun W => fFloor_any x y W h1 h2 h3 h4)
  have F2 := Lib.hid (fun W => rFloor_any x y W h1 h2 h3 h4)
  have V1 := Lib.hid (fun W => fValid_any x y W h1 h2 h3 h4)
  have V2 := Lib.hid (fun W => refValid_any x y W h1 h2 h3 h4)
  have T1 := Lib.hid (fun W (h : TabP W.heap.size W) => fText_any x y W h1 h2 h3 h4 h)
  have T2 := Lib.hid (fun W => rText_any x y W h1 h2 h3 h4)
  have CE := Lib.hid (fun W (h : TabP W.heap.size W) => example_any W h)
  obtain ⟨N, E, hNE⟩ := floor_shape x y
  rw [hNE] at F1 F2
  clear hNE hT h1 h2 h3 h4
  generalize validB x y = v at *
  generalize textV x y = X at *
  have hv : (v == v) = true := by simp
  have B0 : Hid (Below w.heap.size w (w.alloc (.cells #[.int .i64 x, .int .i64 y] 23))) := (Below.refl _ _).alloc (Nat.le_refl _) _
  have L0 : Hid (w.heap.size < (w.alloc (.cells #[.int .i64 x, .int .i64 y] 23)).heap.size) := by show _ < _; simp
  have G0 : Hid ((w.alloc (.cells #[.int .i64 x, .int .i64 y] 23)).cell? ⟨w.heap.size, 0, none⟩ = some (.int .i64 x) ∧ (w.alloc (.cells #[.int .i64 x, .int .i64 y] 23)).cell? ⟨w.heap.size, 1, none⟩ = some (.int .i64 y)) := by
    refine ⟨?_, ?_⟩ <;> simp [go_sem]
  go_enter Tryd.func3, Tryd.ntmps3
  go_wp2_with fail
  refine (F1.out _ ).mono ?_
  rintro _ w1 ⟨rfl, hb⟩
  have B1 : Hid (Below w.heap.size w w1) := B0.out.trans (hb.mono B0.out.size)
  have L1 : Hid (w.heap.size < w1.heap.size) := Nat.lt_of_lt_of_le L0.out hb.size
  have q1a : w1.cell? ⟨w.heap.size, 0, none⟩ = some (.int .i64 x) := (hb.cell (p := ⟨w.heap.size, 0, none⟩) L0.out).trans G0.out.1
  have q1b : w1.cell? ⟨w.heap.size, 1, none⟩ = some (.int .i64 y) := (hb.cell (p := ⟨w.heap.size, 1, none⟩) L0.out).trans G0.out.2
  have G1 := Lib.hid (And.intro q1a q1b)
  clear hb
  go_wp2_with fail
  refine (F2.out _ ).mono ?_
  rintro _ w2 ⟨rfl, hb⟩
  have B2 : Hid (Below w.heap.size w w2) := B1.out.trans (hb.mono B1.out.size)
  have L2 : Hid (w.heap.size < w2.heap.size) := Nat.lt_of_lt_of_le L1.out hb.size
  have q2a : w2.cell? ⟨w.heap.size, 0, none⟩ = some (.int .i64 x) := (hb.cell (p := ⟨w.heap.size, 0, none⟩) L1.out).trans G1.out.1
  have q2b : w2.cell? ⟨w.heap.size, 1, none⟩ = some (.int .i64 y) := (hb.cell (p := ⟨w.heap.size, 1, none⟩) L1.out).trans G1.out.2
  have G2 := Lib.hid (And.intro q2a q2b)
  clear hb
  go_wp2_with fail
  go_region_held3 (fun w' => w'.cell? ⟨w.heap.size, 0, none⟩ = some (.int .i64 x) ∧ w'.cell? ⟨w.heap.size, 1, none⟩ = some (.int .i64 y) ∧ Hid (Below w.heap.size w w'))
    (first
      | exact ⟨q2a, q2b, B2.out.drew⟩
      | (go_split_ands
         refine ⟨(hb.cell ?_).trans ?_, (hb.cell ?_).trans ?_, ?_⟩
         · exact World.block_lt_of_cell? _ ⟨w.heap.size, 0, none⟩ (by assumption)
         · assumption
         · exact World.block_lt_of_cell? _ ⟨w.heap.size, 0, none⟩ (by assumption)
         · assumption
         · exact Below.trans (Hid.out (by assumption)) (hb.mono (Nat.le_of_lt (World.block_lt_of_cell? _ ⟨w.heap.size, 0, none⟩ (by assumption)))))
      | go_keep)
    (first
      | (go_at_call 6; refine (V1.out _).mono ?_; rintro _ w4 ⟨rfl, hb⟩)
      | (go_at_call 7; refine (V2.out _).mono ?_; rintro _ w4 ⟨rfl, hb⟩)
      | (go_at_call 9; refine (T2.out _).mono ?_; rintro _ w4 ⟨rfl, hb⟩)
      | (go_at_call 8; go_split_ands; refine (T1.out _ (HT.out.next (Hid.out (by assumption)) (Below.size (Hid.out (by assumption))))).mono ?_; rintro _ w4 ⟨rfl, hb⟩)
      | (go_at_call 10; go_split_ands; refine (CE.out _ (HT.out.next (Hid.out (by assumption)) (Below.size (Hid.out (by assumption))))).mono ?_; rintro _ w4 ⟨rfl, hb⟩))
  rename_i hHeld
  obtain ⟨E1, E2, K9⟩ := hHeld
  go_wp2
  go_ret
  exact ⟨rfl, K9.out⟩
end Go.Proofs.YtdmcpnpiepmnkaaDoor
