/- Text and floor of any pair of numbers, by the program and by the reference; the law. -/
import Derived.Test.YtdmcpnpiepmnkaaDoorFI
import Derived.Lib.ItoaLen
namespace Go.Proofs.YtdmcpnpiepmnkaaDoor
open Go.RowKit

theorem cat_bytes (a b : List UInt8) : (⟨a.toArray⟩ : ByteArray) ++ ⟨b.toArray⟩ = ⟨(a ++ b).toArray⟩ := by
  apply ByteArray.ext
  simp
def textV (x y : Int) : List UInt8 := if validB x y = true then Lib.itoa x ++ (if y = 1 then [] else 47 :: Lib.itoa y) else [63]
def floorT (x y : Int) : Value := if validB x y = true then .tuple #[.int .i64 (x / y), .int .i64 0] else .tuple #[.int .i64 0, .int .i64 1]
theorem validB_pos {x y : Int} (h : validB x y = true) : 1 ≤ y := by
  unfold validB at h
  rw [decide_eq_true_eq] at h
  exact h.1

set_option maxHeartbeats 4000000 in
set_option maxRecDepth 1000000 in
theorem fFloor_any (x y : Int) (w : World) (h1 : -9223372036854775808 ≤ x) (h2 : x ≤ 9223372036854775807) (h3 : -9223372036854775808 ≤ y) (h4 : y ≤ 9223372036854775807) :
    Calls Tryd.prog 4 #[.agg #[.int .i64 x, .int .i64 y]] w fun e w' => e = .returned (floorT x y) ∧ Below w.heap.size w w' := by
  have HV := Lib.hid (fun w => fValid_any x y w h1 h2 h3 h4)
  have HD := Lib.hid (fun w => div_any x y h1 h2 h3 h4 w)
  have FT : Hid (validB x y = true → floorT x y = .tuple #[.int .i64 (divV x y), .int .i64 0]) := fun h => by
    have := validB_pos h
    unfold floorT divV
    rw [if_pos h, if_neg (by omega)]
  have FF : Hid (validB x y = false → floorT x y = .tuple #[.int .i64 0, .int .i64 1]) := fun h => by unfold floorT; rw [h]; rfl
  clear h1 h2 h3 h4
  by_cases hv : validB x y = true
  · rw [hv] at HV
    rw [FT.out hv]
    clear FT FF hv
    generalize divV x y = Q at *
    generalize posB y = b at *
    go_enter Tryd.func4, Tryd.ntmps4
    go_wp2_with fail
    go_at_call 6
    refine (HV.out _).mono ?_
    rintro _ w1 ⟨rfl, hb⟩
    have C1 : w1.cell? ⟨w.heap.size, 0, none⟩ = some (.int .i64 x) := by rw [hb.cell (by simp)]; simp [go_sem]
    have C2 : w1.cell? ⟨w.heap.size, 1, none⟩ = some (.int .i64 y) := by rw [hb.cell (by simp)]; simp [go_sem]
    have K1 := Lib.hid (((Below.refl w.heap.size w).alloc (Nat.le_refl _) (.cells #[.int .i64 x, .int .i64 y] 23)).trans (hb.mono (by simp)))
    clear hb
    go_wp2_with fail
    go_at_call 11
    refine (HD.out _).mono ?_
    rintro _ _ ⟨rfl, rfl⟩
    go_wp2_with fail
    go_ret2
    exact ⟨rfl, K1.out⟩
  · replace hv : validB x y = false := by simpa using hv
    rw [hv] at HV
    rw [FF.out hv]
    clear FT FF hv HD
    go_enter Tryd.func4, Tryd.ntmps4
    go_wp2_with fail
    go_at_call 6
    refine (HV.out _).mono ?_
    rintro _ w1 ⟨rfl, hb⟩
    have K1 := Lib.hid (((Below.refl w.heap.size w).alloc (Nat.le_refl _) (.cells #[.int .i64 x, .int .i64 y] 23)).trans (hb.mono (by simp)))
    clear hb
    go_wp2_with fail
    go_ret2
    exact ⟨rfl, K1.out⟩

set_option maxHeartbeats 4000000 in
set_option maxRecDepth 1000000 in
theorem fText_any (x y : Int) (w : World) (h1 : -9223372036854775808 ≤ x) (h2 : x ≤ 9223372036854775807) (h3 : -9223372036854775808 ≤ y) (h4 : y ≤ 9223372036854775807) (hT : TabP w.heap.size w) :
    Calls Tryd.prog 8 #[.agg #[.int .i64 x, .int .i64 y]] w fun e w' => e = .returned (.string ⟨(textV x y).toArray⟩) ∧ Below w.heap.size w w' := by
  have HT := Lib.hid hT
  have HV := Lib.hid (fun w => fValid_any x y w h1 h2 h3 h4)
  have HX := Lib.hid (fun w h => Tryd.strconv_FormatInt_10 x h1 h2 w h)
  have HY := Lib.hid (fun w h => Tryd.strconv_FormatInt_10 y h3 h4 w h)
  have LX := Lib.hid (Lib.itoa_length_le x h1 h2)
  have LY := Lib.hid (Lib.itoa_length_le y h3 h4)
  clear hT h1 h2 h3 h4
  by_cases hv : validB x y = true
  · rw [hv] at HV
    by_cases hy : y = 1
    · have HE : Hid (textV x y = Lib.itoa x) := by
        show _ = _
        unfold textV
        rw [if_pos hv, if_pos hy, List.append_nil]
      rw [HE.out]
      clear HE hv
      subst hy
      generalize Lib.itoa x = X at *
      clear HY LY
      go_enter Tryd.func8, Tryd.ntmps8
      go_wp2_with fail
      go_at_call 6
      refine (HV.out _).mono ?_
      rintro _ w1 ⟨rfl, hb⟩
      have K1 := Lib.hid (((Below.refl w.heap.size w).alloc (Nat.le_refl _) (.cells #[.int .i64 x, .int .i64 1] 23)).trans (hb.mono (by simp)))
      have C1 : w1.cell? ⟨w.heap.size, 0, none⟩ = some (.int .i64 x) := by rw [hb.cell (by simp)]; simp [go_sem]
      have C2 : w1.cell? ⟨w.heap.size, 1, none⟩ = some (.int .i64 1) := by rw [hb.cell (by simp)]; simp [go_sem]
      have HL : Hid (w.heap.size < w1.heap.size) := by have := hb.size; simp at this; show _ < _; omega
      clear hb
      go_wp2_with fail
      go_at_call 15
      refine (HX.out _ (HT.out.on K1.out).here).mono ?_
      rintro _ w2 ⟨rfl, kk, os, rfl⟩
      have hg : Below w1.heap.size w1 («Sort».grow (w1.drewN kk) os) := Lib.below_grow _ w1 (Nat.le_refl _) kk os
      have D1 : («Sort».grow (w1.drewN kk) os).cell? ⟨w.heap.size, 0, none⟩ = some (.int .i64 x) := by rw [hg.cell HL.out]; exact C1
      have D2 : («Sort».grow (w1.drewN kk) os).cell? ⟨w.heap.size, 1, none⟩ = some (.int .i64 1) := by rw [hg.cell HL.out]; exact C2
      have K2 := Lib.hid (K1.out.trans (hg.mono (Nat.le_of_lt HL.out)))
      clear hg C1 C2
      generalize «Sort».grow (w1.drewN kk) os = w2 at *
      go_wp2_with fail
      go_ret
      exact ⟨rfl, K2.out⟩
    · have HE : Hid (textV x y = Lib.itoa x ++ ([47] ++ Lib.itoa y)) := by
        show _ = _
        unfold textV
        rw [if_pos hv, if_neg hy]; rfl
      rw [HE.out]
      have hy' : (y != 1) = true := by simpa using hy
      clear HE hv hy
      generalize Lib.itoa x = X at *
      generalize Lib.itoa y = Y at *
      go_enter Tryd.func8, Tryd.ntmps8
      go_wp2_with fail
      go_at_call 6
      refine (HV.out _).mono ?_
      rintro _ w1 ⟨rfl, hb⟩
      have K1 := Lib.hid (((Below.refl w.heap.size w).alloc (Nat.le_refl _) (.cells #[.int .i64 x, .int .i64 y] 23)).trans (hb.mono (by simp)))
      have C1 : w1.cell? ⟨w.heap.size, 0, none⟩ = some (.int .i64 x) := by rw [hb.cell (by simp)]; simp [go_sem]
      have C2 : w1.cell? ⟨w.heap.size, 1, none⟩ = some (.int .i64 y) := by rw [hb.cell (by simp)]; simp [go_sem]
      have HL : Hid (w.heap.size < w1.heap.size) := by have := hb.size; simp at this; show _ < _; omega
      clear hb
      go_wp2_with fail
      go_at_call 15
      refine (HX.out _ (HT.out.on K1.out).here).mono ?_
      rintro _ w2 ⟨rfl, kk, os, rfl⟩
      have hg : Below w1.heap.size w1 («Sort».grow (w1.drewN kk) os) := Lib.below_grow _ w1 (Nat.le_refl _) kk os
      have D1 : («Sort».grow (w1.drewN kk) os).cell? ⟨w.heap.size, 0, none⟩ = some (.int .i64 x) := by rw [hg.cell HL.out]; exact C1
      have D2 : («Sort».grow (w1.drewN kk) os).cell? ⟨w.heap.size, 1, none⟩ = some (.int .i64 y) := by rw [hg.cell HL.out]; exact C2
      have K2 := Lib.hid (K1.out.trans (hg.mono (Nat.le_of_lt HL.out)))
      clear hg C1 C2
      generalize «Sort».grow (w1.drewN kk) os = w2 at *
      have HC1 := Lib.hid (cat_bytes [47] Y)
      have HC2 := Lib.hid (cat_bytes X ([47] ++ Y))
      have HY2 := Lib.hid (HY.out _ (HT.out.on K2.out).here)
      clear HY HX
      go_wp2_with fail
      go_at_call 15
      refine HY2.out.mono ?_
      rintro _ w3 ⟨rfl, kk2, os2, rfl⟩
      have hg : Below w2.heap.size w2 («Sort».grow (w2.drewN kk2) os2) := Lib.below_grow _ w2 (Nat.le_refl _) kk2 os2
      have K3 := Lib.hid (K2.out.trans (hg.mono K2.out.size))
      clear hg D1 D2
      generalize «Sort».grow (w2.drewN kk2) os2 = w3 at *
      go_wp2_with fail
      · exfalso
        have := LY.out
        omega
      · exfalso
        have := LY.out
        have := LX.out
        omega
      go_ret
      exact ⟨congrArg (fun s => Ending.returned (Value.string s)) ((congrArg (fun t => (⟨X.toArray⟩ : ByteArray) ++ t) HC1.out).trans HC2.out), K3.out⟩
  · replace hv : validB x y = false := by simpa using hv
    rw [hv] at HV
    have HE : Hid (textV x y = [63]) := by show _ = _; unfold textV; rw [hv]; rfl
    rw [HE.out]
    clear HE hv
    go_enter Tryd.func8, Tryd.ntmps8
    go_wp2_with fail
    go_at_call 6
    refine (HV.out _).mono ?_
    rintro _ w1 ⟨rfl, hb⟩
    have K1 := Lib.hid (((Below.refl w.heap.size w).alloc (Nat.le_refl _) (.cells #[.int .i64 x, .int .i64 y] 23)).trans (hb.mono (by simp)))
    clear hb
    go_wp2_with fail
    go_ret
    exact ⟨rfl, K1.out⟩
end Go.Proofs.YtdmcpnpiepmnkaaDoor
