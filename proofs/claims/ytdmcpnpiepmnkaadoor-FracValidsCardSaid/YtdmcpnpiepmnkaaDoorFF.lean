/- Contracts of the program's validity and text at the example, and the law on normal forms. -/
import Derived.Test.YtdmcpnpiepmnkaaDoorFE
import Derived.Lib.AppendIntMem
namespace Go.Proofs.YtdmcpnpiepmnkaaDoor
open Go.RowKit

/-- what Make answers, as three numbers -/
def normT (neg : Bool) (p q : Nat) : Int × Int × Int :=
  if 9223372036854775807 < p ∨ 9223372036854775807 < q then (0, 0, 3) else (if neg then -(p : Int) else (p : Int), (q : Int), 0)
def makeT (a b : Int) : Int × Int × Int :=
  if b = 0 then (0, 0, 4) else normT (decide (a < 0) != decide (b < 0)) (a.natAbs / Nat.gcd a.natAbs b.natAbs) (b.natAbs / Nat.gcd a.natAbs b.natAbs)
def tvT (t : Int × Int × Int) : Value := .tuple #[.agg #[.int .i64 t.1, .int .i64 t.2.1], .int .i64 t.2.2]
theorem makeV_T (a b : Int) : makeV a b = tvT (makeT a b) := by
  unfold makeV makeT
  split
  · rfl
  · unfold normV normT
    split <;> rfl
/-- its own normal form -/
def validB (x y : Int) : Bool := decide (1 ≤ y ∧ x ≠ -9223372036854775808 ∧ Nat.gcd x.natAbs y.natAbs = 1)
theorem valid_iff (x y : Int) (h1 : -9223372036854775808 ≤ x) (h2 : x ≤ 9223372036854775807) (h4 : y ≤ 9223372036854775807) : makeT x y = (x, y, 0) ↔ validB x y = true := by
  unfold validB
  rw [decide_eq_true_iff]
  constructor
  · intro h
    unfold makeT at h
    split at h
    · simp at h
    · rename_i hy
      unfold normT at h
      split at h
      · simp at h
      · rename_i hn
        have hg : 0 < Nat.gcd x.natAbs y.natAbs := Nat.gcd_pos_of_pos_right _ (by omega)
        have e2 := congrArg (fun t : Int × Int × Int => t.2.1) h
        have e1 := congrArg (fun t : Int × Int × Int => t.1) h
        dsimp only at e1 e2
        have hpos : 0 ≤ ((y.natAbs / Nat.gcd x.natAbs y.natAbs : Nat) : Int) := Int.natCast_nonneg _
        have hy1 : 1 ≤ y := by rw [e2] at hpos; omega
        have hq : y.natAbs / Nat.gcd x.natAbs y.natAbs = y.natAbs := by omega
        have hG : Nat.gcd x.natAbs y.natAbs = 1 := by
          rcases Nat.lt_or_ge 1 (Nat.gcd x.natAbs y.natAbs) with h5 | h5
          · have := Nat.div_lt_self (show 0 < y.natAbs by omega) h5
            omega
          · omega
        refine ⟨hy1, ?_, hG⟩
        rw [hG, Nat.div_one] at hn
        omega
  · rintro ⟨hy, hx, hG⟩
    unfold makeT normT
    rw [if_neg (by omega), hG, Nat.div_one, Nat.div_one, if_neg (by omega), decide_eq_false (show ¬ y < 0 by omega)]
    by_cases h : x < 0
    · rw [decide_eq_true h]
      simp
      omega
    · rw [decide_eq_false h]
      simp
      omega
/-- what Make answers without an error is valid -/
theorem make_valid (a b x y : Int) (h : makeT a b = (x, y, 0)) : validB x y = true ∧ -9223372036854775808 ≤ x ∧ x ≤ 9223372036854775807 ∧ -9223372036854775808 ≤ y ∧ y ≤ 9223372036854775807 := by
  unfold makeT at h
  split at h
  · simp at h
  · rename_i hb
    have hg : 0 < Nat.gcd a.natAbs b.natAbs := Nat.gcd_pos_of_pos_right _ (by omega)
    have hc : Nat.gcd (a.natAbs / Nat.gcd a.natAbs b.natAbs) (b.natAbs / Nat.gcd a.natAbs b.natAbs) = 1 := Nat.gcd_div_gcd_div_gcd_of_pos_right (by omega)
    have hq : 0 < b.natAbs / Nat.gcd a.natAbs b.natAbs := Nat.div_pos (Nat.gcd_le_right _ (by omega)) hg
    generalize a.natAbs / Nat.gcd a.natAbs b.natAbs = p at *
    generalize b.natAbs / Nat.gcd a.natAbs b.natAbs = q at *
    generalize (decide (a < 0) != decide (b < 0)) = s at *
    unfold normT at h
    split at h
    · simp at h
    · rename_i hn
      have e2 := congrArg (fun t : Int × Int × Int => t.2.1) h
      have e1 := congrArg (fun t : Int × Int × Int => t.1) h
      dsimp only at e1 e2
      have ex : x.natAbs = p := by cases s <;> simp at e1 <;> omega
      have ey : y.natAbs = q := by omega
      refine ⟨?_, by omega, by omega, by omega, by omega⟩
      unfold validB
      rw [decide_eq_true_iff, ex, ey]
      exact ⟨by omega, by omega, hc⟩
set_option maxHeartbeats 4000000 in
set_option maxRecDepth 1000000 in
theorem fValid_any (x y : Int) (w : World) (h1 : -9223372036854775808 ≤ x) (h2 : x ≤ 9223372036854775807) (h3 : -9223372036854775808 ≤ y) (h4 : y ≤ 9223372036854775807) :
    Calls Tryd.prog 6 #[.agg #[.int .i64 x, .int .i64 y]] w fun e w' => e = .returned (.bool (validB x y)) ∧ Below w.heap.size w w' := by
  have HV := Lib.hid (valid_iff x y h1 h2 h4)
  have HC := Lib.hid (fun w => fMake_any x y w h1 h2 h3 h4)
  rw [makeV_T] at HC
  clear h1 h2 h3 h4
  generalize validB x y = v at *
  generalize hT : makeT x y = T at *
  clear hT
  obtain ⟨X, Y, E⟩ := T
  unfold tvT at HC
  dsimp only at HC
  go_enter Tryd.func6, Tryd.ntmps6
  go_wp2_with fail
  go_at_call 12
  refine (HC.out _).mono ?_
  rintro _ w1 ⟨rfl, hb⟩
  have C1 : w1.cell? ⟨w.heap.size, 0, none⟩ = some (.int .i64 x) := by rw [hb.cell (by simp)]; simp [go_sem]
  have C2 : w1.cell? ⟨w.heap.size, 1, none⟩ = some (.int .i64 y) := by rw [hb.cell (by simp)]; simp [go_sem]
  have hlt : w.heap.size < w1.heap.size := by have := hb.size; simp at this; omega
  have D1 : (w1.alloc (.cells #[.int .i64 X, .int .i64 Y] 23)).cell? ⟨w.heap.size, 0, none⟩ = some (.int .i64 x) := by rw [((Below.refl w1.heap.size w1).alloc (Nat.le_refl _) _).cell hlt]; exact C1
  have D2 : (w1.alloc (.cells #[.int .i64 X, .int .i64 Y] 23)).cell? ⟨w.heap.size, 1, none⟩ = some (.int .i64 y) := by rw [((Below.refl w1.heap.size w1).alloc (Nat.le_refl _) _).cell hlt]; exact C2
  have HLT := Lib.hid hlt
  clear hlt
  have K1 := Lib.hid (((Below.refl w.heap.size w).alloc (Nat.le_refl _) (.cells #[.int .i64 x, .int .i64 y] 23)).trans (hb.mono (by simp)))
  clear hb
  by_cases hE : E = 0
  · subst hE
    by_cases hX : X = x
    · subst hX
      by_cases hY : Y = y
      · subst hY
        have hv : Hid (v = true) := HV.out.1 rfl
        go_wp2_with fail
        go_ret
        exact ⟨ret_bb hv.out.symm, K1.out.alloc (Nat.le_of_lt HLT.out) _⟩
      · have hv : Hid (v = false) := by
          show _ = _
          cases v with
          | false => rfl
          | true => exact absurd (congrArg (fun t : Int × Int × Int => t.2.1) (HV.out.2 rfl)) hY
        have hY' : (Y == y) = false := by simp; exact hY
        go_wp2_with fail
        go_ret
        exact ⟨ret_bb hv.out.symm, K1.out.alloc (Nat.le_of_lt HLT.out) _⟩
    · have hv : Hid (v = false) := by
        show _ = _
        cases v with
        | false => rfl
        | true => exact absurd (congrArg (fun t : Int × Int × Int => t.1) (HV.out.2 rfl)) hX
      have hX' : (X == x) = false := by simp; exact hX
      go_wp2_with fail
      go_ret
      exact ⟨ret_bb hv.out.symm, K1.out.alloc (Nat.le_of_lt HLT.out) _⟩
  · have hv : Hid (v = false) := by
      show _ = _
      cases v with
      | false => rfl
      | true => exact absurd (congrArg (fun t : Int × Int × Int => t.2.2) (HV.out.2 rfl)) hE
    have hE' : (E == 0) = false := by simp; exact hE
    go_wp2_with fail
    go_ret
    exact ⟨ret_bb hv.out.symm, K1.out.alloc (Nat.le_of_lt HLT.out) _⟩
/-- the table of the decimal digits lies, whatever is made behind it -/
def TabP (B : Nat) (w : World) : Prop := Lib.TabBelow Tryd.prog B w "internal/strconv.uint64pow10" .u64 Lib.pow10Tab
set_option maxHeartbeats 4000000 in
set_option maxRecDepth 1000000 in
theorem text_any (w : World) (hT : TabP w.heap.size w) :
    Calls Tryd.prog 8 #[.agg #[.int .i64 (-3), .int .i64 2]] w fun e w' => e = .returned (.string ⟨#[45, 51, 47, 50]⟩) ∧ Below w.heap.size w w' := by
  have HT := Lib.hid hT
  clear hT
  have HV := Lib.hid (fun w => fValid_any (-3) 2 w (by decide) (by decide) (by decide) (by decide))
  rw [show validB (-3) 2 = true by decide] at HV
  have i1 : Lib.itoa (-3) = [45, 51] := by first | kernel_rfl | simp [Lib.itoa, Lib.decDigits]
  have i2 : Lib.decDigits 2 = [50] := by first | kernel_rfl | simp [Lib.decDigits]
  have HF := Lib.hid (fun w h => Tryd.strconv_FormatInt_10 (-3) (by decide) (by decide) w h)
  have HS := Lib.hid (fun w => Tryd.strconv_FormatInt_10_small 2 (by decide) w)
  rw [i1] at HF
  rw [i2] at HS
  clear i1 i2
  go_enter Tryd.func8, Tryd.ntmps8
  go_wp2_with fail
  go_at_call 6
  refine (HV.out _).mono ?_
  rintro _ w1 ⟨rfl, hb⟩
  have K1 := Lib.hid (((Below.refl w.heap.size w).alloc (Nat.le_refl _) (.cells #[.int .i64 (-3), .int .i64 2] 23)).trans (hb.mono (by simp)))
  have C1 : w1.cell? ⟨w.heap.size, 0, none⟩ = some (.int .i64 (-3)) := by rw [hb.cell (by simp)]; simp [go_sem]
  have C2 : w1.cell? ⟨w.heap.size, 1, none⟩ = some (.int .i64 2) := by rw [hb.cell (by simp)]; simp [go_sem]
  have HL : Hid (w.heap.size < w1.heap.size) := by have := hb.size; simp at this; show _ < _; omega
  clear hb
  go_wp2_with fail
  go_at_call 15
  refine (HF.out _ (HT.out.on K1.out).here).mono ?_
  rintro _ w2 ⟨rfl, kk, os, rfl⟩
  have hg : Below w1.heap.size w1 («Sort».grow (w1.drewN kk) os) := Lib.below_grow _ w1 (Nat.le_refl _) kk os
  have D1 : («Sort».grow (w1.drewN kk) os).cell? ⟨w.heap.size, 0, none⟩ = some (.int .i64 (-3)) := by rw [hg.cell HL.out]; exact C1
  have D2 : («Sort».grow (w1.drewN kk) os).cell? ⟨w.heap.size, 1, none⟩ = some (.int .i64 2) := by rw [hg.cell HL.out]; exact C2
  have K2 := Lib.hid (K1.out.trans (hg.mono (Nat.le_of_lt HL.out)))
  clear hg C1 C2
  generalize «Sort».grow (w1.drewN kk) os = w2 at *
  go_wp2_with fail
  go_at_call 15
  refine (HS.out _).mono ?_
  rintro _ _ ⟨rfl, rfl⟩
  go_wp2_with fail
  go_ret
  exact ⟨congrArg (fun s => Ending.returned (Value.string s)) (by first | rfl | decide | kernel_rfl), K2.out⟩
theorem TabP.next {B : Nat} {w w' : World} (h : TabP B w) (hb : Below B w w') (hB : B ≤ w'.heap.size) : TabP w'.heap.size w' := fun w2 h2 => h w2 (hb.trans (h2.mono hB))
set_option maxHeartbeats 4000000 in
set_option maxRecDepth 1000000 in
theorem example_any (w : World) (hT : TabP w.heap.size w) :
    Calls Tryd.prog 10 #[] w fun e w' => e = .returned (.bool true) ∧ Below w.heap.size w w' := by
  have HT := Lib.hid hT
  clear hT
  have HC := Lib.hid (fun w => fMake_any 6 (-4) w (by decide) (by decide) (by decide) (by decide))
  rw [makeV_T, show makeT 6 (-4) = (-3, 2, 0) by decide] at HC
  unfold tvT at HC
  dsimp only at HC
  go_enter Tryd.func10, Tryd.ntmps10
  go_wp2_with fail
  go_at_call 12
  refine (HC.out _).mono ?_
  rintro _ w1 ⟨rfl, hb⟩
  have K1 := Lib.hid (hb.alloc hb.size (.cells #[.int .i64 (-3), .int .i64 2] 23))
  clear hb
  go_wp2_with fail
  go_at_call 8
  refine (text_any _ (HT.out.next K1.out K1.out.size)).mono ?_
  rintro _ w2 ⟨rfl, hb⟩
  have K2 := Lib.hid (K1.out.trans (hb.mono K1.out.size))
  clear hb
  go_wp2_with fail
  go_ret
  exact ⟨rfl, K2.out⟩
end Go.Proofs.YtdmcpnpiepmnkaaDoor
