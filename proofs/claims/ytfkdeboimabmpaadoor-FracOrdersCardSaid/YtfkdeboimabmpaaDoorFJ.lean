/- The two comparisons and the law on the order. -/
import Derived.Test.YtfkdeboimabmpaaDoorFI
namespace Go.Proofs.YtfkdeboimabmpaaDoor
open Go.RowKit

/-- what Cmp answers -/
def cmpV (x1 y1 x2 y2 : Int) : Value := if validB x1 y1 = true ∧ validB x2 y2 = true then .tuple #[.int .i64 (crossV (x1 * y2) (x2 * y1)), .int .i64 0] else .tuple #[.int .i64 0, .int .i64 1]
theorem cmpV_no1 {x1 y1 x2 y2 : Int} (h : validB x1 y1 = false) : cmpV x1 y1 x2 y2 = .tuple #[.int .i64 0, .int .i64 1] := by unfold cmpV; rw [if_neg (by rw [h]; simp)]
theorem cmpV_no2 {x1 y1 x2 y2 : Int} (h : validB x2 y2 = false) : cmpV x1 y1 x2 y2 = .tuple #[.int .i64 0, .int .i64 1] := by unfold cmpV; rw [if_neg (by rw [h]; simp)]
theorem cmpV_yes {x1 y1 x2 y2 : Int} (h : validB x1 y1 = true) (k : validB x2 y2 = true) : cmpV x1 y1 x2 y2 = .tuple #[.int .i64 (crossV (x1 * y2) (x2 * y1)), .int .i64 0] := by unfold cmpV; rw [if_pos ⟨h, k⟩]
def I64 (x : Int) : Prop := -9223372036854775808 ≤ x ∧ x ≤ 9223372036854775807
/-- two blocks with one number each -/
def Two (g : Nat) (x1 y1 x2 y2 : Int) (w : World) : Prop := w.cell? ⟨g, 0, none⟩ = some (.int .i64 x1) ∧ w.cell? ⟨g, 1, none⟩ = some (.int .i64 y1) ∧ w.cell? ⟨g + 1, 0, none⟩ = some (.int .i64 x2) ∧ w.cell? ⟨g + 1, 1, none⟩ = some (.int .i64 y2) ∧ g + 2 ≤ w.heap.size
theorem Two.below {g : Nat} {x1 y1 x2 y2 : Int} {w w' : World} (h : Two g x1 y1 x2 y2 w) (hb : Below w.heap.size w w') : Two g x1 y1 x2 y2 w' := by
  obtain ⟨h1, h2, h3, h4, h5⟩ := h
  have := hb.size
  exact ⟨by rw [hb.cell (by show g < _; omega)]; exact h1, by rw [hb.cell (by show g < _; omega)]; exact h2, by rw [hb.cell (by show g + 1 < _; omega)]; exact h3, by rw [hb.cell (by show g + 1 < _; omega)]; exact h4, by omega⟩
theorem two_start (x1 y1 x2 y2 : Int) (w : World) : Two w.heap.size x1 y1 x2 y2 ((w.alloc (.cells #[.int .i64 x1, .int .i64 y1] 23)).alloc (.cells #[.int .i64 x2, .int .i64 y2] 23)) :=
  ⟨by simp [go_sem], by simp [go_sem], by simp [go_sem], by simp [go_sem], by simp⟩
set_option maxHeartbeats 4000000 in
set_option maxRecDepth 1000000 in
theorem fCmp_any (x1 y1 x2 y2 : Int) (w : World) (h1 : I64 x1) (h2 : I64 y1) (h3 : I64 x2) (h4 : I64 y2) :
    Calls Tryd.prog 15 #[.agg #[.int .i64 x1, .int .i64 y1], .agg #[.int .i64 x2, .int .i64 y2]] w fun e w' => e = .returned (cmpV x1 y1 x2 y2) ∧ Below w.heap.size w w' := by
  have HV1 := Lib.hid (fun w => fValid_any x1 y1 w h1.1 h1.2 h2.1 h2.2)
  have HV2 := Lib.hid (fun w => fValid_any x2 y2 w h3.1 h3.2 h4.1 h4.2)
  have HX := Lib.hid (fun w => cross_any x1 y2 x2 y1 h1.1 h1.2 h4.1 h4.2 h3.1 h3.2 h2.1 h2.2 w)
  have T1 := Lib.hid (two_start x1 y1 x2 y2 w)
  have K1 : Hid (Below w.heap.size w ((w.alloc (.cells #[.int .i64 x1, .int .i64 y1] 23)).alloc (.cells #[.int .i64 x2, .int .i64 y2] 23))) :=
    ((Below.refl _ _).alloc (Nat.le_refl _) _).alloc (by first | (simp; done) | (simp; omega)) _
  have HN1 := Lib.hid (@cmpV_no1 x1 y1 x2 y2)
  have HN2 := Lib.hid (@cmpV_no2 x1 y1 x2 y2)
  have HYS := Lib.hid (@cmpV_yes x1 y1 x2 y2)
  clear h1 h2 h3 h4
  generalize cmpV x1 y1 x2 y2 = V at *
  generalize crossV (x1 * y2) (x2 * y1) = c at *
  generalize validB x1 y1 = v1 at *
  generalize validB x2 y2 = v2 at *
  go_enter Tryd.func15, Tryd.ntmps15
  go_wp2_with fail
  go_at_call 8
  refine (HV1.out _).mono ?_
  rintro _ w1 ⟨rfl, hb⟩
  have T2 := Lib.hid (T1.out.below hb)
  have K2 := Lib.hid (K1.out.trans (hb.mono (Nat.le_trans (Nat.le_add_right _ 2) T1.out.2.2.2.2)))
  clear hb T1 K1
  obtain ⟨C1, C2, C3, C4, _⟩ := T2.out
  cases v1 with
  | false =>
    have HE := Lib.hid (HN1.out rfl)
    go_wp2_with fail
    go_ret2
    exact ⟨by rw [HE.out]; rfl, K2.out⟩
  | true =>
    replace HYS := Lib.hid (HYS.out rfl)
    go_wp2_with fail
    go_at_call 8
    refine (HV2.out _).mono ?_
    rintro _ w2 ⟨rfl, hb⟩
    have T3 := Lib.hid (T2.out.below hb)
    have K3 := Lib.hid (K2.out.trans (hb.mono (Nat.le_trans (Nat.le_add_right _ 2) T2.out.2.2.2.2)))
    clear hb T2 K2 C1 C2 C3 C4
    obtain ⟨C1, C2, C3, C4, _⟩ := T3.out
    cases v2 with
    | false =>
      have HE := Lib.hid (HN2.out rfl)
      go_wp2_with fail
      go_ret2
      exact ⟨by rw [HE.out]; rfl, K3.out⟩
    | true =>
      have HE := Lib.hid (HYS.out rfl)
      go_wp2_with fail
      go_at_call 24
      refine (HX.out _).mono ?_
      rintro _ w3 ⟨rfl, hb⟩
      have K4 := Lib.hid (K3.out.trans (hb.mono (Nat.le_trans (Nat.le_add_right _ 2) T3.out.2.2.2.2)))
      clear hb
      go_wp2_with fail
      go_ret2
      exact ⟨by rw [HE.out]; rfl, K4.out⟩
theorem nat_unique (a b c d : Nat) (h1 : Nat.gcd a b = 1) (h2 : Nat.gcd c d = 1) (h : a * d = c * b) (hb : 0 < b) : a = c ∧ b = d := by
  have k1 : b ∣ d := Nat.Coprime.dvd_of_dvd_mul_left (Nat.coprime_comm.1 h1) ⟨c, by rw [h, Nat.mul_comm]⟩
  have k2 : d ∣ b := Nat.Coprime.dvd_of_dvd_mul_left (Nat.coprime_comm.1 h2) ⟨a, by rw [← h, Nat.mul_comm]⟩
  have e := Nat.dvd_antisymm k1 k2
  subst e
  exact ⟨Nat.eq_of_mul_eq_mul_right hb h, rfl⟩
theorem int_unique (x1 y1 x2 y2 : Int) (h1 : Nat.gcd x1.natAbs y1.natAbs = 1) (h2 : Nat.gcd x2.natAbs y2.natAbs = 1) (k1 : 1 ≤ y1) (k2 : 1 ≤ y2) (h : x1 * y2 = x2 * y1) : x1 = x2 ∧ y1 = y2 := by
  have e : x1.natAbs * y2.natAbs = x2.natAbs * y1.natAbs := by rw [← Int.natAbs_mul, ← Int.natAbs_mul, h]
  obtain ⟨e1, e2⟩ := nat_unique x1.natAbs y1.natAbs x2.natAbs y2.natAbs h1 h2 e (by omega)
  have e3 : y1 = y2 := by omega
  subst e3
  exact ⟨Int.eq_of_mul_eq_mul_right (by omega) h, rfl⟩
theorem abs_mul_pos (x y : Int) (hx : ¬ x < 0) (hy : 1 ≤ y) : x * y = ((x.natAbs * y.natAbs : Nat) : Int) := by
  rw [Int.natCast_mul, show ((x.natAbs : Nat) : Int) = x by omega, show ((y.natAbs : Nat) : Int) = y by omega]
theorem abs_mul_neg (x y : Int) (hx : x < 0) (hy : 1 ≤ y) : x * y = -((x.natAbs * y.natAbs : Nat) : Int) := by
  rw [Int.natCast_mul, show ((x.natAbs : Nat) : Int) = -x by omega, show ((y.natAbs : Nat) : Int) = y by omega, Int.neg_mul, Int.neg_neg]

theorem cross_lt {p q : Int} (h : p < q) : crossV p q = -1 := by unfold crossV; rw [if_pos h]
theorem cross_gt {p q : Int} (h : q < p) : crossV p q = 1 := by unfold crossV; rw [if_neg (by omega), if_neg (by omega)]
theorem cross_eq (p : Int) : crossV p p = 0 := by unfold crossV; rw [if_neg (by omega), if_pos rfl]
theorem valid_out {x y : Int} (h : validB x y = true) : 1 ≤ y ∧ x ≠ -9223372036854775808 ∧ Nat.gcd x.natAbs y.natAbs = 1 := of_decide_eq_true h
/-- the order where the numbers differ -/
theorem order_cases (x1 y1 x2 y2 : Int) (h : validB x1 y1 = true) (k : validB x2 y2 = true) (hne : ¬ (x1 = x2 ∧ y1 = y2)) :
    (x1 < 0 → ¬ x2 < 0 → crossV (x1 * y2) (x2 * y1) = -1) ∧ (¬ x1 < 0 → x2 < 0 → crossV (x1 * y2) (x2 * y1) = 1) ∧
    (¬ x1 < 0 → ¬ x2 < 0 → crossV (x1 * y2) (x2 * y1) = if x1.natAbs * y2.natAbs < x2.natAbs * y1.natAbs then -1 else 1) ∧
    (x1 < 0 → x2 < 0 → crossV (x1 * y2) (x2 * y1) = if x1.natAbs * y2.natAbs < x2.natAbs * y1.natAbs then 1 else -1) := by
  obtain ⟨a1, _, a3⟩ := valid_out h
  obtain ⟨b1, _, b3⟩ := valid_out k
  have hd : x1 * y2 ≠ x2 * y1 := fun e => hne (int_unique x1 y1 x2 y2 a3 b3 a1 b1 e)
  refine ⟨fun h1 h2 => ?_, fun h1 h2 => ?_, fun h1 h2 => ?_, fun h1 h2 => ?_⟩
  · rw [abs_mul_neg x1 y2 h1 b1, abs_mul_pos x2 y1 h2 a1] at *
    have : 0 < x1.natAbs * y2.natAbs := Nat.mul_pos (by omega) (by omega)
    exact cross_lt (by omega)
  · rw [abs_mul_pos x1 y2 h1 b1, abs_mul_neg x2 y1 h2 a1] at *
    have : 0 < x2.natAbs * y1.natAbs := Nat.mul_pos (by omega) (by omega)
    exact cross_gt (by omega)
  · rw [abs_mul_pos x1 y2 h1 b1, abs_mul_pos x2 y1 h2 a1] at *
    split
    · exact cross_lt (by omega)
    · exact cross_gt (by omega)
  · rw [abs_mul_neg x1 y2 h1 b1, abs_mul_neg x2 y1 h2 a1] at *
    split
    · exact cross_gt (by omega)
    · exact cross_lt (by omega)
end Go.Proofs.YtfkdeboimabmpaaDoor
