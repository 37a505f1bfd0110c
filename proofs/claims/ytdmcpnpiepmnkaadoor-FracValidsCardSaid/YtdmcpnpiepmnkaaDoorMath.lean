/- Plain arithmetic for the statements about checked 64-bit numbers: no program in sight. -/
import Derived.WalkKit
namespace Go.Proofs.YtdmcpnpiepmnkaaDoor
open Go.RowKit

/-- whether a number is an int64 -/
def fits (n : Int) : Bool := decide (-9223372036854775808 ≤ n ∧ n ≤ 9223372036854775807)
/-- the number, or 0 where it is not an int64 -/
def fitV (n : Int) : Int := if fits n then n else 0

theorem fits_iff (n : Int) : fits n = true ↔ -9223372036854775808 ≤ n ∧ n ≤ 9223372036854775807 := by simp [fits]
theorem fitV_yes {n : Int} (h1 : -9223372036854775808 ≤ n) (h2 : n ≤ 9223372036854775807) : fitV n = n := by simp [fitV, fits, h1, h2]
theorem fits_yes {n : Int} (h1 : -9223372036854775808 ≤ n) (h2 : n ≤ 9223372036854775807) : fits n = true := by simp [fits, h1, h2]
theorem fitV_no {n : Int} (h : n < -9223372036854775808 ∨ 9223372036854775807 < n) : fitV n = 0 := by
  have : ¬ (-9223372036854775808 ≤ n ∧ n ≤ 9223372036854775807) := by omega
  simp [fitV, fits, this]
theorem fits_no {n : Int} (h : n < -9223372036854775808 ∨ 9223372036854775807 < n) : fits n = false := by
  have : ¬ (-9223372036854775808 ≤ n ∧ n ≤ 9223372036854775807) := by omega
  simp [fits, this]

/-- the product of two int64 is small -/
theorem prod_abs (a b : Int) (ha : a.natAbs ≤ 9223372036854775808) (hb : b.natAbs ≤ 9223372036854775808) :
    -85070591730234615865843651857942052864 ≤ a * b ∧ a * b ≤ 85070591730234615865843651857942052864 := by
  have h : (a * b).natAbs ≤ 9223372036854775808 * 9223372036854775808 := by
    rw [Int.natAbs_mul]; exact Nat.mul_le_mul ha hb
  omega

/-- the high and the low half of a number in two's complement of 128 bits -/
def hiOf (p : Int) : Int := p / 18446744073709551616 % 18446744073709551616
def loOf (p : Int) : Int := p % 18446744073709551616

/-- the unsigned form of an int64 -/
def uns (a : Int) : Nat := if a < 0 then (a + 18446744073709551616).toNat else a.toNat

theorem uns_lt (a : Int) (h1 : -9223372036854775808 ≤ a) (h2 : a ≤ 9223372036854775807) : uns a < 18446744073709551616 := by
  unfold uns; split <;> omega
theorem uns_neg {a : Int} (h1 : -9223372036854775808 ≤ a) (h : a < 0) : (uns a : Int) = a + 18446744073709551616 := by
  unfold uns; rw [if_pos h]; omega
theorem uns_pos {a : Int} (h : ¬ a < 0) : (uns a : Int) = a := by
  unfold uns; rw [if_neg h]; omega

theorem wrap_uns (a : Int) (h1 : -9223372036854775808 ≤ a) (h2 : a ≤ 9223372036854775807) : IntKind.u64.wrap a = (uns a : Int) := by
  rw [IntKind.wrap_u64]; unfold uns; split <;> omega
theorem mul_expand (a b m n : Int) : (a + m) * (b + n) = a * b + a * n + m * b + m * n := by
  rw [Int.add_mul, Int.mul_add, Int.mul_add]; omega

theorem lo_mul (a b : Int) (ha1 : -9223372036854775808 ≤ a) (hb1 : -9223372036854775808 ≤ b) :
    ((uns a * uns b % 18446744073709551616 : Nat) : Int) = loOf (a * b) := by
  unfold loOf
  have e : ((uns a * uns b : Nat) : Int) = (uns a : Int) * (uns b : Int) := Int.natCast_mul _ _
  by_cases sa : a < 0 <;> by_cases sb : b < 0
  · rw [uns_neg ha1 sa, uns_neg hb1 sb, mul_expand] at e; omega
  · rw [uns_neg ha1 sa, uns_pos sb, Int.add_mul] at e; omega
  · rw [uns_pos sa, uns_neg hb1 sb, Int.mul_add] at e; omega
  · rw [uns_pos sa, uns_pos sb] at e; omega

/-- the high half of the unsigned product, corrected for the signs -/
def hiMul (a b : Int) : Int :=
  let h0 : Int := ((uns a * uns b / 18446744073709551616 : Nat) : Int)
  let h1 : Int := if a < 0 then (h0 - uns b) % 18446744073709551616 else h0
  if b < 0 then (h1 - uns a) % 18446744073709551616 else h1

theorem hi_mul (a b : Int) (ha1 : -9223372036854775808 ≤ a) (hb1 : -9223372036854775808 ≤ b) (ha2 : a ≤ 9223372036854775807) (hb2 : b ≤ 9223372036854775807) :
    hiMul a b = hiOf (a * b) := by
  have bd := prod_abs a b (by omega) (by omega)
  unfold hiOf hiMul
  have e : ((uns a * uns b : Nat) : Int) = (uns a : Int) * (uns b : Int) := Int.natCast_mul _ _
  by_cases sa : a < 0 <;> by_cases sb : b < 0
  · simp only [sa, sb, if_true]
    rw [uns_neg ha1 sa, uns_neg hb1 sb] at e ⊢; rw [mul_expand] at e; omega
  · simp only [sa, sb, if_true, if_false]
    rw [uns_neg ha1 sa, uns_pos sb, Int.add_mul] at e; rw [uns_pos sb]; omega
  · simp only [sa, sb, if_true, if_false]
    rw [uns_pos sa, uns_neg hb1 sb, Int.mul_add] at e; rw [uns_pos sa]; omega
  · simp only [sa, sb, if_false]
    rw [uns_pos sa, uns_pos sb] at e; omega

/-- when the product is an int64, read off the two halves -/
theorem fits_halves (p : Int) (h1 : -85070591730234615865843651857942052864 ≤ p) (h2 : p ≤ 85070591730234615865843651857942052864) :
    fits p = decide ((loOf p < 9223372036854775808 ∧ hiOf p = 0) ∨ (9223372036854775808 ≤ loOf p ∧ hiOf p = 18446744073709551615)) := by
  unfold fits loOf hiOf
  rw [decide_eq_decide]
  omega
theorem val_halves (p : Int) (h : fits p = true) : fitV p = if loOf p < 9223372036854775808 then loOf p else loOf p - 18446744073709551616 := by
  rw [fits_iff] at h
  rw [fitV_yes h.1 h.2]
  unfold loOf
  split <;> omega

/-- the sign of the difference of two numbers -/
def crossV (p q : Int) : Int := if p < q then -1 else if p = q then 0 else 1

/-- signed reading of a 64-bit half -/
def sgn (h : Int) : Int := if h < 9223372036854775808 then h else h - 18446744073709551616

theorem sgn_hi (p : Int) (h1 : -85070591730234615865843651857942052864 ≤ p) (h2 : p ≤ 85070591730234615865843651857942052864) :
    sgn (hiOf p) = p / 18446744073709551616 := by
  unfold sgn hiOf; split <;> omega

/-- quotient and remainder toward negative infinity -/
theorem lo_wrap (p : Int) : wrap64 (loOf p) = if loOf p < 9223372036854775808 then loOf p else loOf p - 18446744073709551616 := by
  unfold wrap64 loOf; split <;> omega
theorem sgn_shift {s : Int} (h1 : -9223372036854775808 ≤ s) (h2 : s ≤ 9223372036854775807) :
    IntKind.u64.wrap (s / 9223372036854775808) = if s < 0 then 18446744073709551615 else 0 := by
  rw [IntKind.wrap_u64]
  split
  · have : s / 9223372036854775808 = -1 := by omega
    rw [this]; rfl
  · have : s / 9223372036854775808 = 0 := by omega
    rw [this]; rfl
theorem sign_half (p : Int) : IntKind.u64.wrap (wrap64 (loOf p) / 9223372036854775808) = if loOf p < 9223372036854775808 then 0 else 18446744073709551615 := by
  have b : 0 ≤ loOf p ∧ loOf p ≤ 18446744073709551615 := by unfold loOf; omega
  rw [sgn_shift (by rw [lo_wrap]; split <;> omega) (by rw [lo_wrap]; split <;> omega), lo_wrap]
  by_cases h : loOf p < 9223372036854775808
  · rw [if_pos h, if_pos h, if_neg (by omega)]
  · rw [if_neg h, if_neg h, if_pos (by omega)]
theorem mul_no {p : Int} (h1 : -85070591730234615865843651857942052864 ≤ p) (h2 : p ≤ 85070591730234615865843651857942052864)
    (h : (hiOf p != IntKind.u64.wrap (wrap64 (loOf p) / 9223372036854775808)) = true) : p < -9223372036854775808 ∨ 9223372036854775807 < p := by
  have k := WalkArith.int_ne' h
  rw [sign_half] at k
  by_cases c : loOf p < 9223372036854775808
  · rw [if_pos c] at k; unfold hiOf at k; unfold loOf at c; omega
  · rw [if_neg c] at k; unfold hiOf at k; unfold loOf at c; omega
theorem mul_yes {p : Int} (h1 : -85070591730234615865843651857942052864 ≤ p) (h2 : p ≤ 85070591730234615865843651857942052864)
    (h : (hiOf p != IntKind.u64.wrap (wrap64 (loOf p) / 9223372036854775808)) = false) : -9223372036854775808 ≤ p ∧ p ≤ 9223372036854775807 ∧ wrap64 (loOf p) = p := by
  have k := WalkArith.int_eq' h
  rw [sign_half] at k
  rw [lo_wrap]
  by_cases c : loOf p < 9223372036854775808
  · rw [if_pos c] at k ⊢; unfold hiOf at k; unfold loOf at c ⊢; omega
  · rw [if_neg c] at k ⊢; unfold hiOf at k; unfold loOf at c ⊢; omega

/-- the sign and the magnitude's two halves of a number -/
def negOf (n : Int) : Bool := decide (n < 0)
def magHi (n : Int) : Nat := n.natAbs / 18446744073709551616
def magLo (n : Int) : Nat := n.natAbs % 18446744073709551616

/-- a sign and a magnitude of two halves, as a number -/
def wideV (neg : Bool) (hi lo : Nat) : Int := if neg then -((hi : Int) * 18446744073709551616 + lo) else (hi : Int) * 18446744073709551616 + lo

theorem wide_of (n : Int) : wideV (negOf n) (magHi n) (magLo n) = n := by
  unfold wideV negOf magHi magLo
  by_cases h : n < 0 <;> simp [h] <;> omega

def divV (a b : Int) : Int := if b < 1 then 0 else a / b
def modV (a b : Int) : Int := if b < 1 then 0 else a % b
def posB (b : Int) : Bool := !decide (b < 1)

/-- the truncated quotient and remainder against the floored ones, the sign of the remainder known -/
theorem tdiv_neg (a b : Int) (hb : 1 ≤ b) (h : a.tmod b < 0) : a.tdiv b = a / b + 1 ∧ a.tmod b = a % b - b := by
  have h1 := Int.mul_tdiv_add_tmod a b
  have h2 := Int.emod_add_mul_ediv a b
  have h3 := Int.emod_nonneg a (show b ≠ 0 by omega)
  have h4 := Int.emod_lt_of_pos a (show 0 < b by omega)
  have h6 : -b < a.tmod b := by
    have := Int.tmod_lt_of_pos (-a) (show 0 < b by omega)
    rw [Int.neg_tmod] at this; omega
  have hd : b * (a.tdiv b - a / b) = a % b - a.tmod b := by rw [Int.mul_sub]; omega
  have hx : a.tdiv b - a / b = 1 := by
    have lo : 0 < a.tdiv b - a / b := by
      have : ¬ (a.tdiv b - a / b ≤ 0) := by
        intro hle
        have := Int.mul_le_mul_of_nonneg_left hle (show 0 ≤ b by omega)
        omega
      omega
    have hi : a.tdiv b - a / b < 2 := by
      have : ¬ (2 ≤ a.tdiv b - a / b) := by
        intro hle
        have := Int.mul_le_mul_of_nonneg_left hle (show 0 ≤ b by omega)
        omega
      omega
    omega
  rw [hx] at hd
  omega

theorem tdiv_pos (a b : Int) (hb : 1 ≤ b) (h : 0 ≤ a.tmod b) : a.tdiv b = a / b ∧ a.tmod b = a % b := by
  have h1 := Int.mul_tdiv_add_tmod a b
  have h2 := Int.emod_add_mul_ediv a b
  have h3 := Int.emod_nonneg a (show b ≠ 0 by omega)
  have h4 := Int.emod_lt_of_pos a (show 0 < b by omega)
  have h5 : a.tmod b < b := Int.tmod_lt_of_pos a (by omega)
  have hd : b * (a.tdiv b - a / b) = a % b - a.tmod b := by rw [Int.mul_sub]; omega
  have hx : a.tdiv b - a / b = 0 := by
    have lo : ¬ (1 ≤ a.tdiv b - a / b) := by
      intro hle
      have := Int.mul_le_mul_of_nonneg_left hle (show 0 ≤ b by omega)
      omega
    have hi : ¬ (a.tdiv b - a / b ≤ -1) := by
      intro hle
      have := Int.mul_le_mul_of_nonneg_left hle (show 0 ≤ b by omega)
      omega
    omega
  rw [hx] at hd
  omega

/-- the floored quotient by a positive number is no larger than the dividend -/
theorem ediv_bounds (a b : Int) (h1 : -9223372036854775808 ≤ a) (h2 : a ≤ 9223372036854775807) (hb : 1 ≤ b) :
    -9223372036854775808 ≤ a / b ∧ a / b ≤ 9223372036854775807 := by
  have e := Int.emod_add_mul_ediv a b
  have r1 := Int.emod_nonneg a (show b ≠ 0 by omega)
  have r2 := Int.emod_lt_of_pos a (show 0 < b by omega)
  constructor
  · have : ¬ (a / b ≤ -9223372036854775809) := by
      intro hle
      have := Int.mul_le_mul_of_nonneg_left hle (show 0 ≤ b by omega)
      omega
    omega
  · have : ¬ (9223372036854775808 ≤ a / b) := by
      intro hle
      have := Int.mul_le_mul_of_nonneg_left hle (show 0 ≤ b by omega)
      omega
    omega

theorem div_no {b : Int} (h : b < 1) (a : Int) : 0 = divV a b ∧ false = posB b := by simp [divV, posB, h]
theorem mod_no {b : Int} (h : b < 1) (a : Int) : 0 = modV a b ∧ false = posB b := by simp [modV, posB, h]
theorem div_yes {b : Int} (h : 1 ≤ b) (a : Int) : divV a b = a / b ∧ posB b = true := by
  have n : ¬ b < 1 := by omega
  simp [divV, posB, n]
theorem mod_yes {b : Int} (h : 1 ≤ b) (a : Int) : modV a b = a % b ∧ posB b = true := by
  have n : ¬ b < 1 := by omega
  simp [modV, posB, n]

end Go.Proofs.YtdmcpnpiepmnkaaDoor
