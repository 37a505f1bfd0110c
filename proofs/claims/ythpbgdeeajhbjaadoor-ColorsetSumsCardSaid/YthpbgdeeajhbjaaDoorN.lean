/- Cyclic shifts, and the law on searches and shifts. -/
import Derived.Test.YthpbgdeeajhbjaaDoorK
import Derived.Test.YthpbgdeeajhbjaaDoorJ
import Derived.Deep.RegionHeld3
namespace Go.Proofs.YthpbgdeeajhbjaaDoor
open Go.RowKit Go.Maps Go.WideMaps

def shiftV (n : Nat) (i j : Int) : Int := if i < 0 ∨ (n : Int) ≤ i then -1 else (i + j) % n
theorem tmod_bounds (j : Int) (n : Nat) (hn : 1 ≤ n) : -(n : Int) < j.tmod n ∧ j.tmod n < n := by
  constructor
  · have := Int.tmod_lt_of_pos (-j) (show (0 : Int) < n by omega)
    rw [Int.neg_tmod] at this
    omega
  · exact Int.tmod_lt_of_pos j (by omega)
theorem tmod_emod (j : Int) (n : Nat) : j.tmod n % n = j % n := by
  have h := Int.mul_tdiv_add_tmod j n
  conv => rhs; rw [← h]
  rw [Int.add_comm, Int.add_mul_emod_self_left]
theorem shift_one (i j : Int) (n : Nat) : (i + j.tmod n % n) % n = (i + j) % n := by
  rw [tmod_emod, Int.add_emod i (j % n), Int.emod_emod, ← Int.add_emod]
theorem shift_two (i j : Int) (n : Nat) : (i + (j.tmod n + n)) % n = (i + j) % n := by
  rw [← Int.add_assoc, Int.add_emod_right, Int.add_emod, tmod_emod, ← Int.add_emod]
theorem shift_three (i j : Int) (n : Nat) : (i + j.tmod n) % n = (i + j) % n := by
  rw [Int.add_emod, tmod_emod, ← Int.add_emod]

theorem shift_any (nm : ByteArray) (A : Option Addr) (n cap : Nat) (i j : Int) (w : World) (hn : n ≤ 40) (i1 : -9223372036854775808 ≤ i) (i2 : i ≤ 9223372036854775807) (j1 : -9223372036854775808 ≤ j) (j2 : j ≤ 9223372036854775807) :
    Calls Tryd.prog 18 #[.agg #[.string nm, .slice A n cap], .int .i64 i, .int .i64 j] w fun e w' => e = .returned (.int .i64 (shiftV n i j)) ∧ Below w.heap.size w w' := by
  have B0 : Hid (Below w.heap.size w (w.alloc (.cells #[.string nm, .slice A n cap] 26))) := (Below.refl _ _).alloc (Nat.le_refl _) _
  generalize hS : shiftV n i j = S
  have HS := Lib.hid hS
  clear hS
  by_cases h : i < 0 ∨ (n : Int) ≤ i
  · have E : Hid (-1 = S) := by show _ = _; rw [← HS.out]; unfold shiftV; rw [if_pos h]
    by_cases h0 : i < 0
    · go_enter Tryd.func18, Tryd.ntmps18
      go_wp2
      go_ret
      exact ⟨ret_i E.out, B0.out⟩
    · have h0' : 0 ≤ i := by omega
      have h3 : (n : Int) ≤ i := by omega
      clear h0 h
      go_enter Tryd.func18, Tryd.ntmps18
      go_wp2
      go_ret
      exact ⟨ret_i E.out, B0.out⟩
  · have h1 : 0 ≤ i := by omega
    have h2 : i < n := by omega
    have hn1 : 1 ≤ n := by omega
    have E : Hid ((i + j.tmod n % n) % n = S) := by show _ = _; rw [← HS.out, shift_one]; unfold shiftV; rw [if_neg h]
    clear h
    obtain ⟨t1, t2⟩ := tmod_bounds j n hn1
    have m1 := Int.emod_nonneg (j.tmod n) (show (n : Int) ≠ 0 by omega)
    have m2 := Int.emod_lt_of_pos (j.tmod n) (show (0 : Int) < n by omega)
    go_enter Tryd.func18, Tryd.ntmps18
    go_wp2
    go_ret
    exact ⟨ret_i E.out, B0.out⟩

theorem rshift_any (nm : ByteArray) (A : Option Addr) (n cap : Nat) (i j : Int) (w : World) (hn : n ≤ 40) (i1 : -9223372036854775808 ≤ i) (i2 : i ≤ 9223372036854775807) (j1 : -9223372036854775808 ≤ j) (j2 : j ≤ 9223372036854775807) :
    Calls Tryd.prog 19 #[.agg #[.string nm, .slice A n cap], .int .i64 i, .int .i64 j] w fun e w' => e = .returned (.int .i64 (shiftV n i j)) ∧ Below w.heap.size w w' := by
  have B0 : Hid (Below w.heap.size w (w.alloc (.cells #[.string nm, .slice A n cap] 26))) := (Below.refl _ _).alloc (Nat.le_refl _) _
  generalize hS : shiftV n i j = S
  have HS := Lib.hid hS
  clear hS
  by_cases h : i < 0 ∨ (n : Int) ≤ i
  · have E : Hid (-1 = S) := by show _ = _; rw [← HS.out]; unfold shiftV; rw [if_pos h]
    by_cases h0 : i < 0
    · go_enter Tryd.func19, Tryd.ntmps19
      go_wp2
      go_ret
      exact ⟨ret_i E.out, B0.out⟩
    · have h0' : 0 ≤ i := by omega
      have h3 : (n : Int) ≤ i := by omega
      clear h0 h
      go_enter Tryd.func19, Tryd.ntmps19
      go_wp2
      go_ret
      exact ⟨ret_i E.out, B0.out⟩
  · have h1 : 0 ≤ i := by omega
    have h2 : i < n := by omega
    have hn1 : 1 ≤ n := by omega
    have HE : Hid ((i + j) % n = S) := by show _ = _; rw [← HS.out]; unfold shiftV; rw [if_neg h]
    clear h
    obtain ⟨t1, t2⟩ := tmod_bounds j n hn1
    by_cases ht : j.tmod n < 0
    · have E : Hid ((i + (j.tmod n + n)) % n = S) := by show _ = _; rw [shift_two]; exact HE.out
      go_enter Tryd.func19, Tryd.ntmps19
      go_wp2
      go_ret
      exact ⟨ret_i E.out, B0.out⟩
    · have ht' : 0 ≤ j.tmod n := by omega
      have E : Hid ((i + j.tmod n) % n = S) := by show _ = _; rw [shift_three]; exact HE.out
      clear ht
      go_enter Tryd.func19, Tryd.ntmps19
      go_wp2
      go_ret
      exact ⟨ret_i E.out, B0.out⟩
end Go.Proofs.YthpbgdeeajhbjaaDoor
