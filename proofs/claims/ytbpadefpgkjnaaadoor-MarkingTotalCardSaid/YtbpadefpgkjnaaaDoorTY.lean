/- The laws on markings but for texts. -/
import Derived.Test.YtbpadefpgkjnaaaDoorTX
namespace Go.Proofs.YtbpadefpgkjnaaaDoor
open Go.RowKit

theorem sameL_refl (a : List Int) : sameL a a = true := sameL_iff.2 rfl
theorem len_max {a b : List Int} {m : Nat} (h : a.length * 8 ≤ m) : (maxL a b).length * 8 ≤ m := by rw [maxL_len]; split <;> omega
theorem len_min {a b : List Int} {m : Nat} (h : a.length * 8 ≤ m) : (minL a b).length * 8 ≤ m := by rw [minL_len]; split <;> omega
theorem len_unit (n i : Int) : (unitL n i).length * 8 ≤ 140737488351232 := by
  unfold unitL
  split
  · rw [tab_len]; omega
  · simp

set_option maxHeartbeats 4000000 in
set_option maxRecDepth 100000 in
theorem valid_said (A : Option Addr) (a : List Int) (ca : Nat) (n i : Int) (w : World) (ra : ReadsV w A a) (hl : a.length * 8 ≤ 140737488351232) (hL : LaidW w) :
    Calls Tryd.prog 3 #[.slice A a.length ca, .int .i64 n, .int .i64 i] w fun e w' => e = .returned (.bool true) ∧ Below w.heap.size w w' := by
  have RA := Lib.hid ra
  have C1 := Lib.hid (fun W (h : Below w.heap.size w W) => validn_law A a n ca W (RA.out.below h (Nat.le_refl _)) hl)
  have C2 := Lib.hid (fun W (h : Below w.heap.size w W) => rvalidn_law A a n ca W (RA.out.below h (Nat.le_refl _)) hl)
  have C3 := Lib.hid (fun W (h : Below w.heap.size w W) => validn_law A a a.length ca W (RA.out.below h (Nat.le_refl _)) hl)
  have C4 := Lib.hid (fun W (h : Below w.heap.size w W) => rvalidn_law A a a.length ca W (RA.out.below h (Nat.le_refl _)) hl)
  have C5 := Lib.hid (fun W (h : Below w.heap.size w W) => unit_law n i W)
  have C6 := Lib.hid (fun W (h : Below w.heap.size w W) => runit_law n i W)
  have S := Lib.hid (fun A1 c1 A2 c2 W (h1 : ReadsV W A1 (unitL n i)) (h2 : ReadsV W A2 (unitL n i)) => same_law A1 A2 (unitL n i) (unitL n i) c1 c2 W h1 h2 (len_unit n i))
  rw [sameL_refl] at S
  have CE := Lib.hid (fun W (h : Below w.heap.size w W) => alive_any W (hL.below h (Nat.le_refl _)))
  clear ra hL RA
  generalize unitL n i = U at *
  generalize validL a n = P at *
  generalize validL a a.length = Q at *
  generalize a.length = N at *
  have hP : (P == P) = true := by simp
  have hQ : (Q == Q) = true := by simp
  have Z : Hid (Below w.heap.size w w) := Below.refl _ _
  by_cases h : 60 < N
  · have h1 : (60 : Int) < (N : Int) := by omega
    go_enter Tryd.func3, Tryd.ntmps3
    go_wp2_with fail
    refine (CE.out w Z.out).mono ?_
    rintro e w1 ⟨rfl, K1⟩
    have B1 : Hid (Below w.heap.size w w1) := Z.out.trans (K1.mono Z.out.size)
    clear K1
    go_wp2
    go_ret
    exact ⟨rfl, B1.out⟩
  · have h1 : ¬ (60 : Int) < (N : Int) := by omega
    go_enter Tryd.func3, Tryd.ntmps3
    go_wp2_with fail
    refine (C1.out w Z.out).mono ?_
    rintro e w' ⟨rfl, rfl⟩
    go_wp2_with fail
    refine (C2.out w Z.out).mono ?_
    rintro e w' ⟨rfl, rfl⟩
    go_wp2_with fail
    refine (C3.out w Z.out).mono ?_
    rintro e w' ⟨rfl, rfl⟩
    go_wp2_with fail
    refine (C4.out w Z.out).mono ?_
    rintro e w' ⟨rfl, rfl⟩
    go_wp2_with fail
    refine (C5.out w Z.out).mono ?_
    rintro e w1 ⟨A1, c1, rfl, R1, K1⟩
    have B1 : Hid (Below w.heap.size w w1) := Z.out.trans (K1.mono Z.out.size)
    replace R1 := Lib.hid R1
    clear K1
    go_wp2_with fail
    refine (C6.out w1 B1.out).mono ?_
    rintro e w2 ⟨A2, c2, rfl, R2, K2⟩
    have B2 : Hid (Below w.heap.size w w2) := B1.out.trans (K2.mono B1.out.size)
    replace R1 : Hid (ReadsV w2 A1 U) := R1.out.below K2 (Nat.le_refl _)
    replace R2 := Lib.hid R2
    clear K2
    go_wp2_with fail
    refine (S.out A1 c1 A2 c2 w2 R1.out R2.out).mono ?_
    rintro e w3 ⟨rfl, K3⟩
    have B3 : Hid (Below w.heap.size w w3) := B2.out.trans (K3.mono B2.out.size)
    replace R1 : Hid (ReadsV w3 A1 U) := R1.out.below K3 (Nat.le_refl _)
    replace R2 : Hid (ReadsV w3 A2 U) := R2.out.below K3 (Nat.le_refl _)
    clear K3
    clear R1
    clear R2
    go_wp2_with fail
    refine (CE.out w3 B3.out).mono ?_
    rintro e w4 ⟨rfl, K4⟩
    have B4 : Hid (Below w.heap.size w w4) := B3.out.trans (K4.mono B3.out.size)
    clear K4
    go_wp2
    go_ret
    exact ⟨rfl, B4.out⟩

set_option maxHeartbeats 4000000 in
set_option maxRecDepth 100000 in
theorem bounds_said (A B : Option Addr) (a b : List Int) (ca cb : Nat) (w : World) (ra : ReadsV w A a) (rb : ReadsV w B b) (hl : a.length * 8 ≤ 140737488351232) (hm : b.length * 8 ≤ 140737488351232) (hL : LaidW w) :
    Calls Tryd.prog 4 #[.slice A a.length ca, .slice B b.length cb] w fun e w' => e = .returned (.bool true) ∧ Below w.heap.size w w' := by
  have RA := Lib.hid ra
  have RB := Lib.hid rb
  have C1 := Lib.hid (fun W (h : Below w.heap.size w W) => leq_law A B a b ca cb W (RA.out.below h (Nat.le_refl _)) (RB.out.below h (Nat.le_refl _)) hl)
  have C2 := Lib.hid (fun W (h : Below w.heap.size w W) => rleq_law A B a b ca cb W (RA.out.below h (Nat.le_refl _)) (RB.out.below h (Nat.le_refl _)) hl)
  have C3 := Lib.hid (fun W (h : Below w.heap.size w W) => max_law A B a b ca cb W (RA.out.below h (Nat.le_refl _)) (RB.out.below h (Nat.le_refl _)) hl)
  have C4 := Lib.hid (fun W (h : Below w.heap.size w W) => rmax_law A B a b ca cb W (RA.out.below h (Nat.le_refl _)) (RB.out.below h (Nat.le_refl _)) hl)
  have C5 := Lib.hid (fun W (h : Below w.heap.size w W) => min_law A B a b ca cb W (RA.out.below h (Nat.le_refl _)) (RB.out.below h (Nat.le_refl _)) hl)
  have C6 := Lib.hid (fun W (h : Below w.heap.size w W) => rmin_law A B a b ca cb W (RA.out.below h (Nat.le_refl _)) (RB.out.below h (Nat.le_refl _)) hl)
  have S := Lib.hid (fun A1 c1 A2 c2 W (h1 : ReadsV W A1 (maxL a b)) (h2 : ReadsV W A2 (maxL a b)) => same_law A1 A2 (maxL a b) (maxL a b) c1 c2 W h1 h2 (len_max hl))
  rw [sameL_refl] at S
  have T := Lib.hid (fun A1 c1 A2 c2 W (h1 : ReadsV W A1 (minL a b)) (h2 : ReadsV W A2 (minL a b)) => same_law A1 A2 (minL a b) (minL a b) c1 c2 W h1 h2 (len_min hl))
  rw [sameL_refl] at T
  have CE := Lib.hid (fun W (h : Below w.heap.size w W) => alive_any W (hL.below h (Nat.le_refl _)))
  clear ra rb hL RA RB
  generalize maxL a b = U at *
  generalize minL a b = V at *
  generalize leqL a b = P at *
  generalize a.length = N at *
  generalize b.length = M at *
  have hP : (P == P) = true := by simp
  have Z : Hid (Below w.heap.size w w) := Below.refl _ _
  by_cases h : 60 < N
  · have h1 : (60 : Int) < (N : Int) := by omega
    go_enter Tryd.func4, Tryd.ntmps4
    go_wp2_with fail
    refine (CE.out w Z.out).mono ?_
    rintro e w1 ⟨rfl, K1⟩
    have B1 : Hid (Below w.heap.size w w1) := Z.out.trans (K1.mono Z.out.size)
    clear K1
    go_wp2
    go_ret
    exact ⟨rfl, B1.out⟩
  · have h1 : ¬ (60 : Int) < (N : Int) := by omega
    by_cases h2 : 60 < M
    · have h3 : (60 : Int) < (M : Int) := by omega
      go_enter Tryd.func4, Tryd.ntmps4
      go_wp2_with fail
      refine (CE.out w Z.out).mono ?_
      rintro e w1 ⟨rfl, K1⟩
      have B1 : Hid (Below w.heap.size w w1) := Z.out.trans (K1.mono Z.out.size)
      clear K1
      go_wp2
      go_ret
      exact ⟨rfl, B1.out⟩
    · have h3 : ¬ (60 : Int) < (M : Int) := by omega
      go_enter Tryd.func4, Tryd.ntmps4
      go_wp2_with fail
      refine (C1.out w Z.out).mono ?_
      rintro e w1 ⟨rfl, K1⟩
      have B1 : Hid (Below w.heap.size w w1) := Z.out.trans (K1.mono Z.out.size)
      clear K1
      go_wp2_with fail
      refine (C2.out w1 B1.out).mono ?_
      rintro e w2 ⟨rfl, K2⟩
      have B2 : Hid (Below w.heap.size w w2) := B1.out.trans (K2.mono B1.out.size)
      clear K2
      go_wp2_with fail
      refine (C3.out w2 B2.out).mono ?_
      rintro e w3 ⟨A3, c3, rfl, R3, K3⟩
      have B3 : Hid (Below w.heap.size w w3) := B2.out.trans (K3.mono B2.out.size)
      replace R3 := Lib.hid R3
      clear K3
      go_wp2_with fail
      refine (C4.out w3 B3.out).mono ?_
      rintro e w4 ⟨A4, c4, rfl, R4, K4⟩
      have B4 : Hid (Below w.heap.size w w4) := B3.out.trans (K4.mono B3.out.size)
      replace R3 : Hid (ReadsV w4 A3 U) := R3.out.below K4 (Nat.le_refl _)
      replace R4 := Lib.hid R4
      clear K4
      go_wp2_with fail
      refine (S.out A3 c3 A4 c4 w4 R3.out R4.out).mono ?_
      rintro e w5 ⟨rfl, K5⟩
      have B5 : Hid (Below w.heap.size w w5) := B4.out.trans (K5.mono B4.out.size)
      replace R3 : Hid (ReadsV w5 A3 U) := R3.out.below K5 (Nat.le_refl _)
      replace R4 : Hid (ReadsV w5 A4 U) := R4.out.below K5 (Nat.le_refl _)
      clear K5
      clear R3
      clear R4
      go_wp2_with fail
      refine (C5.out w5 B5.out).mono ?_
      rintro e w6 ⟨A6, c6, rfl, R6, K6⟩
      have B6 : Hid (Below w.heap.size w w6) := B5.out.trans (K6.mono B5.out.size)
      replace R6 := Lib.hid R6
      clear K6
      go_wp2_with fail
      refine (C6.out w6 B6.out).mono ?_
      rintro e w7 ⟨A7, c7, rfl, R7, K7⟩
      have B7 : Hid (Below w.heap.size w w7) := B6.out.trans (K7.mono B6.out.size)
      replace R6 : Hid (ReadsV w7 A6 V) := R6.out.below K7 (Nat.le_refl _)
      replace R7 := Lib.hid R7
      clear K7
      go_wp2_with fail
      refine (T.out A6 c6 A7 c7 w7 R6.out R7.out).mono ?_
      rintro e w8 ⟨rfl, K8⟩
      have B8 : Hid (Below w.heap.size w w8) := B7.out.trans (K8.mono B7.out.size)
      replace R6 : Hid (ReadsV w8 A6 V) := R6.out.below K8 (Nat.le_refl _)
      replace R7 : Hid (ReadsV w8 A7 V) := R7.out.below K8 (Nat.le_refl _)
      clear K8
      clear R6
      clear R7
      go_wp2_with fail
      refine (CE.out w8 B8.out).mono ?_
      rintro e w9 ⟨rfl, K9⟩
      have B9 : Hid (Below w.heap.size w w9) := B8.out.trans (K9.mono B8.out.size)
      clear K9
      go_wp2
      go_ret
      exact ⟨rfl, B9.out⟩

set_option maxHeartbeats 4000000 in
set_option maxRecDepth 100000 in
theorem orders_said (A B : Option Addr) (a b : List Int) (ca cb : Nat) (w : World) (ra : ReadsV w A a) (rb : ReadsV w B b) (hl : a.length * 8 ≤ 140737488351232) (hm : b.length * 8 ≤ 140737488351232) (hL : LaidW w) :
    Calls Tryd.prog 5 #[.slice A a.length ca, .slice B b.length cb] w fun e w' => e = .returned (.bool true) ∧ Below w.heap.size w w' := by
  have RA := Lib.hid ra
  have RB := Lib.hid rb
  have C1 := Lib.hid (fun W (h : Below w.heap.size w W) => total_law A a ca W (RA.out.below h (Nat.le_refl _)) hl)
  have C2 := Lib.hid (fun W (h : Below w.heap.size w W) => rtotal_law A a ca W (RA.out.below h (Nat.le_refl _)) hl)
  have C3 := Lib.hid (fun W (h : Below w.heap.size w W) => cmp_law A B a b ca cb W (RA.out.below h (Nat.le_refl _)) (RB.out.below h (Nat.le_refl _)) hl hm)
  have C4 := Lib.hid (fun W (h : Below w.heap.size w W) => rcmp_law A B a b ca cb W (RA.out.below h (Nat.le_refl _)) (RB.out.below h (Nat.le_refl _)) hl hm)
  have CE := Lib.hid (fun W (h : Below w.heap.size w W) => alive_any W (hL.below h (Nat.le_refl _)))
  clear ra rb hL RA RB
  generalize totalL a = U at *
  generalize cmpL a b = V at *
  generalize a.length = N at *
  generalize b.length = M at *
  have hP : (U == U) = true := by simp
  have hQ : (V == V) = true := by simp
  have Z : Hid (Below w.heap.size w w) := Below.refl _ _
  by_cases h : 60 < N
  · have h1 : (60 : Int) < (N : Int) := by omega
    go_enter Tryd.func5, Tryd.ntmps5
    go_wp2_with fail
    refine (CE.out w Z.out).mono ?_
    rintro e w1 ⟨rfl, K1⟩
    have B1 : Hid (Below w.heap.size w w1) := Z.out.trans (K1.mono Z.out.size)
    clear K1
    go_wp2
    go_ret
    exact ⟨rfl, B1.out⟩
  · have h1 : ¬ (60 : Int) < (N : Int) := by omega
    by_cases h2 : 60 < M
    · have h3 : (60 : Int) < (M : Int) := by omega
      go_enter Tryd.func5, Tryd.ntmps5
      go_wp2_with fail
      refine (CE.out w Z.out).mono ?_
      rintro e w1 ⟨rfl, K1⟩
      have B1 : Hid (Below w.heap.size w w1) := Z.out.trans (K1.mono Z.out.size)
      clear K1
      go_wp2
      go_ret
      exact ⟨rfl, B1.out⟩
    · have h3 : ¬ (60 : Int) < (M : Int) := by omega
      go_enter Tryd.func5, Tryd.ntmps5
      go_wp2_with fail
      refine (C1.out w Z.out).mono ?_
      rintro e w' ⟨rfl, rfl⟩
      go_wp2_with fail
      refine (C2.out w Z.out).mono ?_
      rintro e w' ⟨rfl, rfl⟩
      go_wp2_with fail
      refine (C3.out w Z.out).mono ?_
      rintro e w1 ⟨rfl, K1⟩
      have B1 : Hid (Below w.heap.size w w1) := Z.out.trans (K1.mono Z.out.size)
      clear K1
      go_wp2_with fail
      refine (C4.out w1 B1.out).mono ?_
      rintro e w2 ⟨rfl, K2⟩
      have B2 : Hid (Below w.heap.size w w2) := B1.out.trans (K2.mono B1.out.size)
      clear K2
      go_wp2_with fail
      refine (CE.out w2 B2.out).mono ?_
      rintro e w3 ⟨rfl, K3⟩
      have B3 : Hid (Below w.heap.size w w3) := B2.out.trans (K3.mono B2.out.size)
      clear K3
      go_wp2
      go_ret
      exact ⟨rfl, B3.out⟩

end Go.Proofs.YtbpadefpgkjnaaaDoor
