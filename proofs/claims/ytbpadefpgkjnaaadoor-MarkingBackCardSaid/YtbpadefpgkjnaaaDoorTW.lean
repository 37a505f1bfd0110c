/- The laws on texts. -/
import Derived.Test.YtbpadefpgkjnaaaDoorTV
import Derived.Test.YtbpadefpgkjnaaaDoorTY
namespace Go.Proofs.YtbpadefpgkjnaaaDoor
open Go.RowKit

set_option maxHeartbeats 4000000 in
set_option maxRecDepth 100000 in
theorem texts_said (A : Option Addr) (a : List Int) (ca : Nat) (s : List UInt8) (w : World) (ra : ReadsV w A a) (hl : a.length * 8 ≤ 140737488351232) (hi : In64 a) (hL : LaidW w) :
    Calls Tryd.prog 6 #[.slice A a.length ca, .string ⟨s.toArray⟩] w fun e w' => e = .returned (.bool true) ∧ Below w.heap.size w w' := by
  have RA := Lib.hid ra
  have LB := Lib.hid (fun W (h : Below w.heap.size w W) => hL.below h (Nat.le_refl _))
  have CE := Lib.hid (fun W (h : Below w.heap.size w W) => alive_any W (LB.out W h))
  clear ra hL
  have Z : Hid (Below w.heap.size w w) := Below.refl _ _
  by_cases g1 : 60 < a.length
  · have h1 : (60 : Int) < (a.length : Int) := by omega
    generalize a.length = N at *
    go_enter Tryd.func6, Tryd.ntmps6
    go_wp2_with fail
    refine (CE.out w Z.out).mono ?_
    rintro e w1 ⟨rfl, K1⟩
    have B1 : Hid (Below w.heap.size w w1) := Z.out.trans (K1.mono Z.out.size)
    clear K1
    go_wp2
    go_ret
    exact ⟨rfl, B1.out⟩
  · by_cases g2 : 400 < s.length
    · have h1 : ¬ (60 : Int) < (a.length : Int) := by omega
      have h2 : (400 : Int) < (s.length : Int) := by omega
      generalize a.length = N at *
      go_enter Tryd.func6, Tryd.ntmps6
      go_wp2_with fail
      refine (CE.out w Z.out).mono ?_
      rintro e w1 ⟨rfl, K1⟩
      have B1 : Hid (Below w.heap.size w w1) := Z.out.trans (K1.mono Z.out.size)
      clear K1
      go_wp2
      go_ret
      exact ⟨rfl, B1.out⟩
    · have h1 : ¬ (60 : Int) < (a.length : Int) := by omega
      have h2 : ¬ (400 : Int) < (s.length : Int) := by omega
      have T1 := Lib.hid (fun W (h : Below w.heap.size w W) => text_law2 A a ca W (RA.out.below h (Nat.le_refl _)) hi (by omega) (LB.out W h))
      have T2 := Lib.hid (fun W (h : Below w.heap.size w W) => rtext_law A a ca W (RA.out.below h (Nat.le_refl _)) hi (by omega))
      have P1 := Lib.hid (fun W (h : Below w.heap.size w W) => parse_law s W (LB.out W h))
      have P2 := Lib.hid (fun W (h : Below w.heap.size w W) => rparse_law s (by omega) W)
      rw [← parse_eq] at P2
      clear g1 g2 hi hl
      generalize a.length = N at *
      generalize textL a = X at *
      rcases hp : parseL s with _ | M
      · rw [hp] at P1 P2
        clear hp
        have S := Lib.hid (fun W => same_law none none [] [] 0 0 W (ReadsV.nil _ _) (ReadsV.nil _ _) (by decide))
        rw [sameL_refl] at S
        go_enter Tryd.func6, Tryd.ntmps6
        go_wp2_with fail
        refine (P1.out w Z.out).mono ?_
        rintro e w1 ⟨rfl, K1⟩
        have B1 : Hid (Below w.heap.size w w1) := Z.out.trans (K1.mono Z.out.size)
        clear K1
        go_wp2_with fail
        refine (P2.out w1 B1.out).mono ?_
        rintro e w2 ⟨rfl, K2⟩
        have B2 : Hid (Below w.heap.size w w2) := B1.out.trans (K2.mono B1.out.size)
        clear K2
        go_wp2_with fail
        refine (T1.out w2 B2.out).mono ?_
        rintro e w3 ⟨rfl, K3⟩
        have B3 : Hid (Below w.heap.size w w3) := B2.out.trans (K3.mono B2.out.size)
        clear K3
        go_wp2_with fail
        refine (T2.out w3 B3.out).mono ?_
        rintro e w' ⟨rfl, rfl⟩
        go_wp2_with fail
        refine (S.out w3).mono ?_
        rintro e w4 ⟨rfl, K4⟩
        have B4 : Hid (Below w.heap.size w w4) := B3.out.trans (K4.mono B3.out.size)
        clear K4
        go_wp2_with fail
        refine (CE.out w4 B4.out).mono ?_
        rintro e w5 ⟨rfl, K5⟩
        have B5 : Hid (Below w.heap.size w w5) := B4.out.trans (K5.mono B4.out.size)
        clear K5
        go_wp2
        go_ret
        exact ⟨rfl, B5.out⟩
      · have hM := parse_len hp
        rw [hp] at P1 P2
        clear hp
        have S := Lib.hid (fun A1 c1 A2 c2 W (h1 : ReadsV W A1 (M)) (h2 : ReadsV W A2 (M)) => same_law A1 A2 (M) (M) c1 c2 W h1 h2 (by omega))
        rw [sameL_refl] at S
        clear hM
        go_enter Tryd.func6, Tryd.ntmps6
        go_wp2_with fail
        refine (P1.out w Z.out).mono ?_
        rintro e w1 ⟨A1, c1, rfl, R1, K1⟩
        have B1 : Hid (Below w.heap.size w w1) := Z.out.trans (K1.mono Z.out.size)
        replace R1 := Lib.hid R1
        clear K1
        go_wp2_with fail
        refine (P2.out w1 B1.out).mono ?_
        rintro e w2 ⟨A2, c2, rfl, R2, K2⟩
        have B2 : Hid (Below w.heap.size w w2) := B1.out.trans (K2.mono B1.out.size)
        replace R1 : Hid (ReadsV w2 A1 M) := R1.out.below K2 (Nat.le_refl _)
        replace R2 := Lib.hid R2
        clear K2
        go_wp2_with fail
        refine (T1.out w2 B2.out).mono ?_
        rintro e w3 ⟨rfl, K3⟩
        have B3 : Hid (Below w.heap.size w w3) := B2.out.trans (K3.mono B2.out.size)
        replace R1 : Hid (ReadsV w3 A1 M) := R1.out.below K3 (Nat.le_refl _)
        replace R2 : Hid (ReadsV w3 A2 M) := R2.out.below K3 (Nat.le_refl _)
        clear K3
        go_wp2_with fail
        refine (T2.out w3 B3.out).mono ?_
        rintro e w' ⟨rfl, rfl⟩
        go_wp2_with fail
        refine (S.out A1 c1 A2 c2 w3 R1.out R2.out).mono ?_
        rintro e w4 ⟨rfl, K4⟩
        have B4 : Hid (Below w.heap.size w w4) := B3.out.trans (K4.mono B3.out.size)
        replace R1 : Hid (ReadsV w4 A1 M) := R1.out.below K4 (Nat.le_refl _)
        replace R2 : Hid (ReadsV w4 A2 M) := R2.out.below K4 (Nat.le_refl _)
        clear K4
        clear R1
        clear R2
        go_wp2_with fail
        refine (CE.out w4 B4.out).mono ?_
        rintro e w5 ⟨rfl, K5⟩
        have B5 : Hid (Below w.heap.size w w5) := B4.out.trans (K5.mono B4.out.size)
        clear K5
        go_wp2
        go_ret
        exact ⟨rfl, B5.out⟩

set_option maxHeartbeats 4000000 in
set_option maxRecDepth 100000 in
theorem back_said (A : Option Addr) (a : List Int) (ca : Nat) (s : List UInt8) (w : World) (ra : ReadsV w A a) (hl : a.length * 8 ≤ 140737488351232) (hi : In64 a) (hL : LaidW w) :
    Calls Tryd.prog 7 #[.slice A a.length ca, .string ⟨s.toArray⟩] w fun e w' => e = .returned (.bool true) ∧ Below w.heap.size w w' := by
  have RA := Lib.hid ra
  have LB := Lib.hid (fun W (h : Below w.heap.size w W) => hL.below h (Nat.le_refl _))
  have CE := Lib.hid (fun W (h : Below w.heap.size w W) => alive_any W (LB.out W h))
  clear ra hL
  have Z : Hid (Below w.heap.size w w) := Below.refl _ _
  by_cases g1 : 60 < a.length
  · have h1 : (60 : Int) < (a.length : Int) := by omega
    generalize a.length = N at *
    go_enter Tryd.func7, Tryd.ntmps7
    go_wp2_with fail
    refine (CE.out w Z.out).mono ?_
    rintro e w1 ⟨rfl, K1⟩
    have B1 : Hid (Below w.heap.size w w1) := Z.out.trans (K1.mono Z.out.size)
    clear K1
    go_wp2
    go_ret
    exact ⟨rfl, B1.out⟩
  · by_cases g2 : 400 < s.length
    · have h1 : ¬ (60 : Int) < (a.length : Int) := by omega
      have h2 : (400 : Int) < (s.length : Int) := by omega
      generalize a.length = N at *
      go_enter Tryd.func7, Tryd.ntmps7
      go_wp2_with fail
      refine (CE.out w Z.out).mono ?_
      rintro e w1 ⟨rfl, K1⟩
      have B1 : Hid (Below w.heap.size w w1) := Z.out.trans (K1.mono Z.out.size)
      clear K1
      go_wp2
      go_ret
      exact ⟨rfl, B1.out⟩
    · have h1 : ¬ (60 : Int) < (a.length : Int) := by omega
      have h2 : ¬ (400 : Int) < (s.length : Int) := by omega
      have T1 := Lib.hid (fun W (h : Below w.heap.size w W) => text_law2 A a ca W (RA.out.below h (Nat.le_refl _)) hi (by omega) (LB.out W h))
      have P1 := Lib.hid (fun W (h : Below w.heap.size w W) => parse_law (textL a) W (LB.out W h))
      have Q1 := Lib.hid (fun W (h : Below w.heap.size w W) => parse_law s W (LB.out W h))
      have C1 := Lib.hid (fun W (h : Below w.heap.size w W) => rtotal_law A a ca W (RA.out.below h (Nat.le_refl _)) hl)
      have S := Lib.hid (fun A1 c1 W (r : ReadsV W A1 a) (h : Below w.heap.size w W) => same_law A1 A a a c1 ca W r (RA.out.below h (Nat.le_refl _)) hl)
      rw [sameL_refl] at S
      have PY := Lib.hid (@parse_text a)
      have PN := Lib.hid (@parse_text_bad a)
      clear g1 g2 hi hl
      by_cases ht : totalL a < 0
      · rw [PN.out ht] at P1
        clear PY PN
        generalize totalL a = T at *
        generalize textL a = X at *
        generalize a.length = N at *
        have t2 : ¬ 0 ≤ T := by omega
        go_enter Tryd.func7, Tryd.ntmps7
        go_wp2_with fail
        refine (T1.out w Z.out).mono ?_
        rintro e w1 ⟨rfl, K1⟩
        have B1 : Hid (Below w.heap.size w w1) := Z.out.trans (K1.mono Z.out.size)
        clear K1
        go_wp2_with fail
        refine (P1.out w1 B1.out).mono ?_
        rintro e w2 ⟨rfl, K2⟩
        have B2 : Hid (Below w.heap.size w w2) := B1.out.trans (K2.mono B1.out.size)
        clear K2
        go_wp2_with fail
        refine (C1.out w2 B2.out).mono ?_
        rintro e w' ⟨rfl, rfl⟩
        go_wp2_with fail
        refine (C1.out w2 B2.out).mono ?_
        rintro e w' ⟨rfl, rfl⟩
        rcases hq : parseL s with _ | M
        · rw [hq] at Q1
          clear hq
          go_wp2_with fail
          refine (Q1.out w2 B2.out).mono ?_
          rintro e w3 ⟨rfl, K3⟩
          have B3 : Hid (Below w.heap.size w w3) := B2.out.trans (K3.mono B2.out.size)
          clear K3
          go_wp2_with fail
          refine (CE.out w3 B3.out).mono ?_
          rintro e w4 ⟨rfl, K4⟩
          have B4 : Hid (Below w.heap.size w w4) := B3.out.trans (K4.mono B3.out.size)
          clear K4
          go_wp2
          go_ret
          exact ⟨rfl, B4.out⟩
        · have hT := text_parse hq
          have hM := parse_len hq
          have hI := parse_in64 hq
          rw [hq] at Q1
          clear hq
          have T3 := Lib.hid (fun A1 c1 W (r : ReadsV W A1 M) (h : Below w.heap.size w W) => text_law2 A1 M c1 W r hI (by omega) (LB.out W h))
          rw [hT] at T3
          clear hT hM hI
          go_wp2_with fail
          refine (Q1.out w2 B2.out).mono ?_
          rintro e w3 ⟨A3, c3, rfl, R3, K3⟩
          have B3 : Hid (Below w.heap.size w w3) := B2.out.trans (K3.mono B2.out.size)
          replace R3 := Lib.hid R3
          clear K3
          go_wp2_with fail
          refine (T3.out A3 c3 w3 R3.out B3.out).mono ?_
          rintro e w4 ⟨rfl, K4⟩
          have B4 : Hid (Below w.heap.size w w4) := B3.out.trans (K4.mono B3.out.size)
          replace R3 : Hid (ReadsV w4 A3 M) := R3.out.below K4 (Nat.le_refl _)
          clear K4
          clear R3
          go_wp2_with fail
          refine (CE.out w4 B4.out).mono ?_
          rintro e w5 ⟨rfl, K5⟩
          have B5 : Hid (Below w.heap.size w w5) := B4.out.trans (K5.mono B4.out.size)
          clear K5
          go_wp2
          go_ret
          exact ⟨rfl, B5.out⟩
      · rw [PY.out ht] at P1
        clear PY PN
        generalize totalL a = T at *
        have t2 : 0 ≤ T := by omega
        have t3 : ¬ T < 0 := by omega
        clear ht
        go_enter Tryd.func7, Tryd.ntmps7
        go_wp2_with fail
        refine (T1.out w Z.out).mono ?_
        rintro e w1 ⟨rfl, K1⟩
        have B1 : Hid (Below w.heap.size w w1) := Z.out.trans (K1.mono Z.out.size)
        clear K1
        go_wp2_with fail
        refine (P1.out w1 B1.out).mono ?_
        rintro e w2 ⟨A2, c2, rfl, R2, K2⟩
        have B2 : Hid (Below w.heap.size w w2) := B1.out.trans (K2.mono B1.out.size)
        replace R2 := Lib.hid R2
        clear K2
        go_wp2_with fail
        refine (C1.out w2 B2.out).mono ?_
        rintro e w' ⟨rfl, rfl⟩
        go_wp2_with fail
        refine (S.out A2 c2 w2 R2.out B2.out).mono ?_
        rintro e w3 ⟨rfl, K3⟩
        have B3 : Hid (Below w.heap.size w w3) := B2.out.trans (K3.mono B2.out.size)
        replace R2 : Hid (ReadsV w3 A2 a) := R2.out.below K3 (Nat.le_refl _)
        clear K3
        clear R2
        go_wp2_with fail
        refine (C1.out w3 B3.out).mono ?_
        rintro e w' ⟨rfl, rfl⟩
        rcases hq : parseL s with _ | M
        · rw [hq] at Q1
          clear hq
          go_wp2_with fail
          refine (Q1.out w3 B3.out).mono ?_
          rintro e w4 ⟨rfl, K4⟩
          have B4 : Hid (Below w.heap.size w w4) := B3.out.trans (K4.mono B3.out.size)
          clear K4
          go_wp2_with fail
          refine (CE.out w4 B4.out).mono ?_
          rintro e w5 ⟨rfl, K5⟩
          have B5 : Hid (Below w.heap.size w w5) := B4.out.trans (K5.mono B4.out.size)
          clear K5
          go_wp2
          go_ret
          exact ⟨rfl, B5.out⟩
        · have hT := text_parse hq
          have hM := parse_len hq
          have hI := parse_in64 hq
          rw [hq] at Q1
          clear hq
          have T3 := Lib.hid (fun A1 c1 W (r : ReadsV W A1 M) (h : Below w.heap.size w W) => text_law2 A1 M c1 W r hI (by omega) (LB.out W h))
          rw [hT] at T3
          clear hT hM hI
          go_wp2_with fail
          refine (Q1.out w3 B3.out).mono ?_
          rintro e w4 ⟨A4, c4, rfl, R4, K4⟩
          have B4 : Hid (Below w.heap.size w w4) := B3.out.trans (K4.mono B3.out.size)
          replace R4 := Lib.hid R4
          clear K4
          go_wp2_with fail
          refine (T3.out A4 c4 w4 R4.out B4.out).mono ?_
          rintro e w5 ⟨rfl, K5⟩
          have B5 : Hid (Below w.heap.size w w5) := B4.out.trans (K5.mono B4.out.size)
          replace R4 : Hid (ReadsV w5 A4 M) := R4.out.below K5 (Nat.le_refl _)
          clear K5
          clear R4
          go_wp2_with fail
          refine (CE.out w5 B5.out).mono ?_
          rintro e w6 ⟨rfl, K6⟩
          have B6 : Hid (Below w.heap.size w w6) := B5.out.trans (K6.mono B5.out.size)
          clear K6
          go_wp2
          go_ret
          exact ⟨rfl, B6.out⟩

theorem bytes_list (s : ByteArray) : ∃ l : List UInt8, s = ⟨l.toArray⟩ := ⟨s.data.toList, by cases s; simp⟩
theorem texts_all (A : Option Addr) (a : List Int) (ca : Nat) (s : ByteArray) (w : World) (ra : ReadsV w A a) (hl : a.length * 8 ≤ 140737488351232) (hi : In64 a) (hL : LaidW w) :
    Calls Tryd.prog 6 #[.slice A a.length ca, .string s] w fun e w' => e = .returned (.bool true) ∧ Below w.heap.size w w' := by
  obtain ⟨l, rfl⟩ := bytes_list s
  exact texts_said A a ca l w ra hl hi hL
theorem back_all (A : Option Addr) (a : List Int) (ca : Nat) (s : ByteArray) (w : World) (ra : ReadsV w A a) (hl : a.length * 8 ≤ 140737488351232) (hi : In64 a) (hL : LaidW w) :
    Calls Tryd.prog 7 #[.slice A a.length ca, .string s] w fun e w' => e = .returned (.bool true) ∧ Below w.heap.size w w' := by
  obtain ⟨l, rfl⟩ := bytes_list s
  exact back_said A a ca l w ra hl hi hL

end Go.Proofs.YtbpadefpgkjnaaaDoor
