/- The laws on validity and texts of extended markings. -/
import Derived.Test.YtengldflpkkkoaaDoorWV
namespace Go.Proofs.YtengldflpkkkoaaDoor
open Go.RowKit

def validN (a : List Int) (n : Int) : Bool := decide ((a.length : Int) = n) && valW a
theorem valid_ne (A : Option Addr) (k : Nat) (m : Int) (cap : Nat) (w : World) (h : (k : Int) ≠ m) :
    Calls Tryd.prog 8 #[.slice A k cap, .int .i64 m] w fun e w' => e = .returned (.bool false) ∧ w = w' := by
  have h2 : ((k : Int) != m) = true := by simpa using h
  go_enter Tryd.func8, Tryd.ntmps8
  go_wp2
  go_ret
  exact ⟨rfl, rfl⟩
theorem rvalid_ne2 (A : Option Addr) (k : Nat) (m : Int) (cap : Nat) (w : World) (h : (k : Int) ≠ m) :
    Calls Tryd.prog 9 #[.slice A k cap, .int .i64 m] w fun e w' => e = .returned (.bool false) ∧ w = w' := by
  have h2 : ((k : Int) != m) = true := by simpa using h
  go_enter Tryd.func9, Tryd.ntmps9
  go_wp2
  go_ret
  exact ⟨rfl, rfl⟩
theorem validn_law (A : Option Addr) (a : List Int) (n : Int) (cap : Nat) (w : World) (hr : ReadsV w A a) (hl : a.length * 8 ≤ 140737488351232) :
    Calls Tryd.prog 8 #[.slice A a.length cap, .int .i64 n] w fun e w' => e = .returned (.bool (validN a n)) ∧ w = w' := by
  by_cases h : (a.length : Int) = n
  · subst h
    have e : validN a a.length = valW a := by simp [validN]
    rw [e]
    exact valid_law A a cap w hr hl
  · have e : validN a n = false := by simp [validN, h]
    rw [e]
    exact valid_ne A a.length n cap w h
theorem rvalidn_law (A : Option Addr) (a : List Int) (n : Int) (cap : Nat) (w : World) (hr : ReadsV w A a) (hl : a.length * 8 ≤ 140737488351232) :
    Calls Tryd.prog 9 #[.slice A a.length cap, .int .i64 n] w fun e w' => e = .returned (.bool (validN a n)) ∧ w = w' := by
  by_cases h : (a.length : Int) = n
  · subst h
    have e : validN a a.length = valW a := by simp [validN]
    rw [e]
    exact rvalid_law A a cap w hr hl
  · have e : validN a n = false := by simp [validN, h]
    rw [e]
    exact rvalid_ne2 A a.length n cap w h
theorem bytes_list (s : ByteArray) : ∃ l : List UInt8, s = ⟨l.toArray⟩ := ⟨s.data.toList, by cases s; simp⟩

set_option maxHeartbeats 4000000 in
set_option maxRecDepth 100000 in
theorem valids_said (A : Option Addr) (a : List Int) (ca : Nat) (n : Int) (w : World) (ra : ReadsV w A a) (hl : a.length * 8 ≤ 140737488351232) (hi : In64 a) (hL : TabW w) :
    Calls Tryd.prog 3 #[.slice A a.length ca, .int .i64 n] w fun e w' => e = .returned (.bool true) ∧ Below w.heap.size w w' := by
  have RA := Lib.hid ra
  have CE := Lib.hid (fun W => example_any W)
  clear ra
  have Z : Hid (Below w.heap.size w w) := Below.refl _ _
  by_cases g1 : 200 < a.length
  · have h1 : (200 : Int) < (a.length : Int) := by omega
    generalize a.length = N at *
    go_enter Tryd.func3, Tryd.ntmps3
    go_wp2_with fail
    refine (CE.out w).mono ?_
    rintro e w1 ⟨rfl, K1⟩
    have B1 : Hid (Below w.heap.size w w1) := Z.out.trans (K1.mono Z.out.size)
    clear K1
    go_wp2
    go_ret
    exact ⟨rfl, B1.out⟩
  · have h1 : ¬ (200 : Int) < (a.length : Int) := by omega
    have T1 := Lib.hid (fun W (h : Below w.heap.size w W) => text_law2 A a ca W (RA.out.below h (Nat.le_refl _)) hi (by omega) (hL.below h (Nat.le_refl _)))
    have T2 := Lib.hid (fun W (h : Below w.heap.size w W) => rtext_law A a ca W (RA.out.below h (Nat.le_refl _)) hi (by omega))
    have V1 := Lib.hid (fun W (h : Below w.heap.size w W) => validn_law A a n ca W (RA.out.below h (Nat.le_refl _)) hl)
    have V2 := Lib.hid (fun W (h : Below w.heap.size w W) => rvalidn_law A a n ca W (RA.out.below h (Nat.le_refl _)) hl)
    have F1 := Lib.hid (fun W (h : Below w.heap.size w W) => fin_law A a ca W (RA.out.below h (Nat.le_refl _)) hl)
    have F2 := Lib.hid (fun W (h : Below w.heap.size w W) => rfin_law A a ca W (RA.out.below h (Nat.le_refl _)) hl)
    have hF := finL_len a a.length
    have S := Lib.hid (fun A1 c1 A2 c2 W (h1 : ReadsV W A1 (finL a a.length)) (h2 : ReadsV W A2 (finL a a.length)) => same_law A1 A2 (finL a a.length) c1 c2 W h1 h2 (by omega))
    replace hF := Lib.hid hF
    clear hi hl hL RA
    generalize finL a a.length = F at *
    generalize validN a n = P at *
    generalize textL a = X at *
    generalize a.length = N at *
    have hP : (P == P) = true := by simp
    go_enter Tryd.func3, Tryd.ntmps3
    go_wp2_with fail
    refine (V1.out w Z.out).mono ?_
    rintro e w' ⟨rfl, rfl⟩
    go_wp2_with fail
    refine (V2.out w Z.out).mono ?_
    rintro e w' ⟨rfl, rfl⟩
    go_wp2_with fail
    refine (F1.out w Z.out).mono ?_
    rintro e w1 ⟨A1, c1, rfl, R1, K1⟩
    have B1 : Hid (Below w.heap.size w w1) := Z.out.trans (K1.mono Z.out.size)
    replace R1 := Lib.hid R1
    clear K1
    go_wp2_with fail
    refine (F2.out w1 B1.out).mono ?_
    rintro e w2 ⟨A2, c2, rfl, R2, K2⟩
    have B2 : Hid (Below w.heap.size w w2) := B1.out.trans (K2.mono B1.out.size)
    replace R1 : Hid (ReadsV w2 A1 F) := R1.out.below K2 (Nat.le_refl _)
    replace R2 := Lib.hid R2
    clear K2
    go_wp2_with fail
    refine (S.out A1 c1 A2 c2 w2 R1.out R2.out).mono ?_
    rintro e w3 ⟨rfl, K3⟩
    have B3 : Hid (Below w.heap.size w w3) := B2.out.trans (K3.mono B2.out.size)
    replace R1 : Hid (ReadsV w3 A1 F) := R1.out.below K3 (Nat.le_refl _)
    replace R2 : Hid (ReadsV w3 A2 F) := R2.out.below K3 (Nat.le_refl _)
    clear K3
    clear R1
    clear R2
    go_wp2_with fail
    refine (T1.out w3 B3.out).mono ?_
    rintro e w4 ⟨rfl, K4⟩
    have B4 : Hid (Below w.heap.size w w4) := B3.out.trans (K4.mono B3.out.size)
    clear K4
    go_wp2_with fail
    refine (T2.out w4 B4.out).mono ?_
    rintro e w' ⟨rfl, rfl⟩
    go_wp2_with fail
    refine (CE.out w4).mono ?_
    rintro e w5 ⟨rfl, K5⟩
    have B5 : Hid (Below w.heap.size w w5) := B4.out.trans (K5.mono B4.out.size)
    clear K5
    go_wp2
    go_ret
    exact ⟨rfl, B5.out⟩

set_option maxHeartbeats 4000000 in
set_option maxRecDepth 100000 in
theorem parses_said (s : List UInt8) (A : Option Addr) (a : List Int) (ca : Nat) (w : World) (ra : ReadsV w A a) (hl : a.length * 8 ≤ 140737488351232) (hi : In64 a) (hL : LaidW w) :
    Calls Tryd.prog 5 #[.string ⟨s.toArray⟩, .slice A a.length ca] w fun e w' => e = .returned (.bool true) ∧ Below w.heap.size w w' := by
  have RA := Lib.hid ra
  have LB := Lib.hid (fun W (h : Below w.heap.size w W) => hL.below h (Nat.le_refl _))
  have CE := Lib.hid (fun W => example_any W)
  clear ra hL
  have Z : Hid (Below w.heap.size w w) := Below.refl _ _
  by_cases g1 : 2000 < s.length
  · have h1 : (2000 : Int) < (s.length : Int) := by omega
    generalize a.length = N at *
    go_enter Tryd.func5, Tryd.ntmps5
    go_wp2_with fail
    refine (CE.out w).mono ?_
    rintro e w1 ⟨rfl, K1⟩
    have B1 : Hid (Below w.heap.size w w1) := Z.out.trans (K1.mono Z.out.size)
    clear K1
    go_wp2
    go_ret
    exact ⟨rfl, B1.out⟩
  · by_cases g2 : 100 < a.length
    · have h1 : ¬ (2000 : Int) < (s.length : Int) := by omega
      have h2 : (100 : Int) < (a.length : Int) := by omega
      generalize a.length = N at *
      go_enter Tryd.func5, Tryd.ntmps5
      go_wp2_with fail
      refine (CE.out w).mono ?_
      rintro e w1 ⟨rfl, K1⟩
      have B1 : Hid (Below w.heap.size w w1) := Z.out.trans (K1.mono Z.out.size)
      clear K1
      go_wp2
      go_ret
      exact ⟨rfl, B1.out⟩
    · have h1 : ¬ (2000 : Int) < (s.length : Int) := by omega
      have h2 : ¬ (100 : Int) < (a.length : Int) := by omega
      have P1 := Lib.hid (fun W (h : Below w.heap.size w W) => parse_law s W (LB.out W h))
      have P2 := Lib.hid (fun W (h : Below w.heap.size w W) => rparse_law s (by omega) W)
      rw [← parse_eq] at P2
      have T1 := Lib.hid (fun W (h : Below w.heap.size w W) => text_law2 A a ca W (RA.out.below h (Nat.le_refl _)) hi (by omega) (LB.out W h).tab)
      have Q1 := Lib.hid (fun W (h : Below w.heap.size w W) => parse_law (textL a) W (LB.out W h))
      have V1 := Lib.hid (fun W (h : Below w.heap.size w W) => rvalid_law A a ca W (RA.out.below h (Nat.le_refl _)) hl)
      have S2 := Lib.hid (fun A1 c1 W (r : ReadsV W A1 a) (h : Below w.heap.size w W) => same_law A1 A a c1 ca W r (RA.out.below h (Nat.le_refl _)) hl)
      have PY := Lib.hid (@parse_text a)
      have PN := Lib.hid (@parse_text_bad a)
      clear g1 g2 hi hl RA LB
      rcases hp : parseL s with _ | M
      · rw [hp] at P1 P2
        clear hp
        have S := Lib.hid (fun W => same_law none none [] 0 0 W (ReadsV.nil _ _) (ReadsV.nil _ _) (by decide))
        go_enter Tryd.func5, Tryd.ntmps5
        go_wp2_with fail
        refine (P1.out w Z.out).mono ?_
        rintro e w1 ⟨rfl, K1⟩
        have B1 : Hid (Below w.heap.size w w1) := Z.out.trans (K1.mono Z.out.size)
        clear K1
        go_wp2_with fail
        refine (P2.out w1 B1.out).mono ?_
        rintro e w2 ⟨rfl, K2⟩
        have B2 : Hid (Below w.heap.size w w2) := B1.out.trans (K2.mono B1.out.size)
        clear K2
        go_wp2_with fail
        refine (S.out w2).mono ?_
        rintro e w3 ⟨rfl, K3⟩
        have B3 : Hid (Below w.heap.size w w3) := B2.out.trans (K3.mono B2.out.size)
        clear K3
        by_cases hv : valW a = true
        · by_cases hn : a.length ≤ 24
          · rw [PY.out hn hv] at Q1
            rw [hv] at V1
            clear PY PN hv
            have h3 : ¬ (24 : Int) < (a.length : Int) := by omega
            clear hn
            go_wp2_with fail
            refine (T1.out w3 B3.out).mono ?_
            rintro e w4 ⟨rfl, K4⟩
            have B4 : Hid (Below w.heap.size w w4) := B3.out.trans (K4.mono B3.out.size)
            clear K4
            go_wp2_with fail
            refine (Q1.out w4 B4.out).mono ?_
            rintro e w5 ⟨A5, c5, rfl, R5, K5⟩
            have B5 : Hid (Below w.heap.size w w5) := B4.out.trans (K5.mono B4.out.size)
            replace R5 := Lib.hid R5
            clear K5
            go_wp2_with fail
            refine (V1.out w5 B5.out).mono ?_
            rintro e w' ⟨rfl, rfl⟩
            go_wp2_with fail
            refine (S2.out A5 c5 w5 R5.out B5.out).mono ?_
            rintro e w6 ⟨rfl, K6⟩
            have B6 : Hid (Below w.heap.size w w6) := B5.out.trans (K6.mono B5.out.size)
            replace R5 : Hid (ReadsV w6 A5 a) := R5.out.below K6 (Nat.le_refl _)
            clear K6
            clear R5
            go_wp2_with fail
            refine (CE.out w6).mono ?_
            rintro e w7 ⟨rfl, K7⟩
            have B7 : Hid (Below w.heap.size w w7) := B6.out.trans (K7.mono B6.out.size)
            clear K7
            go_wp2
            go_ret
            exact ⟨rfl, B7.out⟩
          · rw [PN.out (fun e => hn e.2)] at Q1
            rw [hv] at V1
            clear PY PN hv S2
            have h3 : (24 : Int) < (a.length : Int) := by omega
            clear hn
            go_wp2_with fail
            refine (T1.out w3 B3.out).mono ?_
            rintro e w4 ⟨rfl, K4⟩
            have B4 : Hid (Below w.heap.size w w4) := B3.out.trans (K4.mono B3.out.size)
            clear K4
            go_wp2_with fail
            refine (Q1.out w4 B4.out).mono ?_
            rintro e w5 ⟨rfl, K5⟩
            have B5 : Hid (Below w.heap.size w w5) := B4.out.trans (K5.mono B4.out.size)
            clear K5
            go_wp2_with fail
            refine (V1.out w5 B5.out).mono ?_
            rintro e w' ⟨rfl, rfl⟩
            go_wp2_with fail
            refine (CE.out w5).mono ?_
            rintro e w6 ⟨rfl, K6⟩
            have B6 : Hid (Below w.heap.size w w6) := B5.out.trans (K6.mono B5.out.size)
            clear K6
            go_wp2
            go_ret
            exact ⟨rfl, B6.out⟩
        · have hv2 : valW a = false := by simpa using hv
          rw [PN.out (fun e => hv e.1)] at Q1
          rw [hv2] at V1
          clear PY PN hv hv2 S2
          go_wp2_with fail
          refine (T1.out w3 B3.out).mono ?_
          rintro e w4 ⟨rfl, K4⟩
          have B4 : Hid (Below w.heap.size w w4) := B3.out.trans (K4.mono B3.out.size)
          clear K4
          go_wp2_with fail
          refine (Q1.out w4 B4.out).mono ?_
          rintro e w5 ⟨rfl, K5⟩
          have B5 : Hid (Below w.heap.size w w5) := B4.out.trans (K5.mono B4.out.size)
          clear K5
          go_wp2_with fail
          refine (V1.out w5 B5.out).mono ?_
          rintro e w' ⟨rfl, rfl⟩
          go_wp2_with fail
          refine (CE.out w5).mono ?_
          rintro e w6 ⟨rfl, K6⟩
          have B6 : Hid (Below w.heap.size w w6) := B5.out.trans (K6.mono B5.out.size)
          clear K6
          go_wp2
          go_ret
          exact ⟨rfl, B6.out⟩
      · have hM := parse_len hp
        rw [hp] at P1 P2
        clear hp
        have S := Lib.hid (fun A1 c1 A2 c2 W (h1 : ReadsV W A1 M) (h2 : ReadsV W A2 M) => same_law A1 A2 M c1 c2 W h1 h2 (by omega))
        clear hM
        go_enter Tryd.func5, Tryd.ntmps5
        go_wp2_with fail
        refine (P1.out w Z.out).mono ?_
        rintro e w1 ⟨A1, c1, rfl, R1, K1⟩
        have B1 : Hid (Below w.heap.size w w1) := Z.out.trans (K1.mono Z.out.size)
        replace R1 := Lib.hid R1
        clear K1
        go_wp2_with fail
        refine (P2.out w1 B1.out).mono ?_
        rintro e w2 ⟨A2, c2, rfl, R2, K2⟩
        have B2 : Hid (Below w.heap.size w w2) := B1.out.trans (K2.mono B1.out.size)
        replace R1 : Hid (ReadsV w2 A1 M) := R1.out.below K2 (Nat.le_refl _)
        replace R2 := Lib.hid R2
        clear K2
        go_wp2_with fail
        refine (S.out A1 c1 A2 c2 w2 R1.out R2.out).mono ?_
        rintro e w3 ⟨rfl, K3⟩
        have B3 : Hid (Below w.heap.size w w3) := B2.out.trans (K3.mono B2.out.size)
        replace R1 : Hid (ReadsV w3 A1 M) := R1.out.below K3 (Nat.le_refl _)
        replace R2 : Hid (ReadsV w3 A2 M) := R2.out.below K3 (Nat.le_refl _)
        clear K3
        clear R1
        clear R2
        by_cases hv : valW a = true
        · by_cases hn : a.length ≤ 24
          · rw [PY.out hn hv] at Q1
            rw [hv] at V1
            clear PY PN hv
            have h3 : ¬ (24 : Int) < (a.length : Int) := by omega
            clear hn
            go_wp2_with fail
            refine (T1.out w3 B3.out).mono ?_
            rintro e w4 ⟨rfl, K4⟩
            have B4 : Hid (Below w.heap.size w w4) := B3.out.trans (K4.mono B3.out.size)
            clear K4
            go_wp2_with fail
            refine (Q1.out w4 B4.out).mono ?_
            rintro e w5 ⟨A5, c5, rfl, R5, K5⟩
            have B5 : Hid (Below w.heap.size w w5) := B4.out.trans (K5.mono B4.out.size)
            replace R5 := Lib.hid R5
            clear K5
            go_wp2_with fail
            refine (V1.out w5 B5.out).mono ?_
            rintro e w' ⟨rfl, rfl⟩
            go_wp2_with fail
            refine (S2.out A5 c5 w5 R5.out B5.out).mono ?_
            rintro e w6 ⟨rfl, K6⟩
            have B6 : Hid (Below w.heap.size w w6) := B5.out.trans (K6.mono B5.out.size)
            replace R5 : Hid (ReadsV w6 A5 a) := R5.out.below K6 (Nat.le_refl _)
            clear K6
            clear R5
            go_wp2_with fail
            refine (CE.out w6).mono ?_
            rintro e w7 ⟨rfl, K7⟩
            have B7 : Hid (Below w.heap.size w w7) := B6.out.trans (K7.mono B6.out.size)
            clear K7
            go_wp2
            go_ret
            exact ⟨rfl, B7.out⟩
          · rw [PN.out (fun e => hn e.2)] at Q1
            rw [hv] at V1
            clear PY PN hv S2
            have h3 : (24 : Int) < (a.length : Int) := by omega
            clear hn
            go_wp2_with fail
            refine (T1.out w3 B3.out).mono ?_
            rintro e w4 ⟨rfl, K4⟩
            have B4 : Hid (Below w.heap.size w w4) := B3.out.trans (K4.mono B3.out.size)
            clear K4
            go_wp2_with fail
            refine (Q1.out w4 B4.out).mono ?_
            rintro e w5 ⟨rfl, K5⟩
            have B5 : Hid (Below w.heap.size w w5) := B4.out.trans (K5.mono B4.out.size)
            clear K5
            go_wp2_with fail
            refine (V1.out w5 B5.out).mono ?_
            rintro e w' ⟨rfl, rfl⟩
            go_wp2_with fail
            refine (CE.out w5).mono ?_
            rintro e w6 ⟨rfl, K6⟩
            have B6 : Hid (Below w.heap.size w w6) := B5.out.trans (K6.mono B5.out.size)
            clear K6
            go_wp2
            go_ret
            exact ⟨rfl, B6.out⟩
        · have hv2 : valW a = false := by simpa using hv
          rw [PN.out (fun e => hv e.1)] at Q1
          rw [hv2] at V1
          clear PY PN hv hv2 S2
          go_wp2_with fail
          refine (T1.out w3 B3.out).mono ?_
          rintro e w4 ⟨rfl, K4⟩
          have B4 : Hid (Below w.heap.size w w4) := B3.out.trans (K4.mono B3.out.size)
          clear K4
          go_wp2_with fail
          refine (Q1.out w4 B4.out).mono ?_
          rintro e w5 ⟨rfl, K5⟩
          have B5 : Hid (Below w.heap.size w w5) := B4.out.trans (K5.mono B4.out.size)
          clear K5
          go_wp2_with fail
          refine (V1.out w5 B5.out).mono ?_
          rintro e w' ⟨rfl, rfl⟩
          go_wp2_with fail
          refine (CE.out w5).mono ?_
          rintro e w6 ⟨rfl, K6⟩
          have B6 : Hid (Below w.heap.size w w6) := B5.out.trans (K6.mono B5.out.size)
          clear K6
          go_wp2
          go_ret
          exact ⟨rfl, B6.out⟩

theorem parses_all (s : ByteArray) (A : Option Addr) (a : List Int) (ca : Nat) (w : World) (ra : ReadsV w A a) (hl : a.length * 8 ≤ 140737488351232) (hi : In64 a) (hL : LaidW w) :
    Calls Tryd.prog 5 #[.string s, .slice A a.length ca] w fun e w' => e = .returned (.bool true) ∧ Below w.heap.size w w' := by
  obtain ⟨l, rfl⟩ := bytes_list s
  exact parses_said l A a ca w ra hl hi hL

end Go.Proofs.YtengldflpkkkoaaDoor
