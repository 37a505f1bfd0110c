/- The law on the total order. -/
import Derived.Test.YtbpadefpgkjnaaaDoorTL
namespace Go.Proofs.YtbpadefpgkjnaaaDoor
open Go.RowKit

theorem cmpL_cases : ∀ a b : List Int, cmpL a b = -1 ∨ cmpL a b = 0 ∨ cmpL a b = 1
  | [], [] => .inr (.inl rfl)
  | [], _ :: _ => .inl rfl
  | _ :: _, [] => .inr (.inr rfl)
  | x :: r, y :: t => by
    have := cmpL_cases r t
    simp only [cmpL]
    split
    · exact .inl rfl
    · split
      · exact .inr (.inr rfl)
      · exact this
theorem cmpL_neg : ∀ a b : List Int, cmpL b a = - cmpL a b
  | [], [] => rfl
  | [], _ :: _ => rfl
  | _ :: _, [] => rfl
  | x :: r, y :: t => by
    have := cmpL_neg r t
    simp only [cmpL]
    split <;> split <;> (try split) <;> omega
theorem cmpL_zero : ∀ a b : List Int, cmpL a b = 0 → a = b
  | [], [], _ => rfl
  | [], _ :: _, h => by simp [cmpL] at h
  | _ :: _, [], h => by simp [cmpL] at h
  | x :: r, y :: t, h => by
    simp only [cmpL] at h
    split at h
    · simp at h
    · split at h
      · simp at h
      · rw [cmpL_zero r t h, show x = y by omega]
theorem cmpL_refl : ∀ a : List Int, cmpL a a = 0
  | [] => rfl
  | x :: r => by simp [cmpL, cmpL_refl r]
theorem cmpL_same {a b : List Int} (h : cmpL a b ≠ 0) : sameL a b = false := by
  cases e : sameL a b with
  | false => rfl
  | true => exact absurd (by rw [sameL_iff.1 e]; exact cmpL_refl b) h
theorem leqL_tail {x y : Int} {r t : List Int} (h : leqL (x :: r) (y :: t) = true) : x ≤ y ∧ leqL r t = true := by
  obtain ⟨h1, h2⟩ := leqL_iff.1 h
  refine ⟨by simpa [at0_zero] using h2 0 (by simp), leqL_iff.2 ⟨by simpa using h1, fun k hk => ?_⟩⟩
  simpa [at0_cons] using h2 (k + 1) (by simp; omega)
theorem cmpL_leq : ∀ a b : List Int, leqL a b = true → cmpL a b ≤ 0
  | [], [], _ => by simp [cmpL]
  | [], _ :: _, _ => by simp [cmpL]
  | _ :: _, [], h => by have := (leqL_iff.1 h).1; simp at this
  | x :: r, y :: t, h => by
    obtain ⟨h1, h2⟩ := leqL_tail h
    have := cmpL_leq r t h2
    simp only [cmpL]
    split
    · omega
    · split <;> omega
theorem cmpL_trans : ∀ a b c : List Int, cmpL a b ≤ 0 → cmpL b c ≤ 0 → cmpL a c ≤ 0
  | [], [], [], _, _ => by simp [cmpL]
  | [], _, _ :: _, _, _ => by simp [cmpL]
  | [], _ :: _, [], _, h => by simp [cmpL] at h
  | _ :: _, [], _, h, _ => by simp [cmpL] at h
  | _ :: _, _ :: _, [], _, h => by simp [cmpL] at h
  | x :: r, y :: t, z :: u, h, g => by
    have := cmpL_trans r t u
    simp only [cmpL] at h g ⊢
    split at h
    · split at g
      · rw [if_pos (by omega)]; omega
      · split at g
        · omega
        · rw [if_pos (by omega)]; omega
    · split at h
      · omega
      · split at g
        · rw [if_pos (by omega)]; omega
        · split at g
          · omega
          · rw [if_neg (by omega), if_neg (by omega)]
            exact this h g

set_option maxHeartbeats 4000000 in
set_option maxRecDepth 100000 in
theorem total_said (A B C : Option Addr) (a b c : List Int) (ca cb cc : Nat) (w : World) (ra : ReadsV w A a) (rb : ReadsV w B b) (rc : ReadsV w C c) (hl : a.length * 8 ≤ 140737488351232) (hm : b.length * 8 ≤ 140737488351232) (ho : c.length * 8 ≤ 140737488351232) (hL : LaidW w) :
    Calls Tryd.prog 9 #[.slice A a.length ca, .slice B b.length cb, .slice C c.length cc] w fun e w' => e = .returned (.bool true) ∧ Below w.heap.size w w' := by
  have RA := Lib.hid ra
  have RB := Lib.hid rb
  have RC := Lib.hid rc
  have Lab := Lib.hid (fun W (h : Below w.heap.size w W) => leq_law A B a b ca cb W (RA.out.below h (Nat.le_refl _)) (RB.out.below h (Nat.le_refl _)) hl)
  have Kab := Lib.hid (fun W (h : Below w.heap.size w W) => cmp_law A B a b ca cb W (RA.out.below h (Nat.le_refl _)) (RB.out.below h (Nat.le_refl _)) hl hm)
  have Kba := Lib.hid (fun W (h : Below w.heap.size w W) => cmp_law B A b a cb ca W (RB.out.below h (Nat.le_refl _)) (RA.out.below h (Nat.le_refl _)) hm hl)
  have Kaa := Lib.hid (fun W (h : Below w.heap.size w W) => cmp_law A A a a ca ca W (RA.out.below h (Nat.le_refl _)) (RA.out.below h (Nat.le_refl _)) hl hl)
  have Kbc := Lib.hid (fun W (h : Below w.heap.size w W) => cmp_law B C b c cb cc W (RB.out.below h (Nat.le_refl _)) (RC.out.below h (Nat.le_refl _)) hm ho)
  have Kac := Lib.hid (fun W (h : Below w.heap.size w W) => cmp_law A C a c ca cc W (RA.out.below h (Nat.le_refl _)) (RC.out.below h (Nat.le_refl _)) hl ho)
  have SAB := Lib.hid (fun W (h : Below w.heap.size w W) => same_law A B a b ca cb W (RA.out.below h (Nat.le_refl _)) (RB.out.below h (Nat.le_refl _)) hl)
  have CE := Lib.hid (fun W (h : Below w.heap.size w W) => alive_any W (hL.below h (Nat.le_refl _)))
  clear ra rb rc RA RB RC hL
  have Z : Hid (Below w.heap.size w w) := Below.refl _ _
  by_cases g1 : 30 < a.length
  · have h1 : (30 : Int) < (a.length : Int) := by omega
    replace CE := CE
    generalize a.length = N at *
    generalize b.length = M at *
    generalize c.length = O at *
    go_enter Tryd.func9, Tryd.ntmps9
    go_wp2_with fail
    refine (CE.out w Z.out).mono ?_
    rintro e w1 ⟨rfl, K1⟩
    have B1 : Hid (Below w.heap.size w w1) := Z.out.trans (K1.mono Z.out.size)
    clear K1
    go_wp2
    go_ret
    exact ⟨rfl, B1.out⟩
  · by_cases g2 : 30 < b.length
    · have h1 : ¬ (30 : Int) < (a.length : Int) := by omega
      have h2 : (30 : Int) < (b.length : Int) := by omega
      generalize a.length = N at *
      generalize b.length = M at *
      generalize c.length = O at *
      go_enter Tryd.func9, Tryd.ntmps9
      go_wp2_with fail
      refine (CE.out w Z.out).mono ?_
      rintro e w1 ⟨rfl, K1⟩
      have B1 : Hid (Below w.heap.size w w1) := Z.out.trans (K1.mono Z.out.size)
      clear K1
      go_wp2
      go_ret
      exact ⟨rfl, B1.out⟩
    · by_cases g3 : 30 < c.length
      · have h1 : ¬ (30 : Int) < (a.length : Int) := by omega
        have h2 : ¬ (30 : Int) < (b.length : Int) := by omega
        have h3 : (30 : Int) < (c.length : Int) := by omega
        generalize a.length = N at *
        generalize b.length = M at *
        generalize c.length = O at *
        go_enter Tryd.func9, Tryd.ntmps9
        go_wp2_with fail
        refine (CE.out w Z.out).mono ?_
        rintro e w1 ⟨rfl, K1⟩
        have B1 : Hid (Below w.heap.size w w1) := Z.out.trans (K1.mono Z.out.size)
        clear K1
        go_wp2
        go_ret
        exact ⟨rfl, B1.out⟩
      · have h1 : ¬ (30 : Int) < (a.length : Int) := by omega
        have h2 : ¬ (30 : Int) < (b.length : Int) := by omega
        have h3 : ¬ (30 : Int) < (c.length : Int) := by omega
        clear g1 g2 g3
        have FB := Lib.hid (cmpL_neg a b)
        rw [cmpL_refl] at Kaa
        rw [FB.out] at Kba
        rcases cmpL_cases a b with hn | hn | hn
        · rw [cmpL_same (by omega)] at SAB
          rw [hn] at Kab Kba
          go_enter Tryd.func9, Tryd.ntmps9
          go_wp2_with fail
          refine (Kab.out w Z.out).mono ?_
          rintro e w1 ⟨rfl, K1⟩
          have B1 : Hid (Below w.heap.size w w1) := Z.out.trans (K1.mono Z.out.size)
          clear K1
          go_wp2_with fail
          refine (Kba.out w1 B1.out).mono ?_
          rintro e w2 ⟨rfl, K2⟩
          have B2 : Hid (Below w.heap.size w w2) := B1.out.trans (K2.mono B1.out.size)
          clear K2
          go_wp2_with fail
          refine (SAB.out w2 B2.out).mono ?_
          rintro e w3 ⟨rfl, K3⟩
          have B3 : Hid (Below w.heap.size w w3) := B2.out.trans (K3.mono B2.out.size)
          clear K3
          go_wp2_with fail
          refine (Kaa.out w3 B3.out).mono ?_
          rintro e w4 ⟨rfl, K4⟩
          have B4 : Hid (Below w.heap.size w w4) := B3.out.trans (K4.mono B3.out.size)
          clear K4
          by_cases hp : leqL a b = true
          · rw [hp] at Lab
            replace hp := Lib.hid hp
            go_wp2_with fail
            refine (Lab.out w4 B4.out).mono ?_
            rintro e w5 ⟨rfl, K5⟩
            have B5 : Hid (Below w.heap.size w w5) := B4.out.trans (K5.mono B4.out.size)
            clear K5
            rcases cmpL_cases b c with hb | hb | hb
            · have hac := cmpL_trans a b c (by omega) (by omega)
              rw [hb] at Kbc
              clear hn hb FB
              generalize cmpL a c = Y at *
              go_wp2_with fail
              refine (Kbc.out w5 B5.out).mono ?_
              rintro e w6 ⟨rfl, K6⟩
              have B6 : Hid (Below w.heap.size w w6) := B5.out.trans (K6.mono B5.out.size)
              clear K6
              go_wp2_with fail
              refine (Kac.out w6 B6.out).mono ?_
              rintro e w7 ⟨rfl, K7⟩
              have B7 : Hid (Below w.heap.size w w7) := B6.out.trans (K7.mono B6.out.size)
              clear K7
              go_wp2_with fail
              refine (CE.out w7 B7.out).mono ?_
              rintro e w8 ⟨rfl, K8⟩
              have B8 : Hid (Below w.heap.size w w8) := B7.out.trans (K8.mono B7.out.size)
              clear K8
              go_wp2
              go_ret
              exact ⟨rfl, B8.out⟩
            · have hac := cmpL_trans a b c (by omega) (by omega)
              rw [hb] at Kbc
              clear hn hb FB
              generalize cmpL a c = Y at *
              go_wp2_with fail
              refine (Kbc.out w5 B5.out).mono ?_
              rintro e w6 ⟨rfl, K6⟩
              have B6 : Hid (Below w.heap.size w w6) := B5.out.trans (K6.mono B5.out.size)
              clear K6
              go_wp2_with fail
              refine (Kac.out w6 B6.out).mono ?_
              rintro e w7 ⟨rfl, K7⟩
              have B7 : Hid (Below w.heap.size w w7) := B6.out.trans (K7.mono B6.out.size)
              clear K7
              go_wp2_with fail
              refine (CE.out w7 B7.out).mono ?_
              rintro e w8 ⟨rfl, K8⟩
              have B8 : Hid (Below w.heap.size w w8) := B7.out.trans (K8.mono B7.out.size)
              clear K8
              go_wp2
              go_ret
              exact ⟨rfl, B8.out⟩
            · rw [hb] at Kbc
              go_wp2_with fail
              refine (Kbc.out w5 B5.out).mono ?_
              rintro e w6 ⟨rfl, K6⟩
              have B6 : Hid (Below w.heap.size w w6) := B5.out.trans (K6.mono B5.out.size)
              clear K6
              go_wp2_with fail
              refine (CE.out w6 B6.out).mono ?_
              rintro e w7 ⟨rfl, K7⟩
              have B7 : Hid (Below w.heap.size w w7) := B6.out.trans (K7.mono B6.out.size)
              clear K7
              go_wp2
              go_ret
              exact ⟨rfl, B7.out⟩
          · replace hp : leqL a b = false := by simpa using hp
            rw [hp] at Lab
            replace hp := Lib.hid hp
            go_wp2_with fail
            refine (Lab.out w4 B4.out).mono ?_
            rintro e w5 ⟨rfl, K5⟩
            have B5 : Hid (Below w.heap.size w w5) := B4.out.trans (K5.mono B4.out.size)
            clear K5
            rcases cmpL_cases b c with hb | hb | hb
            · have hac := cmpL_trans a b c (by omega) (by omega)
              rw [hb] at Kbc
              clear hn hb FB
              generalize cmpL a c = Y at *
              go_wp2_with fail
              refine (Kbc.out w5 B5.out).mono ?_
              rintro e w6 ⟨rfl, K6⟩
              have B6 : Hid (Below w.heap.size w w6) := B5.out.trans (K6.mono B5.out.size)
              clear K6
              go_wp2_with fail
              refine (Kac.out w6 B6.out).mono ?_
              rintro e w7 ⟨rfl, K7⟩
              have B7 : Hid (Below w.heap.size w w7) := B6.out.trans (K7.mono B6.out.size)
              clear K7
              go_wp2_with fail
              refine (CE.out w7 B7.out).mono ?_
              rintro e w8 ⟨rfl, K8⟩
              have B8 : Hid (Below w.heap.size w w8) := B7.out.trans (K8.mono B7.out.size)
              clear K8
              go_wp2
              go_ret
              exact ⟨rfl, B8.out⟩
            · have hac := cmpL_trans a b c (by omega) (by omega)
              rw [hb] at Kbc
              clear hn hb FB
              generalize cmpL a c = Y at *
              go_wp2_with fail
              refine (Kbc.out w5 B5.out).mono ?_
              rintro e w6 ⟨rfl, K6⟩
              have B6 : Hid (Below w.heap.size w w6) := B5.out.trans (K6.mono B5.out.size)
              clear K6
              go_wp2_with fail
              refine (Kac.out w6 B6.out).mono ?_
              rintro e w7 ⟨rfl, K7⟩
              have B7 : Hid (Below w.heap.size w w7) := B6.out.trans (K7.mono B6.out.size)
              clear K7
              go_wp2_with fail
              refine (CE.out w7 B7.out).mono ?_
              rintro e w8 ⟨rfl, K8⟩
              have B8 : Hid (Below w.heap.size w w8) := B7.out.trans (K8.mono B7.out.size)
              clear K8
              go_wp2
              go_ret
              exact ⟨rfl, B8.out⟩
            · rw [hb] at Kbc
              go_wp2_with fail
              refine (Kbc.out w5 B5.out).mono ?_
              rintro e w6 ⟨rfl, K6⟩
              have B6 : Hid (Below w.heap.size w w6) := B5.out.trans (K6.mono B5.out.size)
              clear K6
              go_wp2_with fail
              refine (CE.out w6 B6.out).mono ?_
              rintro e w7 ⟨rfl, K7⟩
              have B7 : Hid (Below w.heap.size w w7) := B6.out.trans (K7.mono B6.out.size)
              clear K7
              go_wp2
              go_ret
              exact ⟨rfl, B7.out⟩
        · rw [sameL_iff.2 (cmpL_zero a b hn)] at SAB
          rw [hn] at Kab Kba
          go_enter Tryd.func9, Tryd.ntmps9
          go_wp2_with fail
          refine (Kab.out w Z.out).mono ?_
          rintro e w1 ⟨rfl, K1⟩
          have B1 : Hid (Below w.heap.size w w1) := Z.out.trans (K1.mono Z.out.size)
          clear K1
          go_wp2_with fail
          refine (Kba.out w1 B1.out).mono ?_
          rintro e w2 ⟨rfl, K2⟩
          have B2 : Hid (Below w.heap.size w w2) := B1.out.trans (K2.mono B1.out.size)
          clear K2
          go_wp2_with fail
          refine (SAB.out w2 B2.out).mono ?_
          rintro e w3 ⟨rfl, K3⟩
          have B3 : Hid (Below w.heap.size w w3) := B2.out.trans (K3.mono B2.out.size)
          clear K3
          go_wp2_with fail
          refine (Kaa.out w3 B3.out).mono ?_
          rintro e w4 ⟨rfl, K4⟩
          have B4 : Hid (Below w.heap.size w w4) := B3.out.trans (K4.mono B3.out.size)
          clear K4
          by_cases hp : leqL a b = true
          · rw [hp] at Lab
            replace hp := Lib.hid hp
            go_wp2_with fail
            refine (Lab.out w4 B4.out).mono ?_
            rintro e w5 ⟨rfl, K5⟩
            have B5 : Hid (Below w.heap.size w w5) := B4.out.trans (K5.mono B4.out.size)
            clear K5
            rcases cmpL_cases b c with hb | hb | hb
            · have hac := cmpL_trans a b c (by omega) (by omega)
              rw [hb] at Kbc
              clear hn hb FB
              generalize cmpL a c = Y at *
              go_wp2_with fail
              refine (Kbc.out w5 B5.out).mono ?_
              rintro e w6 ⟨rfl, K6⟩
              have B6 : Hid (Below w.heap.size w w6) := B5.out.trans (K6.mono B5.out.size)
              clear K6
              go_wp2_with fail
              refine (Kac.out w6 B6.out).mono ?_
              rintro e w7 ⟨rfl, K7⟩
              have B7 : Hid (Below w.heap.size w w7) := B6.out.trans (K7.mono B6.out.size)
              clear K7
              go_wp2_with fail
              refine (CE.out w7 B7.out).mono ?_
              rintro e w8 ⟨rfl, K8⟩
              have B8 : Hid (Below w.heap.size w w8) := B7.out.trans (K8.mono B7.out.size)
              clear K8
              go_wp2
              go_ret
              exact ⟨rfl, B8.out⟩
            · have hac := cmpL_trans a b c (by omega) (by omega)
              rw [hb] at Kbc
              clear hn hb FB
              generalize cmpL a c = Y at *
              go_wp2_with fail
              refine (Kbc.out w5 B5.out).mono ?_
              rintro e w6 ⟨rfl, K6⟩
              have B6 : Hid (Below w.heap.size w w6) := B5.out.trans (K6.mono B5.out.size)
              clear K6
              go_wp2_with fail
              refine (Kac.out w6 B6.out).mono ?_
              rintro e w7 ⟨rfl, K7⟩
              have B7 : Hid (Below w.heap.size w w7) := B6.out.trans (K7.mono B6.out.size)
              clear K7
              go_wp2_with fail
              refine (CE.out w7 B7.out).mono ?_
              rintro e w8 ⟨rfl, K8⟩
              have B8 : Hid (Below w.heap.size w w8) := B7.out.trans (K8.mono B7.out.size)
              clear K8
              go_wp2
              go_ret
              exact ⟨rfl, B8.out⟩
            · rw [hb] at Kbc
              go_wp2_with fail
              refine (Kbc.out w5 B5.out).mono ?_
              rintro e w6 ⟨rfl, K6⟩
              have B6 : Hid (Below w.heap.size w w6) := B5.out.trans (K6.mono B5.out.size)
              clear K6
              go_wp2_with fail
              refine (CE.out w6 B6.out).mono ?_
              rintro e w7 ⟨rfl, K7⟩
              have B7 : Hid (Below w.heap.size w w7) := B6.out.trans (K7.mono B6.out.size)
              clear K7
              go_wp2
              go_ret
              exact ⟨rfl, B7.out⟩
          · replace hp : leqL a b = false := by simpa using hp
            rw [hp] at Lab
            replace hp := Lib.hid hp
            go_wp2_with fail
            refine (Lab.out w4 B4.out).mono ?_
            rintro e w5 ⟨rfl, K5⟩
            have B5 : Hid (Below w.heap.size w w5) := B4.out.trans (K5.mono B4.out.size)
            clear K5
            rcases cmpL_cases b c with hb | hb | hb
            · have hac := cmpL_trans a b c (by omega) (by omega)
              rw [hb] at Kbc
              clear hn hb FB
              generalize cmpL a c = Y at *
              go_wp2_with fail
              refine (Kbc.out w5 B5.out).mono ?_
              rintro e w6 ⟨rfl, K6⟩
              have B6 : Hid (Below w.heap.size w w6) := B5.out.trans (K6.mono B5.out.size)
              clear K6
              go_wp2_with fail
              refine (Kac.out w6 B6.out).mono ?_
              rintro e w7 ⟨rfl, K7⟩
              have B7 : Hid (Below w.heap.size w w7) := B6.out.trans (K7.mono B6.out.size)
              clear K7
              go_wp2_with fail
              refine (CE.out w7 B7.out).mono ?_
              rintro e w8 ⟨rfl, K8⟩
              have B8 : Hid (Below w.heap.size w w8) := B7.out.trans (K8.mono B7.out.size)
              clear K8
              go_wp2
              go_ret
              exact ⟨rfl, B8.out⟩
            · have hac := cmpL_trans a b c (by omega) (by omega)
              rw [hb] at Kbc
              clear hn hb FB
              generalize cmpL a c = Y at *
              go_wp2_with fail
              refine (Kbc.out w5 B5.out).mono ?_
              rintro e w6 ⟨rfl, K6⟩
              have B6 : Hid (Below w.heap.size w w6) := B5.out.trans (K6.mono B5.out.size)
              clear K6
              go_wp2_with fail
              refine (Kac.out w6 B6.out).mono ?_
              rintro e w7 ⟨rfl, K7⟩
              have B7 : Hid (Below w.heap.size w w7) := B6.out.trans (K7.mono B6.out.size)
              clear K7
              go_wp2_with fail
              refine (CE.out w7 B7.out).mono ?_
              rintro e w8 ⟨rfl, K8⟩
              have B8 : Hid (Below w.heap.size w w8) := B7.out.trans (K8.mono B7.out.size)
              clear K8
              go_wp2
              go_ret
              exact ⟨rfl, B8.out⟩
            · rw [hb] at Kbc
              go_wp2_with fail
              refine (Kbc.out w5 B5.out).mono ?_
              rintro e w6 ⟨rfl, K6⟩
              have B6 : Hid (Below w.heap.size w w6) := B5.out.trans (K6.mono B5.out.size)
              clear K6
              go_wp2_with fail
              refine (CE.out w6 B6.out).mono ?_
              rintro e w7 ⟨rfl, K7⟩
              have B7 : Hid (Below w.heap.size w w7) := B6.out.trans (K7.mono B6.out.size)
              clear K7
              go_wp2
              go_ret
              exact ⟨rfl, B7.out⟩
        · have hp : leqL a b = false := by
            cases e : leqL a b with
            | false => rfl
            | true => have := cmpL_leq a b e; omega
          rw [cmpL_same (by omega)] at SAB
          rw [hn] at Kab Kba
          rw [hp] at Lab
          clear hp hn FB
          go_enter Tryd.func9, Tryd.ntmps9
          go_wp2_with fail
          refine (Kab.out w Z.out).mono ?_
          rintro e w1 ⟨rfl, K1⟩
          have B1 : Hid (Below w.heap.size w w1) := Z.out.trans (K1.mono Z.out.size)
          clear K1
          go_wp2_with fail
          refine (Kba.out w1 B1.out).mono ?_
          rintro e w2 ⟨rfl, K2⟩
          have B2 : Hid (Below w.heap.size w w2) := B1.out.trans (K2.mono B1.out.size)
          clear K2
          go_wp2_with fail
          refine (SAB.out w2 B2.out).mono ?_
          rintro e w3 ⟨rfl, K3⟩
          have B3 : Hid (Below w.heap.size w w3) := B2.out.trans (K3.mono B2.out.size)
          clear K3
          go_wp2_with fail
          refine (Kaa.out w3 B3.out).mono ?_
          rintro e w4 ⟨rfl, K4⟩
          have B4 : Hid (Below w.heap.size w w4) := B3.out.trans (K4.mono B3.out.size)
          clear K4
          go_wp2_with fail
          refine (Lab.out w4 B4.out).mono ?_
          rintro e w5 ⟨rfl, K5⟩
          have B5 : Hid (Below w.heap.size w w5) := B4.out.trans (K5.mono B4.out.size)
          clear K5
          go_wp2_with fail
          refine (CE.out w5 B5.out).mono ?_
          rintro e w6 ⟨rfl, K6⟩
          have B6 : Hid (Below w.heap.size w w6) := B5.out.trans (K6.mono B5.out.size)
          clear K6
          go_wp2
          go_ret
          exact ⟨rfl, B6.out⟩

end Go.Proofs.YtbpadefpgkjnaaaDoor
