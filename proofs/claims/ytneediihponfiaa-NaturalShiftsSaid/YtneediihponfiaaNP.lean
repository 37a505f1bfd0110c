/- Bounded natural solutions: the program's Check. -/
import Derived.Test.YtneediihponfiaaNC
namespace Go.Proofs.Ytneediihponfiaa
open Go.RowKit

def prodTo (u : List Int) : Nat → Int
  | 0 => 1
  | k + 1 => prodTo u k * (at0 u k + 1)
def limF (u : List Int) (k : Nat) : Bool := decide (100000 < prodTo u (k + 1))
def chkP (L : List Row) (b u : List Int) : Int :=
  if u.length < 1 ∨ 64 < u.length ∨ L.length ≠ b.length ∨ 64 < L.length then 2
  else if anyB (badR1 u.length L) L.length = true then 2
  else if withB b (-10000) 10000 = false ∨ withB u 0 1000 = false then 1
  else if anyB (badR2 L) L.length = true then 1
  else if anyB (limF u) u.length = true then 14 else 0
theorem withB_at {l : List Int} {lo hi : Int} (h : withB l lo hi = true) (k : Nat) (hk : k < l.length) : lo ≤ at0 l k ∧ at0 l k ≤ hi := by
  unfold withB at h
  by_cases hb : badI lo hi l k = true
  · rw [anyB_yes hk hb] at h; cases h
  · unfold badI at hb
    simp at hb
    omega

set_option maxHeartbeats 4000000 in
set_option maxRecDepth 100000 in
theorem pcheck_any (A : Option Addr) (L : List Row) (c : Nat) (B : Option Addr) (b : List Int) (cb : Nat) (U : Option Addr) (u : List Int) (cu : Nat) (w : World) (hr : ReadsL w A L) (hl : L.length ≤ 1000) (hb : ReadsV w B b) (hbl : b.length ≤ 1000) (hu : ReadsV w U u) (hul : u.length ≤ 1000) :
    Calls Try.prog 11 #[.slice A L.length c, .slice B b.length cb, .slice U u.length cu] w (VPost w.heap.size w (.int .i64 (chkP L b u))) := by
  have B0 : Hid (Below w.heap.size w (w.alloc (.cells #[.slice U u.length cu] 23))) := (Below.refl _ _).alloc (Nat.le_refl _) _
  have p0 : (w.alloc (.cells #[.slice U u.length cu] 23)).cell? ⟨w.heap.size, 0, none⟩ = some (.slice U u.length cu) := by simp
  have C1 : Hid (∀ W, Below w.heap.size w W → W.cell? ⟨w.heap.size, 0, none⟩ = some (.slice U u.length cu) → Calls Try.prog 22 #[.slice A L.length c, .func (.func 23) #[] #[.pointer (some ⟨w.heap.size, 0, none⟩)]] W fun e w' => e = .returned (.bool (anyB (badR1 u.length L) L.length)) ∧ Below W.heap.size W w') := fun W hW hc => r_contains1 A L c W (hr.below hW (Nat.le_refl _)) hl w.heap.size U u.length cu hc
  have C2 : Hid (∀ W, Below w.heap.size w W → Calls Try.prog 24 #[.slice B b.length cb, .int .i64 (-10000), .int .i64 10000] W (VPost W.heap.size W (.bool (withB b (-10000) 10000)))) := fun W hW => within_any B b cb _ _ W (hb.below hW (Nat.le_refl _)) (by omega)
  have C3 : Hid (∀ W, Below w.heap.size w W → Calls Try.prog 24 #[.slice U u.length cu, .int .i64 0, .int .i64 1000] W (VPost W.heap.size W (.bool (withB u 0 1000)))) := fun W hW => within_any U u cu _ _ W (hu.below hW (Nat.le_refl _)) (by omega)
  have C4 : Hid (∀ W, Below w.heap.size w W → Calls Try.prog 22 #[.slice A L.length c, .func (.func 25) #[] #[]] W fun e w' => e = .returned (.bool (anyB (badR2 L) L.length)) ∧ Below W.heap.size W w') := fun W hW => r_contains2 A L c W (hr.below hW (Nat.le_refl _)) hl
  have RU : Hid (∀ W, Below w.heap.size w W → ReadsV W U u) := fun W hW => hu.below hW (Nat.le_refl _)
  have WA : Hid (withB u 0 1000 = true → ∀ k, k < u.length → 0 ≤ at0 u k ∧ at0 u k ≤ 1000) := fun h k hk => withB_at h k hk
  have hch : chkP L b u = chkP L b u := rfl
  generalize hS : chkP L b u = S at hch ⊢
  clear hch
  unfold chkP at hS
  by_cases hg : u.length < 1 ∨ 64 < u.length ∨ L.length ≠ b.length ∨ 64 < L.length
  · rw [if_pos hg] at hS
    subst hS
    clear hr hb hu C1 C2 C3 C4 RU WA
    generalize u.length = n at *
    generalize b.length = m at *
    generalize L.length = l at *
    rcases Classical.em (n < 1) with h1 | h1
    · have d1 : decide ((n : Int) < 1) = true := decide_eq_true (by omega)
      have d1' : (n : Int) < 1 := by omega
      clear hg
      go_enter Try.func11, Try.ntmps11
      go_wp2
      go_ret
      exact ⟨rfl, B0.out⟩
    · have d1 : decide ((n : Int) < 1) = false := decide_eq_false (by omega)
      rcases Classical.em (64 < n) with h2 | h2
      · have d2 : decide ((64 : Int) < (n : Int)) = true := decide_eq_true (by omega)
        clear hg
        go_enter Try.func11, Try.ntmps11
        go_wp2
        go_ret
        exact ⟨rfl, B0.out⟩
      · have d2 : decide ((64 : Int) < (n : Int)) = false := decide_eq_false (by omega)
        rcases Classical.em (l = m) with h3 | h3
        · have d3 : ((l : Int) != (m : Int)) = false := by simp; omega
          have d4 : decide ((64 : Int) < (l : Int)) = true := decide_eq_true (by omega)
          clear hg h3
          go_enter Try.func11, Try.ntmps11
          go_wp2
          go_ret
          exact ⟨rfl, B0.out⟩
        · have d3 : ((l : Int) != (m : Int)) = true := by simp; omega
          clear hg h3
          go_enter Try.func11, Try.ntmps11
          go_wp2
          go_ret
          exact ⟨rfl, B0.out⟩
  · rw [if_neg hg] at hS
    have d1 : decide ((u.length : Int) < 1) = false := decide_eq_false (by omega)
    have d2 : decide ((64 : Int) < (u.length : Int)) = false := decide_eq_false (by omega)
    have d3 : ((L.length : Int) != (b.length : Int)) = false := by simp; omega
    have d4 : decide ((64 : Int) < (L.length : Int)) = false := decide_eq_false (by omega)
    cases h1 : anyB (badR1 u.length L) L.length
    rotate_left
    · rw [if_pos h1] at hS
      subst hS
      rw [h1] at C1
      clear hr hb hu hg h1 C2 C3 C4 RU WA
      go_enter Try.func11, Try.ntmps11
      go_wp2_with fail
      refine (C1.out _ B0.out p0).mono ?_
      rintro e w1 ⟨rfl, K⟩
      have p0 := keepc p0 K
      have D1 := Lib.hid (B0.out.trans (K.mono B0.out.size))
      clear K
      go_wp2
      go_ret
      exact ⟨rfl, D1.out⟩
    rw [if_neg (by rw [h1]; decide)] at hS
    rw [h1] at C1
    cases h2 : withB b (-10000) 10000
    · rw [if_pos (.inl h2)] at hS
      subst hS
      rw [h2] at C2
      clear hr hb hu hg h1 h2 C3 C4 RU WA
      go_enter Try.func11, Try.ntmps11
      go_wp2_with fail
      refine (C1.out _ B0.out p0).mono ?_
      rintro e w1 ⟨rfl, K⟩
      have p0 := keepc p0 K
      have D1 := Lib.hid (B0.out.trans (K.mono B0.out.size))
      clear K
      go_wp2_with fail
      refine (C2.out _ D1.out).mono ?_
      rintro e w2 ⟨rfl, K⟩
      have p0 := keepc p0 K
      have D2 := Lib.hid (D1.out.trans (K.mono D1.out.size))
      clear K
      go_wp2
      go_ret
      exact ⟨rfl, D2.out⟩
    rw [h2] at C2
    cases h3 : withB u 0 1000
    · rw [if_pos (.inr h3)] at hS
      subst hS
      rw [h3] at C3
      clear hr hb hu hg h1 h2 h3 C4 RU WA
      go_enter Try.func11, Try.ntmps11
      go_wp2_with fail
      refine (C1.out _ B0.out p0).mono ?_
      rintro e w1 ⟨rfl, K⟩
      have p0 := keepc p0 K
      have D1 := Lib.hid (B0.out.trans (K.mono B0.out.size))
      clear K
      go_wp2_with fail
      refine (C2.out _ D1.out).mono ?_
      rintro e w2 ⟨rfl, K⟩
      have p0 := keepc p0 K
      have D2 := Lib.hid (D1.out.trans (K.mono D1.out.size))
      clear K
      go_wp2_with fail
      refine (C3.out _ D2.out).mono ?_
      rintro e w3 ⟨rfl, K⟩
      have p0 := keepc p0 K
      have D3 := Lib.hid (D2.out.trans (K.mono D2.out.size))
      clear K
      go_wp2
      go_ret
      exact ⟨rfl, D3.out⟩
    rw [h3] at C3
    rw [if_neg (by rw [h2, h3]; decide)] at hS
    cases h4 : anyB (badR2 L) L.length
    rotate_left
    · rw [if_pos h4] at hS
      subst hS
      rw [h4] at C4
      clear hr hb hu hg h1 h2 h3 h4 RU WA
      go_enter Try.func11, Try.ntmps11
      go_wp2_with fail
      refine (C1.out _ B0.out p0).mono ?_
      rintro e w1 ⟨rfl, K⟩
      have p0 := keepc p0 K
      have D1 := Lib.hid (B0.out.trans (K.mono B0.out.size))
      clear K
      go_wp2_with fail
      refine (C2.out _ D1.out).mono ?_
      rintro e w2 ⟨rfl, K⟩
      have p0 := keepc p0 K
      have D2 := Lib.hid (D1.out.trans (K.mono D1.out.size))
      clear K
      go_wp2_with fail
      refine (C3.out _ D2.out).mono ?_
      rintro e w3 ⟨rfl, K⟩
      have p0 := keepc p0 K
      have D3 := Lib.hid (D2.out.trans (K.mono D2.out.size))
      clear K
      go_wp2_with fail
      refine (C4.out _ D3.out).mono ?_
      rintro e w4 ⟨rfl, K⟩
      have p0 := keepc p0 K
      have D4 := Lib.hid (D3.out.trans (K.mono D3.out.size))
      clear K
      go_wp2
      go_ret
      exact ⟨rfl, D4.out⟩
    rw [h4] at C4
    rw [if_neg (by rw [h4]; decide)] at hS
    have WU := Lib.hid (WA.out h3)
    have HT : Hid (∀ k, k < u.length → limF u k = true → (14 : Int) = S) := fun k hk h => by rw [if_pos (anyB_yes hk h)] at hS; exact hS
    have HN : Hid ((∀ k, k < u.length → limF u k = false) → (0 : Int) = S) := fun h => by rw [if_neg (by rw [anyB_no h]; decide)] at hS; exact hS
    clear hr hb hu h1 h2 h3 h4 WA hS
    have hu64 : u.length ≤ 64 := by omega
    clear hg
    go_enter Try.func11, Try.ntmps11
    go_wp2_with fail
    refine (C1.out _ B0.out p0).mono ?_
    rintro e w1 ⟨rfl, K⟩
    have p0 := keepc p0 K
    have D1 := Lib.hid (B0.out.trans (K.mono B0.out.size))
    clear K
    go_wp2_with fail
    refine (C2.out _ D1.out).mono ?_
    rintro e w2 ⟨rfl, K⟩
    have p0 := keepc p0 K
    have D2 := Lib.hid (D1.out.trans (K.mono D1.out.size))
    clear K
    go_wp2_with fail
    refine (C3.out _ D2.out).mono ?_
    rintro e w3 ⟨rfl, K⟩
    have p0 := keepc p0 K
    have D3 := Lib.hid (D2.out.trans (K.mono D2.out.size))
    clear K
    go_wp2_with fail
    refine (C4.out _ D3.out).mono ?_
    rintro e w4 ⟨rfl, K⟩
    have p0 := keepc p0 K
    have D4 := Lib.hid (D3.out.trans (K.mono D3.out.size))
    clear K
    have RU4 := Lib.hid (RU.out _ D4.out)
    clear C1 C2 C3 C4 RU D1 D2 D3 B0
    go_wp2_with fail
    go_loop [7, 45] (fun p q => ∃ k : Nat, k ≤ u.length ∧ q = .int .i64 k ∧ p = .int .i64 (prodTo u k) ∧ 1 ≤ prodTo u k ∧ prodTo u k ≤ 100000 ∧ Hid (∀ j, j < k → limF u j = false)) (fun _ q => u.length - (intOf q).toNat)
    case atStart => exact ⟨0, by omega, rfl, rfl, by simp [prodTo], by simp [prodTo], fun j hj => absurd hj (by omega)⟩
    case round =>
      obtain ⟨k, hk, rfl, rfl, h1, h2, HM⟩ := hrel
      by_cases hlt : k < u.length
      · obtain ⟨b0, off, e1, hc0⟩ := at_of_reads RU4.out k hlt
        subst e1
        obtain ⟨x1, x2⟩ := WU.out k hlt
        have E : Hid (prodTo u (k + 1) = prodTo u k * (at0 u k + 1)) := rfl
        have HT1 := HT.out k hlt
        have HM1 := Lib.hid (fun h => upto_snoc (f := limF u) HM.out h)
        have EL : Hid (limF u k = decide (100000 < prodTo u k * (at0 u k + 1))) := rfl
        rw [EL.out] at HT1 HM1
        have HT1 := Lib.hid HT1
        clear HM EL
        generalize at0 u k = x at *
        generalize prodTo u k = y at *
        have m1 : 1 ≤ y * (x + 1) := by
          have := Int.mul_le_mul (a := 1) (b := 1) (c := y) (d := x + 1) h1 (by omega) (by omega) (by omega)
          omega
        have m2 : y * (x + 1) ≤ 100100000 := by
          have := Int.mul_le_mul (a := y) (b := x + 1) (c := 100000) (d := 1001) h2 (by omega) (by omega) (by omega)
          omega
        generalize hz : y * (x + 1) = z at *
        have b5 : wrap64 (y * (x + 1)) = z := by rw [hz]; unfold wrap64; omega
        have b6 : wrap64 (x + 1) = x + 1 := by unfold wrap64; omega
        rcases Classical.em (100000 < z) with h3 | h3
        · have d5 : decide (100000 < z) = true := decide_eq_true h3
          have R := Lib.hid (HT1.out d5)
          clear HT1 HM1
          go_wp2
          go_ret
          first | exact ⟨ret_i R.out, D4.out⟩ | exact ⟨rfl, D4.out⟩
        · have d5 : decide (100000 < z) = false := decide_eq_false h3
          have R := Lib.hid (HM1.out d5)
          clear HT1 HM1
          go_wp2
          go_round
          case rel => exact ⟨k + 1, by omega, by go_num, by rw [E.out], by rw [E.out]; exact m1, by rw [E.out]; omega, R⟩
          case measure => simp [intOf]; omega
      · have R := Lib.hid (HN.out (fun j hj => HM.out j (by omega)))
        go_wp2
        go_ret
        exact ⟨ret_i R.out, D4.out⟩
end Go.Proofs.Ytneediihponfiaa
