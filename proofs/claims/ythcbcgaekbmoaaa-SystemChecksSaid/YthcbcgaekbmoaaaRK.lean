/- The comparison of lists of numbers, by the reference; of edges. -/
import Derived.Test.YthcbcgaekbmoaaaRL
import Derived.Deep.QuietTactic
import Derived.BigQuiet
import Derived.StillTailTactics
namespace Go.Proofs.Ythcbcgaekbmoaaa
open Go.RowKit

def cmpL : List Int → List Int → Int
  | [], [] => 0
  | [], _ :: _ => -1
  | _ :: _, [] => 1
  | x :: r, y :: s => if x < y then -1 else if y < x then 1 else cmpL r s
theorem at0_cons (x : Int) (r : List Int) (k : Nat) : at0 (x :: r) (k + 1) = at0 r k := by simp [at0]
theorem at0_zero (x : Int) (r : List Int) : at0 (x :: r) 0 = x := by simp [at0]
theorem cmpL_lt : ∀ (a b : List Int) (k : Nat), k < a.length → k < b.length → (∀ j, j < k → at0 a j = at0 b j) → at0 a k < at0 b k → cmpL a b = -1
  | [], _, k, h, _, _, _ => absurd h (by simp)
  | _ :: _, [], k, _, h, _, _ => absurd h (by simp)
  | x :: r, y :: s, 0, _, _, _, h => by simp only [at0_zero] at h; simp [cmpL, h]
  | x :: r, y :: s, k + 1, h1, h2, h3, h => by
    have e := h3 0 (by omega)
    simp only [at0_zero] at e
    subst e
    simp only [at0_cons] at h
    simp only [cmpL, Int.lt_irrefl, if_false]
    exact cmpL_lt r s k (by simpa using h1) (by simpa using h2) (fun j hj => by have := h3 (j + 1) (by omega); simpa only [at0_cons] using this) h
theorem cmpL_gt : ∀ (a b : List Int) (k : Nat), k < a.length → k < b.length → (∀ j, j < k → at0 a j = at0 b j) → at0 b k < at0 a k → cmpL a b = 1
  | [], _, k, h, _, _, _ => absurd h (by simp)
  | _ :: _, [], k, _, h, _, _ => absurd h (by simp)
  | x :: r, y :: s, 0, _, _, _, h => by simp only [at0_zero] at h; have : ¬ x < y := by omega
                                        simp [cmpL, h, this]
  | x :: r, y :: s, k + 1, h1, h2, h3, h => by
    have e := h3 0 (by omega)
    simp only [at0_zero] at e
    subst e
    simp only [at0_cons] at h
    simp only [cmpL, Int.lt_irrefl, if_false]
    exact cmpL_gt r s k (by simpa using h1) (by simpa using h2) (fun j hj => by have := h3 (j + 1) (by omega); simpa only [at0_cons] using this) h
theorem cmpL_end : ∀ (a b : List Int), (∀ j, j < a.length → j < b.length → at0 a j = at0 b j) → cmpL a b = if a.length < b.length then -1 else if b.length < a.length then 1 else 0
  | [], [], _ => by simp [cmpL]
  | [], _ :: _, _ => by simp [cmpL]
  | _ :: _, [], _ => by simp [cmpL]
  | x :: r, y :: s, h => by
    have e := h 0 (by simp) (by simp)
    simp only [at0_zero] at e
    subst e
    simp only [cmpL, Int.lt_irrefl, if_false]
    rw [cmpL_end r s fun j h1 h2 => by have := h (j + 1) (by simpa using h1) (by simpa using h2); simpa only [at0_cons] using this]
    simp
set_option maxHeartbeats 1000000 in
theorem rcmp_law (A B : Option Addr) (a b : List Int) (ca cb : Nat) (w : World) (ra : ReadsV w A a) (rb : ReadsV w B b) (hl : a.length * 8 ≤ 140737488351232) (hm : b.length * 8 ≤ 140737488351232) :
    Calls Try.prog 42 #[.slice A a.length ca, .slice B b.length cb] w fun e w' => e = .returned (.int .i64 (cmpL a b)) ∧ Below w.heap.size w w' := by
  have L1 : Hid (∀ k, k < a.length → k < b.length → (∀ j, j < k → at0 a j = at0 b j) → at0 a k < at0 b k → cmpL a b = -1) := fun k => cmpL_lt a b k
  have L2 : Hid (∀ k, k < a.length → k < b.length → (∀ j, j < k → at0 a j = at0 b j) → at0 b k < at0 a k → cmpL a b = 1) := fun k => cmpL_gt a b k
  have L3 : Hid ((∀ j, j < a.length → j < b.length → at0 a j = at0 b j) → cmpL a b = if a.length < b.length then -1 else if b.length < a.length then 1 else 0) := cmpL_end a b
  have RA := Lib.hid ra
  have RB := Lib.hid rb
  clear ra rb
  generalize cmpL a b = S at *
  generalize hg : w.heap.size = g at *
  have HG := Lib.hid hg
  clear hg
  generalize hn : a.length = n at *
  have HN := Lib.hid hn
  clear hn
  generalize hm' : b.length = m at *
  have HM := Lib.hid hm'
  clear hm'
  go_enter Try.func42, Try.ntmps42
  go_wp2_with fail
  go_loopw [5] (fun q wr => ∃ k : Nat, k ≤ n ∧ k ≤ m ∧ q = .int .i64 k ∧ Hid (∀ j, j < k → at0 a j = at0 b j) ∧ Hid (Below g w wr)) (fun q _ => n - (intOf q).toNat)
  case atStart => exact ⟨0, by omega, by omega, rfl, fun j hj => absurd hj (by omega), Below.refl _ _⟩
  case round =>
    obtain ⟨k, hk, hk2, rfl, HE, BB⟩ := hrel
    by_cases hlt : k < n
    · by_cases hlt2 : k < m
      · obtain ⟨ba, oa, e1, hx⟩ := at_of_reads (RA.out.below BB.out (by rw [HG.out]; exact Nat.le_refl _)) k (by rw [HN.out]; omega)
        subst e1
        obtain ⟨bb, ob, e2, hy⟩ := at_of_reads (RB.out.below BB.out (by rw [HG.out]; exact Nat.le_refl _)) k (by rw [HM.out]; omega)
        subst e2
        have G1 := Lib.hid (L1.out k (by omega) (by omega) HE.out)
        have G2 := Lib.hid (L2.out k (by omega) (by omega) HE.out)
        have G3 : Hid (at0 a k = at0 b k → ∀ j, j < k + 1 → at0 a j = at0 b j) := fun h j hj => by
          by_cases e : j < k
          · exact HE.out j e
          · obtain rfl : j = k := by omega
            exact h
        generalize at0 a k = x at *
        generalize at0 b k = y at *
        clear L1 L2 HE
        rcases Int.lt_trichotomy x y with h | h | h
        · have E := Lib.hid (G1.out h)
          clear G1 G2 G3
          go_wp2_with fail
          go_quiet (fail)
          go_wp2
          go_ret
          exact ⟨by rw [E.out]; rfl, below_drewN BB.out _⟩
        · subst h
          have E := Lib.hid (G3.out rfl)
          have l1 : ¬ x < x := by omega
          clear G1 G2 G3
          go_wp2_with fail
          go_quiet (fail)
          go_wp2_with fail
          go_quiet (fail)
          go_wp2
          go_roundw
          case rel => exact ⟨k + 1, by omega, by omega, by go_num, E, below_drewN BB.out _⟩
          case measure => simp [intOf]; omega
        · have E := Lib.hid (G2.out h)
          have l1 : ¬ x < y := by omega
          clear G1 G2 G3
          go_wp2_with fail
          go_quiet (fail)
          go_wp2_with fail
          go_quiet (fail)
          go_wp2
          go_ret
          exact ⟨by rw [E.out]; rfl, below_drewN (below_drewN BB.out _) _⟩
      · have E : Hid (S = 1) := by
          show _ = _
          rw [L3.out fun j h1 h2 => HE.out j (by omega), if_neg (by omega), if_pos (by omega)]
        have l1 : ¬ (n : Int) < m := by omega
        have l2 : (m : Int) < n := by omega
        go_wp2
        go_ret
        exact ⟨by rw [E.out]; rfl, BB.out⟩
    · by_cases h1 : n < m
      · have E : Hid (S = -1) := by
          show _ = _
          rw [L3.out fun j h1 h2 => HE.out j (by omega), if_pos h1]
        have l1 : (n : Int) < m := by omega
        go_wp2
        go_ret
        exact ⟨by rw [E.out]; rfl, BB.out⟩
      · have E : Hid (S = 0) := by
          show _ = _
          rw [L3.out fun j h1 h2 => HE.out j (by omega), if_neg (by omega), if_neg (by omega)]
        have l1 : ¬ (n : Int) < m := by omega
        have l2 : ¬ (m : Int) < n := by omega
        go_wp2
        go_ret
        exact ⟨by rw [E.out]; rfl, BB.out⟩
theorem cmp_edge (a b : EdgeV) : cmpL [a.f, a.t, a.o] [b.f, b.t, b.o] < 0 ↔ ltE a b = true := by
  unfold ltE
  rw [decide_eq_true_eq]
  simp only [cmpL]
  repeat' split
  all_goals omega
end Go.Proofs.Ythcbcgaekbmoaaa
