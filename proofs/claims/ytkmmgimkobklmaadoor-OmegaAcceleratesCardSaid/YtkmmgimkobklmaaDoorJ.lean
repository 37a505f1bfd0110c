/- The law on acceleration. -/
import Derived.Test.YtkmmgimkobklmaaDoorI
namespace Go.Proofs.YtkmmgimkobklmaaDoor
open Go.RowKit

set_option maxHeartbeats 4000000 in
set_option maxRecDepth 100000 in
theorem accelerates_law (A B M : Option Addr) (a b m : List Int) (ca cb cm : Nat) (w : World) (ra : ReadsV w A a) (rb : ReadsV w B b) (rm : ReadsV w M m) (hl : a.length * 8 ≤ 140737488351232) (hm : b.length * 8 ≤ 140737488351232) (hk : m.length * 8 ≤ 140737488351232) :
    Calls Tryd.prog 7 #[.slice A a.length ca, .slice B b.length cb, .slice M m.length cm] w fun e w' => e = .returned (.bool true) ∧ Below w.heap.size w w' := by
  have RA := Lib.hid ra
  have RB := Lib.hid rb
  have RM := Lib.hid rm
  clear ra rb rm
  have C1 := Lib.hid (fun W (h : Below w.heap.size w W) => (leq_law A B a b ca cb W (RA.out.below h (Nat.le_refl _)) (RB.out.below h (Nat.le_refl _)) hl hm))
  have CE := Lib.hid (fun W => example_any W)
  have Z : Hid (Below w.heap.size w w) := Below.refl _ _
  cases hq : leqW a b
  · rw [hq] at C1
    clear hq RA RB RM
    generalize a.length = n at *
    generalize b.length = n2 at *
    generalize m.length = n3 at *
    go_enter Tryd.func7, Tryd.ntmps7
    go_wp2_with fail
    refine (C1.out w Z.out).mono ?_
    rintro e w1 ⟨rfl, K1⟩
    have B1 := Lib.hid K1
    clear K1
    go_wp2_with fail
    refine (CE.out w1).mono ?_
    rintro e w8 ⟨rfl, K8⟩
    go_wp2
    go_ret
    exact ⟨rfl, B1.out.trans (K8.mono B1.out.size)⟩
  rw [hq] at C1
  have hx := accM_len a b
  have h1 := acc_high hq
  have h2 := acc_low hq
  have h3 : covW a m = true ∨ covW b m = true → covW (accM a b) m = true := acc_cov hq
  have C2 := Lib.hid (fun W (h : Below w.heap.size w W) => (acc_law A B a b ca cb W (RA.out.below h (Nat.le_refl _)) (RB.out.below h (Nat.le_refl _)) hl hm))
  have C3 := Lib.hid (fun X cx W (h : Below w.heap.size w W) (r : ReadsV W X (accM a b)) => leq_law B X b (accM a b) cb cx W (RB.out.below h (Nat.le_refl _)) r hm (bound_accM hm))
  rw [h1] at C3
  have C4 := Lib.hid (fun X cx W (h : Below w.heap.size w W) (r : ReadsV W X (accM a b)) => leq_law A X a (accM a b) ca cx W (RA.out.below h (Nat.le_refl _)) r hl (bound_accM hm))
  rw [h2] at C4
  have C5 := Lib.hid (fun W (h : Below w.heap.size w W) => covers_law A M a m ca cm W (RA.out.below h (Nat.le_refl _)) (RM.out.below h (Nat.le_refl _)) hl hk)
  have C6 := Lib.hid (fun W (h : Below w.heap.size w W) => covers_law B M b m cb cm W (RB.out.below h (Nat.le_refl _)) (RM.out.below h (Nat.le_refl _)) hm hk)
  have C7 := Lib.hid (fun X cx W (h : Below w.heap.size w W) (r : ReadsV W X (accM a b)) => covers_law X M (accM a b) m cx cm W r (RM.out.below h (Nat.le_refl _)) (bound_accM hm) hk)
  have C8 := Lib.hid (fun W (h : Below w.heap.size w W) => (acc_law B B b b cb cb W (RB.out.below h (Nat.le_refl _)) (RB.out.below h (Nat.le_refl _)) hm hm))
  rw [acc_self] at C8
  have C9 := Lib.hid (fun W (h : Below w.heap.size w W) => (acc_law A A a a ca ca W (RA.out.below h (Nat.le_refl _)) (RA.out.below h (Nat.le_refl _)) hl hl))
  rw [acc_self] at C9
  have CA := Lib.hid (fun X cx W (h : Below w.heap.size w W) (r : ReadsV W X b) => same_law X B b cx cb W r (RB.out.below h (Nat.le_refl _)) hm)
  have CB := Lib.hid (fun X cx W (h : Below w.heap.size w W) (r : ReadsV W X a) => same_law X A a cx ca W r (RA.out.below h (Nat.le_refl _)) hl)
  clear hq h1 h2 RA RB RM
  rw [hx] at C3 C4 C7
  have C2' : Hid (∀ W, Below w.heap.size w W → Calls Tryd.prog 21 #[.slice A a.length ca, .slice B b.length cb] W fun e w' => ∃ X c, e = .returned (.slice X b.length c) ∧ Hid (ReadsV w' X (accM a b)) ∧ Hid (Below W.heap.size W w')) := fun W h => (C2.out W h).mono fun _ _ ⟨X, c, h1, h2, h3⟩ => ⟨X, c, by rw [← hx]; exact h1, h2, h3⟩
  have C8' : Hid (∀ W, Below w.heap.size w W → Calls Tryd.prog 21 #[.slice B b.length cb, .slice B b.length cb] W fun e w' => ∃ X c, e = .returned (.slice X b.length c) ∧ Hid (ReadsV w' X b) ∧ Hid (Below W.heap.size W w')) := fun W h => (C8.out W h).mono fun _ _ ⟨X, c, h1, h2, h3⟩ => ⟨X, c, h1, h2, h3⟩
  have C9' : Hid (∀ W, Below w.heap.size w W → Calls Tryd.prog 21 #[.slice A a.length ca, .slice A a.length ca] W fun e w' => ∃ X c, e = .returned (.slice X a.length c) ∧ Hid (ReadsV w' X a) ∧ Hid (Below W.heap.size W w')) := fun W h => (C9.out W h).mono fun _ _ ⟨X, c, h1, h2, h3⟩ => ⟨X, c, h1, h2, h3⟩
  clear C2 C8 C9 hx
  generalize accM a b = La at *
  generalize covW a m = P at *
  generalize covW b m = Q at *
  generalize covW La m = R at *
  generalize a.length = n at *
  generalize b.length = n2 at *
  generalize m.length = n3 at *
  have H3 := Lib.hid h3
  clear h3
  cases P
  · cases Q
    · go_enter Tryd.func7, Tryd.ntmps7
      go_wp2_with fail
      refine (C1.out w Z.out).mono ?_
      rintro e w1 ⟨rfl, K1⟩
      have B1 := Lib.hid K1
      clear K1
      go_wp2_with fail
      refine (C2'.out w1 B1.out).mono ?_
      rintro e w2 ⟨X, cx, rfl, RX, K2⟩
      have B2 : Hid (Below w.heap.size w w2) := B1.out.trans (K2.out.mono B1.out.size)
      clear K2
      go_wp2_with fail
      refine (C3.out X cx w2 B2.out RX.out).mono ?_
      rintro e w3 ⟨rfl, K3⟩
      have B3 : Hid (Below w.heap.size w w3) := B2.out.trans (K3.mono B2.out.size)
      have RX3 : Hid (ReadsV w3 X La) := RX.out.below K3 (Nat.le_refl _)
      clear K3
      go_wp2_with fail
      refine (C4.out X cx w3 B3.out RX3.out).mono ?_
      rintro e w4 ⟨rfl, K4⟩
      have B4 : Hid (Below w.heap.size w w4) := B3.out.trans (K4.mono B3.out.size)
      have RX4 : Hid (ReadsV w4 X La) := RX3.out.below K4 (Nat.le_refl _)
      clear K4
      go_wp2_with fail
      refine (C5.out w4 B4.out).mono ?_
      rintro e w5 ⟨rfl, K5⟩
      have B5 : Hid (Below w.heap.size w w5) := B4.out.trans (K5.mono B4.out.size)
      have RX5 : Hid (ReadsV w5 X La) := RX4.out.below K5 (Nat.le_refl _)
      clear K5
      go_wp2_with fail
      refine (C6.out  w5 B5.out).mono ?_
      rintro e w6 ⟨rfl, K6⟩
      have B6 : Hid (Below w.heap.size w w6) := B5.out.trans (K6.mono B5.out.size)
      have RX6 : Hid (ReadsV w6 X La) := RX5.out.below K6 (Nat.le_refl _)
      clear K6
      go_wp2_with fail
      refine (C8'.out w6 B6.out).mono ?_
      rintro e w7 ⟨X7, c7, rfl, R7, K7⟩
      have B7 : Hid (Below w.heap.size w w7) := B6.out.trans (K7.out.mono B6.out.size)
      clear K7
      go_wp2_with fail
      refine (CA.out X7 c7 w7 B7.out R7.out).mono ?_
      rintro e w8 ⟨rfl, K8⟩
      have B8 : Hid (Below w.heap.size w w8) := B7.out.trans (K8.mono B7.out.size)
      clear K8
      go_wp2_with fail
      refine (C9'.out w8 B8.out).mono ?_
      rintro e w9 ⟨X9, c9, rfl, R9, K9⟩
      have B9 : Hid (Below w.heap.size w w9) := B8.out.trans (K9.out.mono B8.out.size)
      clear K9
      go_wp2_with fail
      refine (CB.out X9 c9 w9 B9.out R9.out).mono ?_
      rintro e w10 ⟨rfl, K10⟩
      have B10 : Hid (Below w.heap.size w w10) := B9.out.trans (K10.mono B9.out.size)
      clear K10
      go_wp2_with fail
      refine (CE.out w10).mono ?_
      rintro e w11 ⟨rfl, K11⟩
      go_wp2
      go_ret
      exact ⟨rfl, B10.out.trans (K11.mono B10.out.size)⟩
    · have hR : R = true := H3.out (by simp)
      subst hR
      go_enter Tryd.func7, Tryd.ntmps7
      go_wp2_with fail
      refine (C1.out w Z.out).mono ?_
      rintro e w1 ⟨rfl, K1⟩
      have B1 := Lib.hid K1
      clear K1
      go_wp2_with fail
      refine (C2'.out w1 B1.out).mono ?_
      rintro e w2 ⟨X, cx, rfl, RX, K2⟩
      have B2 : Hid (Below w.heap.size w w2) := B1.out.trans (K2.out.mono B1.out.size)
      clear K2
      go_wp2_with fail
      refine (C3.out X cx w2 B2.out RX.out).mono ?_
      rintro e w3 ⟨rfl, K3⟩
      have B3 : Hid (Below w.heap.size w w3) := B2.out.trans (K3.mono B2.out.size)
      have RX3 : Hid (ReadsV w3 X La) := RX.out.below K3 (Nat.le_refl _)
      clear K3
      go_wp2_with fail
      refine (C4.out X cx w3 B3.out RX3.out).mono ?_
      rintro e w4 ⟨rfl, K4⟩
      have B4 : Hid (Below w.heap.size w w4) := B3.out.trans (K4.mono B3.out.size)
      have RX4 : Hid (ReadsV w4 X La) := RX3.out.below K4 (Nat.le_refl _)
      clear K4
      go_wp2_with fail
      refine (C5.out w4 B4.out).mono ?_
      rintro e w5 ⟨rfl, K5⟩
      have B5 : Hid (Below w.heap.size w w5) := B4.out.trans (K5.mono B4.out.size)
      have RX5 : Hid (ReadsV w5 X La) := RX4.out.below K5 (Nat.le_refl _)
      clear K5
      go_wp2_with fail
      refine (C6.out  w5 B5.out).mono ?_
      rintro e w6 ⟨rfl, K6⟩
      have B6 : Hid (Below w.heap.size w w6) := B5.out.trans (K6.mono B5.out.size)
      have RX6 : Hid (ReadsV w6 X La) := RX5.out.below K6 (Nat.le_refl _)
      clear K6
      go_wp2_with fail
      refine (C7.out X cx w6 B6.out RX6.out).mono ?_
      rintro e w7 ⟨rfl, K7⟩
      have B7 : Hid (Below w.heap.size w w7) := B6.out.trans (K7.mono B6.out.size)
      have RX7 : Hid (ReadsV w7 X La) := RX6.out.below K7 (Nat.le_refl _)
      clear K7
      go_wp2_with fail
      refine (C8'.out w7 B7.out).mono ?_
      rintro e w8 ⟨X8, c8, rfl, R8, K8⟩
      have B8 : Hid (Below w.heap.size w w8) := B7.out.trans (K8.out.mono B7.out.size)
      clear K8
      go_wp2_with fail
      refine (CA.out X8 c8 w8 B8.out R8.out).mono ?_
      rintro e w9 ⟨rfl, K9⟩
      have B9 : Hid (Below w.heap.size w w9) := B8.out.trans (K9.mono B8.out.size)
      clear K9
      go_wp2_with fail
      refine (C9'.out w9 B9.out).mono ?_
      rintro e w10 ⟨X10, c10, rfl, R10, K10⟩
      have B10 : Hid (Below w.heap.size w w10) := B9.out.trans (K10.out.mono B9.out.size)
      clear K10
      go_wp2_with fail
      refine (CB.out X10 c10 w10 B10.out R10.out).mono ?_
      rintro e w11 ⟨rfl, K11⟩
      have B11 : Hid (Below w.heap.size w w11) := B10.out.trans (K11.mono B10.out.size)
      clear K11
      go_wp2_with fail
      refine (CE.out w11).mono ?_
      rintro e w12 ⟨rfl, K12⟩
      go_wp2
      go_ret
      exact ⟨rfl, B11.out.trans (K12.mono B11.out.size)⟩
  · have hR : R = true := H3.out (by simp)
    subst hR
    go_enter Tryd.func7, Tryd.ntmps7
    go_wp2_with fail
    refine (C1.out w Z.out).mono ?_
    rintro e w1 ⟨rfl, K1⟩
    have B1 := Lib.hid K1
    clear K1
    go_wp2_with fail
    refine (C2'.out w1 B1.out).mono ?_
    rintro e w2 ⟨X, cx, rfl, RX, K2⟩
    have B2 : Hid (Below w.heap.size w w2) := B1.out.trans (K2.out.mono B1.out.size)
    clear K2
    go_wp2_with fail
    refine (C3.out X cx w2 B2.out RX.out).mono ?_
    rintro e w3 ⟨rfl, K3⟩
    have B3 : Hid (Below w.heap.size w w3) := B2.out.trans (K3.mono B2.out.size)
    have RX3 : Hid (ReadsV w3 X La) := RX.out.below K3 (Nat.le_refl _)
    clear K3
    go_wp2_with fail
    refine (C4.out X cx w3 B3.out RX3.out).mono ?_
    rintro e w4 ⟨rfl, K4⟩
    have B4 : Hid (Below w.heap.size w w4) := B3.out.trans (K4.mono B3.out.size)
    have RX4 : Hid (ReadsV w4 X La) := RX3.out.below K4 (Nat.le_refl _)
    clear K4
    go_wp2_with fail
    refine (C5.out w4 B4.out).mono ?_
    rintro e w5 ⟨rfl, K5⟩
    have B5 : Hid (Below w.heap.size w w5) := B4.out.trans (K5.mono B4.out.size)
    have RX5 : Hid (ReadsV w5 X La) := RX4.out.below K5 (Nat.le_refl _)
    clear K5
    go_wp2_with fail
    refine (C7.out X cx w5 B5.out RX5.out).mono ?_
    rintro e w6 ⟨rfl, K6⟩
    have B6 : Hid (Below w.heap.size w w6) := B5.out.trans (K6.mono B5.out.size)
    have RX6 : Hid (ReadsV w6 X La) := RX5.out.below K6 (Nat.le_refl _)
    clear K6
    go_wp2_with fail
    refine (C8'.out w6 B6.out).mono ?_
    rintro e w7 ⟨X7, c7, rfl, R7, K7⟩
    have B7 : Hid (Below w.heap.size w w7) := B6.out.trans (K7.out.mono B6.out.size)
    clear K7
    go_wp2_with fail
    refine (CA.out X7 c7 w7 B7.out R7.out).mono ?_
    rintro e w8 ⟨rfl, K8⟩
    have B8 : Hid (Below w.heap.size w w8) := B7.out.trans (K8.mono B7.out.size)
    clear K8
    go_wp2_with fail
    refine (C9'.out w8 B8.out).mono ?_
    rintro e w9 ⟨X9, c9, rfl, R9, K9⟩
    have B9 : Hid (Below w.heap.size w w9) := B8.out.trans (K9.out.mono B8.out.size)
    clear K9
    go_wp2_with fail
    refine (CB.out X9 c9 w9 B9.out R9.out).mono ?_
    rintro e w10 ⟨rfl, K10⟩
    have B10 : Hid (Below w.heap.size w w10) := B9.out.trans (K10.mono B9.out.size)
    clear K10
    go_wp2_with fail
    refine (CE.out w10).mono ?_
    rintro e w11 ⟨rfl, K11⟩
    go_wp2
    go_ret
    exact ⟨rfl, B10.out.trans (K11.mono B10.out.size)⟩
end Go.Proofs.YtkmmgimkobklmaaDoor
