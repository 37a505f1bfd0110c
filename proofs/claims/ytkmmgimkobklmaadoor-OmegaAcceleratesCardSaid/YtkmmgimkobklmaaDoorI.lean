/- The laws on the order and on acceleration. -/
import Derived.Test.YtkmmgimkobklmaaDoorH
namespace Go.Proofs.YtkmmgimkobklmaaDoor
open Go.RowKit

theorem bound_accM {a b : List Int} {m : Nat} (h : b.length * 8 ≤ m) : (accM a b).length * 8 ≤ m := by rw [accM_len]; exact h

set_option maxHeartbeats 4000000 in
set_option maxRecDepth 100000 in
theorem orders_law (A B : Option Addr) (a b : List Int) (ca cb : Nat) (w : World) (ra : ReadsV w A a) (rb : ReadsV w B b) (hl : a.length * 8 ≤ 140737488351232) (hm : b.length * 8 ≤ 140737488351232) :
    Calls Tryd.prog 4 #[.slice A a.length ca, .slice B b.length cb] w fun e w' => e = .returned (.bool true) ∧ Below w.heap.size w w' := by
  have RA := Lib.hid ra
  have RB := Lib.hid rb
  have C1 := Lib.hid (fun W (h : Below w.heap.size w W) => (leq_law A B a b ca cb W (RA.out.below h (Nat.le_refl _)) (RB.out.below h (Nat.le_refl _)) hl hm))
  have C2 := Lib.hid (fun W (h : Below w.heap.size w W) => (rleq_law A B a b ca cb W (RA.out.below h (Nat.le_refl _)) (RB.out.below h (Nat.le_refl _)) hl hm))
  have C3 := Lib.hid (fun W (h : Below w.heap.size w W) => (covers_law A B a b ca cb W (RA.out.below h (Nat.le_refl _)) (RB.out.below h (Nat.le_refl _)) hl hm))
  have C4 := Lib.hid (fun W (h : Below w.heap.size w W) => (rcovers_law A B a b ca cb W (RA.out.below h (Nat.le_refl _)) (RB.out.below h (Nat.le_refl _)) hl hm))
  have C5 := Lib.hid (fun W (h : Below w.heap.size w W) => (acc_law A B a b ca cb W (RA.out.below h (Nat.le_refl _)) (RB.out.below h (Nat.le_refl _)) hl hm))
  have C6 := Lib.hid (fun W (h : Below w.heap.size w W) => (racc_law A B a b ca cb W (RA.out.below h (Nat.le_refl _)) (RB.out.below h (Nat.le_refl _)) hl hm))
  have C7 := Lib.hid (fun A1 c1 A2 c2 W (h1 : ReadsV W A1 (accM a b)) (h2 : ReadsV W A2 (accM a b)) => same_law A1 A2 (accM a b) c1 c2 W h1 h2 (bound_accM hm))
  have CE := Lib.hid (fun W => example_any W)
  clear ra rb RA RB
  generalize accM a b = La at *
  generalize leqW a b = P at *
  generalize covW a b = Q at *
  generalize a.length = n at *
  generalize b.length = m at *
  have Z : Hid (Below w.heap.size w w) := Below.refl _ _
  have hPP : (P == P) = true := by simp
  have hQQ : (Q == Q) = true := by simp
  go_enter Tryd.func4, Tryd.ntmps4
  go_wp2_with fail
  refine (C1.out w Z.out).mono ?_
  rintro e w1 ⟨rfl, K1⟩
  have B1 := Lib.hid K1
  clear K1
  go_wp2_with fail
  refine (C2.out w1 B1.out).mono ?_
  rintro e w2 ⟨rfl, K2⟩
  have B2 : Hid (Below w.heap.size w w2) := B1.out.trans (K2.mono B1.out.size)
  clear K2
  go_wp2_with fail
  refine (C3.out w2 B2.out).mono ?_
  rintro e w3 ⟨rfl, K3⟩
  have B3 : Hid (Below w.heap.size w w3) := B2.out.trans (K3.mono B2.out.size)
  clear K3
  go_wp2_with fail
  refine (C4.out w3 B3.out).mono ?_
  rintro e w4 ⟨rfl, K4⟩
  have B4 : Hid (Below w.heap.size w w4) := B3.out.trans (K4.mono B3.out.size)
  clear K4
  go_wp2_with fail
  refine (C5.out w4 B4.out).mono ?_
  rintro e w5 ⟨A5, c5, rfl, R5, K5⟩
  have B5 : Hid (Below w.heap.size w w5) := B4.out.trans (K5.mono B4.out.size)
  have R5 := Lib.hid R5
  clear K5
  go_wp2_with fail
  refine (C6.out w5 B5.out).mono ?_
  rintro e w6 ⟨A6, c6, rfl, R6, K6⟩
  have B6 : Hid (Below w.heap.size w w6) := B5.out.trans (K6.mono B5.out.size)
  have R5' : Hid (ReadsV w6 A5 La) := R5.out.below K6 (Nat.le_refl _)
  have R6 := Lib.hid R6
  clear K6
  go_wp2_with fail
  refine (C7.out A5 c5 A6 c6 w6 R5'.out R6.out).mono ?_
  rintro e w7 ⟨rfl, K7⟩
  have B7 : Hid (Below w.heap.size w w7) := B6.out.trans (K7.mono B6.out.size)
  clear K7 R5 R6 R5'
  go_wp2_with fail
  refine (CE.out w7).mono ?_
  rintro e w8 ⟨rfl, K8⟩
  go_wp2
  go_ret
  exact ⟨rfl, B7.out.trans (K8.mono B7.out.size)⟩

end Go.Proofs.YtkmmgimkobklmaaDoor
