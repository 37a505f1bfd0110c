/- The law on sums, differences and multiples. -/
import Derived.Test.YthpbgdeeajhbjaaDoorU
namespace Go.Proofs.YthpbgdeeajhbjaaDoor
open Go.RowKit

theorem bound_addM {a b : List Int} {m : Nat} (h : a.length * 8 ≤ m) : (addM a b).length * 8 ≤ m := by
  unfold addM
  split
  · unfold addS; rw [tab_len]; exact h
  · simp
theorem bound_subM {a b : List Int} {m : Nat} (h : a.length * 8 ≤ m) : (subM a b).length * 8 ≤ m := by
  unfold subM
  split
  · unfold subS; rw [tab_len]; exact h
  · simp
theorem bound_sclM {a : List Int} {s : Int} {m : Nat} (h : a.length * 8 ≤ m) : (sclM a s).length * 8 ≤ m := by
  unfold sclM
  split
  · unfold sclS; rw [tab_len]; exact h
  · simp

set_option maxHeartbeats 4000000 in
set_option maxRecDepth 100000 in
theorem sums_law (A B : Option Addr) (a b : List Int) (ca cb : Nat) (s : Int) (w : World) (ra : ReadsV w A a) (rb : ReadsV w B b) (hl : a.length * 8 ≤ 140737488351232) (hm : b.length * 8 ≤ 140737488351232) (s1 : -9223372036854775808 ≤ s) (s2 : s ≤ 9223372036854775807) :
    Calls Tryd.prog 6 #[.slice A a.length ca, .slice B b.length cb, .int .i64 s] w fun e w' => e = .returned (.bool true) ∧ Below w.heap.size w w' := by
  have RA := Lib.hid ra
  have RB := Lib.hid rb
  have C1 := Lib.hid (fun W (h : Below w.heap.size w W) => (add_law A B a b ca cb W (RA.out.below h (Nat.le_refl _)) (RB.out.below h (Nat.le_refl _)) hl hm))
  have C2 := Lib.hid (fun W (h : Below w.heap.size w W) => (radd_law A B a b ca cb W (RA.out.below h (Nat.le_refl _)) (RB.out.below h (Nat.le_refl _)) hl hm))
  have C3 := Lib.hid (fun A1 c1 A2 c2 W (h1 : ReadsV W A1 (addM a b)) (h2 : ReadsV W A2 (addM a b)) => same_law A1 A2 (addM a b) c1 c2 W h1 h2 (bound_addM hl))
  have C4 := Lib.hid (fun W (h : Below w.heap.size w W) => (leq_law A B a b ca cb W (RA.out.below h (Nat.le_refl _)) (RB.out.below h (Nat.le_refl _)) hl hm))
  have C5 := Lib.hid (fun W (h : Below w.heap.size w W) => (rleq_law A B a b ca cb W (RA.out.below h (Nat.le_refl _)) (RB.out.below h (Nat.le_refl _)) hl hm))
  have C6 := Lib.hid (fun W (h : Below w.heap.size w W) => (sub_law A B a b ca cb W (RA.out.below h (Nat.le_refl _)) (RB.out.below h (Nat.le_refl _)) hl hm))
  have C7 := Lib.hid (fun W (h : Below w.heap.size w W) => (rsub_law A B a b ca cb W (RA.out.below h (Nat.le_refl _)) (RB.out.below h (Nat.le_refl _)) hl hm))
  have C8 := Lib.hid (fun A1 c1 A2 c2 W (h1 : ReadsV W A1 (subM a b)) (h2 : ReadsV W A2 (subM a b)) => same_law A1 A2 (subM a b) c1 c2 W h1 h2 (bound_subM hl))
  have C9 := Lib.hid (fun W (h : Below w.heap.size w W) => (scale_law A a ca s W (RA.out.below h (Nat.le_refl _)) hl s1 s2))
  have CA := Lib.hid (fun W (h : Below w.heap.size w W) => (rscale_law A a ca s W (RA.out.below h (Nat.le_refl _)) hl s1 s2))
  have CB := Lib.hid (fun A1 c1 A2 c2 W (h1 : ReadsV W A1 (sclM a s)) (h2 : ReadsV W A2 (sclM a s)) => same_law A1 A2 (sclM a s) c1 c2 W h1 h2 (bound_sclM hl))
  have CE := Lib.hid (fun W => example_any W)
  clear ra rb RA RB
  generalize addM a b = La at *
  generalize subM a b = Ls at *
  generalize sclM a s = Lm at *
  generalize leqM a b = P at *
  generalize a.length = n at *
  generalize b.length = m at *
  have Z : Hid (Below w.heap.size w w) := Below.refl _ _
  go_enter Tryd.func6, Tryd.ntmps6
  go_wp2_with fail
  refine (C1.out w Z.out).mono ?_
  rintro e w1 ⟨A1, c1, rfl, R1, K1⟩
  have B1 : Hid (Below w.heap.size w w1) := K1
  have R1 := Lib.hid R1
  clear K1
  go_wp2_with fail
  refine (C2.out w1 B1.out).mono ?_
  rintro e w2 ⟨A2, c2, rfl, R2, K2⟩
  have B2 : Hid (Below w.heap.size w w2) := B1.out.trans (K2.mono B1.out.size)
  have R1' : Hid (ReadsV w2 A1 La) := R1.out.below K2 (Nat.le_refl _)
  have R2 := Lib.hid R2
  clear K2
  go_wp2_with fail
  refine (C3.out A1 c1 A2 c2 w2 R1'.out R2.out).mono ?_
  rintro e w3 ⟨rfl, K3⟩
  have B3 : Hid (Below w.heap.size w w3) := B2.out.trans (K3.mono B2.out.size)
  clear K3 R1 R2 R1'
  go_wp2_with fail
  refine (C4.out w3 B3.out).mono ?_
  rintro e w4 ⟨rfl, K4⟩
  have B4 : Hid (Below w.heap.size w w4) := B3.out.trans (K4.mono B3.out.size)
  clear K4
  go_wp2_with fail
  refine (C5.out w4 B4.out).mono ?_
  rintro e w5 ⟨rfl, K5⟩
  have B5 : Hid (Below w.heap.size w w5) := B4.out.trans (K5.mono B4.out.size)
  clear K5
  have hPP : (P == P) = true := by simp
  go_wp2_with fail
  refine (C6.out w5 B5.out).mono ?_
  rintro e w6 ⟨A6, c6, rfl, R6, K6⟩
  have B6 : Hid (Below w.heap.size w w6) := B5.out.trans (K6.mono B5.out.size)
  have R6 := Lib.hid R6
  clear K6
  go_wp2_with fail
  refine (C7.out w6 B6.out).mono ?_
  rintro e w7 ⟨A7, c7, rfl, R7, K7⟩
  have B7 : Hid (Below w.heap.size w w7) := B6.out.trans (K7.mono B6.out.size)
  have R6' : Hid (ReadsV w7 A6 Ls) := R6.out.below K7 (Nat.le_refl _)
  have R7 := Lib.hid R7
  clear K7
  go_wp2_with fail
  refine (C8.out A6 c6 A7 c7 w7 R6'.out R7.out).mono ?_
  rintro e w8 ⟨rfl, K8⟩
  have B8 : Hid (Below w.heap.size w w8) := B7.out.trans (K8.mono B7.out.size)
  clear K8 R6 R7 R6'
  go_wp2_with fail
  refine (C9.out w8 B8.out).mono ?_
  rintro e w9 ⟨A9, c9, rfl, R9, K9⟩
  have B9 : Hid (Below w.heap.size w w9) := B8.out.trans (K9.mono B8.out.size)
  have R9 := Lib.hid R9
  clear K9
  go_wp2_with fail
  refine (CA.out w9 B9.out).mono ?_
  rintro e w10 ⟨A10, c10, rfl, R10, K10⟩
  have B10 : Hid (Below w.heap.size w w10) := B9.out.trans (K10.mono B9.out.size)
  have R9' : Hid (ReadsV w10 A9 Lm) := R9.out.below K10 (Nat.le_refl _)
  have R10 := Lib.hid R10
  clear K10
  go_wp2_with fail
  refine (CB.out A9 c9 A10 c10 w10 R9'.out R10.out).mono ?_
  rintro e w11 ⟨rfl, K11⟩
  have B11 : Hid (Below w.heap.size w w11) := B10.out.trans (K11.mono B10.out.size)
  clear K11 R9 R10 R9'
  go_wp2_with fail
  refine (CE.out w11).mono ?_
  rintro e w12 ⟨rfl, K12⟩
  go_wp2
  go_ret
  exact ⟨rfl, B11.out.trans (K12.mono B11.out.size)⟩
end Go.Proofs.YthpbgdeeajhbjaaDoor
