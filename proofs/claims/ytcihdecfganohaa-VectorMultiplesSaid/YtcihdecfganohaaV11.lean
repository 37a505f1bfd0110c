/- The laws on sums, multiples, orders and primitive vectors. -/
import Derived.Test.YtcihdecfganohaaV10
namespace Go.Proofs.Ytcihdecfganohaa
open Go.RowKit

theorem trF_small {n : Nat} (el : Nat → Int × Bool) (h : n ≤ 100) : (trF n el).1.length ≤ 100 := by
  unfold trF
  split <;> simp <;> omega
theorem pairF_small {a b : List Int} (el : Nat → Int × Bool) (h : a.length ≤ 100) : (pairF a b el).1.length ≤ 100 := by
  unfold pairF
  split
  · exact trF_small el h
  · simp
theorem primV_small {a : List Int} (h : a.length ≤ 100) : (primV a).1.length ≤ 100 := by
  unfold primV
  split
  · simp
  · exact trF_small _ h

set_option maxHeartbeats 4000000 in
set_option maxRecDepth 100000 in
theorem sums_walk (A B : Option Addr) (a b : List Int) (ca cb : Nat) (w : World) (ia : In64 a) (ib : In64 b) (ra : ReadsV w A a) (rb : ReadsV w B b) :
    Calls Try.prog 3 #[.slice A a.length ca, .slice B b.length cb] w (BPost w.heap.size w true) := by
  by_cases hl : 100 < a.length
  · clear ra rb
    generalize a.length = n at *
    generalize b.length = m at *
    go_enter Try.func3, Try.ntmps3
    go_wp2_with fail
    refine (lives_any _).mono ?_
    rintro e w1 ⟨rfl, K⟩
    have K := Lib.hid K
    go_wp2
    go_ret
    exact ⟨rfl, K.out⟩
  have hl : a.length ≤ 100 := by omega
  by_cases hm : 100 < b.length
  · clear ra rb
    generalize a.length = n at *
    generalize b.length = m at *
    go_enter Try.func3, Try.ntmps3
    go_wp2_with fail
    refine (lives_any _).mono ?_
    rintro e w1 ⟨rfl, K⟩
    have K := Lib.hid K
    go_wp2
    go_ret
    exact ⟨rfl, K.out⟩
  have hm : b.length ≤ 100 := by omega
  have C1 : Hid (∀ W, Below w.heap.size w W → Calls Try.prog 12 #[.slice A a.length ca, .slice B b.length cb] W (VecPost W.heap.size W (addV a b))) := fun W hW => add_law A B a b ca cb W ia ib (ra.below hW (Nat.le_refl _)) (rb.below hW (Nat.le_refl _)) hl
  have C2 : Hid (∀ W, Below w.heap.size w W → Calls Try.prog 13 #[.slice A a.length ca, .slice B b.length cb] W (VecPost W.heap.size W (addV a b))) := fun W hW => radd_law A B a b ca cb W ia ib (ra.below hW (Nat.le_refl _)) (rb.below hW (Nat.le_refl _)) hl
  have C3 : Hid (∀ W, Below w.heap.size w W → Calls Try.prog 14 #[.slice A a.length ca, .slice B b.length cb] W (VecPost W.heap.size W (subV a b))) := fun W hW => sub_law A B a b ca cb W ia ib (ra.below hW (Nat.le_refl _)) (rb.below hW (Nat.le_refl _)) hl
  have C4 : Hid (∀ W, Below w.heap.size w W → Calls Try.prog 15 #[.slice A a.length ca, .slice B b.length cb] W (VecPost W.heap.size W (subV a b))) := fun W hW => rsub_law A B a b ca cb W ia ib (ra.below hW (Nat.le_refl _)) (rb.below hW (Nat.le_refl _)) hl
  have C5 : Hid (∀ W, Below w.heap.size w W → Calls Try.prog 16 #[.slice A a.length ca, .slice B b.length cb] W (DPost W.heap.size W (dotV a b))) := fun W hW => dot_law A B a b ca cb W ia ib (ra.below hW (Nat.le_refl _)) (rb.below hW (Nat.le_refl _)) hl
  have C6 : Hid (∀ W, Below w.heap.size w W → Calls Try.prog 17 #[.slice A a.length ca, .slice B b.length cb] W (DPost W.heap.size W (dotV a b))) := fun W hW => rdot_law A B a b ca cb W ia ib (ra.below hW (Nat.le_refl _)) (rb.below hW (Nat.le_refl _)) hl
  have S1 : Hid (∀ W A1 A2 c1 c2, ReadsV W A1 (addV a b).1 → ReadsV W A2 (addV a b).1 → Calls Try.prog 18 #[.slice A1 (addV a b).1.length c1, .slice A2 (addV a b).1.length c2] W (BPost W.heap.size W true)) := fun W A1 A2 c1 c2 h1 h2 => same_law A1 A2 _ c1 c2 W h1 h2 (pairF_small _ hl)
  have S2 : Hid (∀ W A1 A2 c1 c2, ReadsV W A1 (subV a b).1 → ReadsV W A2 (subV a b).1 → Calls Try.prog 18 #[.slice A1 (subV a b).1.length c1, .slice A2 (subV a b).1.length c2] W (BPost W.heap.size W true)) := fun W A1 A2 c1 c2 h1 h2 => same_law A1 A2 _ c1 c2 W h1 h2 (pairF_small _ hl)
  clear ra rb ia ib
  generalize addV a b = P1 at *
  generalize subV a b = P2 at *
  generalize dotV a b = P3 at *
  generalize a.length = n at *
  generalize b.length = m at *
  have D0 : Hid (Below w.heap.size w w) := Below.refl _ _
  go_enter Try.func3, Try.ntmps3
  go_wp2_with fail
  refine (C1.out _ D0.out).mono ?_
  rintro e w1 ⟨A1, c1, rfl, R1, K1⟩
  have R1 := Lib.hid R1
  have K1 := Lib.hid K1
  have D1 : Hid (Below w.heap.size w w1) := D0.out.trans (K1.out.mono D0.out.size)
  go_wp2_with fail
  refine (C2.out _ D1.out).mono ?_
  rintro e w2 ⟨A2, c2, rfl, R2, K2⟩
  have R2 := Lib.hid R2
  have K2 := Lib.hid K2
  have D2 : Hid (Below w.heap.size w w2) := D1.out.trans (K2.out.mono D1.out.size)
  have R1 := Lib.hid (R1.out.below K2.out (Nat.le_refl _))
  go_wp2_with fail
  refine (C3.out _ D2.out).mono ?_
  rintro e w3 ⟨A3, c3, rfl, R3, K3⟩
  have R3 := Lib.hid R3
  have K3 := Lib.hid K3
  have D3 : Hid (Below w.heap.size w w3) := D2.out.trans (K3.out.mono D2.out.size)
  have R1 := Lib.hid (R1.out.below K3.out (Nat.le_refl _))
  have R2 := Lib.hid (R2.out.below K3.out (Nat.le_refl _))
  go_wp2_with fail
  refine (C4.out _ D3.out).mono ?_
  rintro e w4 ⟨A4, c4, rfl, R4, K4⟩
  have R4 := Lib.hid R4
  have K4 := Lib.hid K4
  have D4 : Hid (Below w.heap.size w w4) := D3.out.trans (K4.out.mono D3.out.size)
  have R1 := Lib.hid (R1.out.below K4.out (Nat.le_refl _))
  have R2 := Lib.hid (R2.out.below K4.out (Nat.le_refl _))
  have R3 := Lib.hid (R3.out.below K4.out (Nat.le_refl _))
  go_wp2_with fail
  refine (C5.out _ D4.out).mono ?_
  rintro e w5 ⟨rfl, K5⟩
  have K5 := Lib.hid K5
  have D5 : Hid (Below w.heap.size w w5) := D4.out.trans (K5.out.mono D4.out.size)
  have R1 := Lib.hid (R1.out.below K5.out (Nat.le_refl _))
  have R2 := Lib.hid (R2.out.below K5.out (Nat.le_refl _))
  have R3 := Lib.hid (R3.out.below K5.out (Nat.le_refl _))
  have R4 := Lib.hid (R4.out.below K5.out (Nat.le_refl _))
  go_wp2_with fail
  refine (C6.out _ D5.out).mono ?_
  rintro e w6 ⟨rfl, K6⟩
  have K6 := Lib.hid K6
  have D6 : Hid (Below w.heap.size w w6) := D5.out.trans (K6.out.mono D5.out.size)
  have R1 := Lib.hid (R1.out.below K6.out (Nat.le_refl _))
  have R2 := Lib.hid (R2.out.below K6.out (Nat.le_refl _))
  have R3 := Lib.hid (R3.out.below K6.out (Nat.le_refl _))
  have R4 := Lib.hid (R4.out.below K6.out (Nat.le_refl _))
  go_wp2_with fail
  refine (S1.out _ _ _ _ _ R1.out R2.out).mono ?_
  rintro e w7 ⟨rfl, K7⟩
  have K7 := Lib.hid K7
  have D7 : Hid (Below w.heap.size w w7) := D6.out.trans (K7.out.mono D6.out.size)
  have R1 := Lib.hid (R1.out.below K7.out (Nat.le_refl _))
  have R2 := Lib.hid (R2.out.below K7.out (Nat.le_refl _))
  have R3 := Lib.hid (R3.out.below K7.out (Nat.le_refl _))
  have R4 := Lib.hid (R4.out.below K7.out (Nat.le_refl _))
  go_wp2_with fail
  refine (S2.out _ _ _ _ _ R3.out R4.out).mono ?_
  rintro e w8 ⟨rfl, K8⟩
  have K8 := Lib.hid K8
  have D8 : Hid (Below w.heap.size w w8) := D7.out.trans (K8.out.mono D7.out.size)
  have R1 := Lib.hid (R1.out.below K8.out (Nat.le_refl _))
  have R2 := Lib.hid (R2.out.below K8.out (Nat.le_refl _))
  have R3 := Lib.hid (R3.out.below K8.out (Nat.le_refl _))
  have R4 := Lib.hid (R4.out.below K8.out (Nat.le_refl _))
  go_wp2_with fail
  refine (lives_any _).mono ?_
  rintro e w9 ⟨rfl, K9⟩
  have K9 := Lib.hid K9
  have D9 : Hid (Below w.heap.size w w9) := D8.out.trans (K9.out.mono D8.out.size)
  have R1 := Lib.hid (R1.out.below K9.out (Nat.le_refl _))
  have R2 := Lib.hid (R2.out.below K9.out (Nat.le_refl _))
  have R3 := Lib.hid (R3.out.below K9.out (Nat.le_refl _))
  have R4 := Lib.hid (R4.out.below K9.out (Nat.le_refl _))
  go_wp2
  go_ret
  exact ⟨rfl, D9.out⟩

set_option maxHeartbeats 4000000 in
set_option maxRecDepth 100000 in
theorem mult_walk (A B : Option Addr) (a b : List Int) (ca cb : Nat) (i j : Int) (w : World) (ia : In64 a) (ib : In64 b) (ra : ReadsV w A a) (rb : ReadsV w B b) (i1 : -9223372036854775808 ≤ i) (i2 : i ≤ 9223372036854775807) (j1 : -9223372036854775808 ≤ j) (j2 : j ≤ 9223372036854775807) :
    Calls Try.prog 4 #[.slice A a.length ca, .slice B b.length cb, .agg #[.int .i64 i, .int .i64 j]] w (BPost w.heap.size w true) := by
  by_cases hl : 100 < a.length
  · clear ra rb
    generalize a.length = n at *
    generalize b.length = m at *
    go_enter Try.func4, Try.ntmps4
    go_wp2_with fail
    refine (lives_any _).mono ?_
    rintro e w1 ⟨rfl, K⟩
    have K := Lib.hid K
    go_wp2
    go_ret
    exact ⟨rfl, via1 K.out⟩
  have hl : a.length ≤ 100 := by omega
  by_cases hm : 100 < b.length
  · clear ra rb
    generalize a.length = n at *
    generalize b.length = m at *
    go_enter Try.func4, Try.ntmps4
    go_wp2_with fail
    refine (lives_any _).mono ?_
    rintro e w1 ⟨rfl, K⟩
    have K := Lib.hid K
    go_wp2
    go_ret
    exact ⟨rfl, via1 K.out⟩
  have hm : b.length ≤ 100 := by omega
  have C1 : Hid (∀ W, Below w.heap.size w W → Calls Try.prog 19 #[.slice A a.length ca, .int .i64 i] W (VecPost W.heap.size W (sclV a i))) := fun W hW => scl_law A a ca i W ia (ra.below hW (Nat.le_refl _)) hl i1 i2
  have C2 : Hid (∀ W, Below w.heap.size w W → Calls Try.prog 20 #[.slice A a.length ca, .int .i64 i] W (VecPost W.heap.size W (sclV a i))) := fun W hW => rscl_law A a ca i W ia (ra.below hW (Nat.le_refl _)) hl i1 i2
  have C3 : Hid (∀ W, Below w.heap.size w W → Calls Try.prog 21 #[.slice A a.length ca, .int .i64 i, .slice B b.length cb, .int .i64 j] W (VecPost W.heap.size W (cmbV a i b j))) := fun W hW => cmb_law A B a b ca cb i j W ia ib (ra.below hW (Nat.le_refl _)) (rb.below hW (Nat.le_refl _)) hl i1 i2 j1 j2
  have C4 : Hid (∀ W, Below w.heap.size w W → Calls Try.prog 22 #[.slice A a.length ca, .int .i64 i, .slice B b.length cb, .int .i64 j] W (VecPost W.heap.size W (cmbV a i b j))) := fun W hW => rcmb_law A B a b ca cb i j W ia ib (ra.below hW (Nat.le_refl _)) (rb.below hW (Nat.le_refl _)) hl i1 i2 j1 j2
  have S1 : Hid (∀ W A1 A2 c1 c2, ReadsV W A1 (sclV a i).1 → ReadsV W A2 (sclV a i).1 → Calls Try.prog 18 #[.slice A1 (sclV a i).1.length c1, .slice A2 (sclV a i).1.length c2] W (BPost W.heap.size W true)) := fun W A1 A2 c1 c2 h1 h2 => same_law A1 A2 _ c1 c2 W h1 h2 (trF_small _ hl)
  have S2 : Hid (∀ W A1 A2 c1 c2, ReadsV W A1 (cmbV a i b j).1 → ReadsV W A2 (cmbV a i b j).1 → Calls Try.prog 18 #[.slice A1 (cmbV a i b j).1.length c1, .slice A2 (cmbV a i b j).1.length c2] W (BPost W.heap.size W true)) := fun W A1 A2 c1 c2 h1 h2 => same_law A1 A2 _ c1 c2 W h1 h2 (pairF_small _ hl)
  clear ra rb ia ib
  generalize sclV a i = P1 at *
  generalize cmbV a i b j = P2 at *
  generalize a.length = n at *
  generalize b.length = m at *
  have D0 : Hid (Below w.heap.size w (w.alloc (.cells #[.int .i64 i, .int .i64 j] 30))) := below1 _ _
  have E0 : Hid (Below (w.heap.size + 1) (w.alloc (.cells #[.int .i64 i, .int .i64 j] 30)) (w.alloc (.cells #[.int .i64 i, .int .i64 j] 30))) := Below.refl _ _
  have Q0 : Hid ((w.alloc (.cells #[.int .i64 i, .int .i64 j] 30)).cell? ⟨w.heap.size, 0, none⟩ = some (.int .i64 i)) := (World.cell?_alloc_new _ _ _ _).trans rfl
  have Q1 : Hid ((w.alloc (.cells #[.int .i64 i, .int .i64 j] 30)).cell? ⟨w.heap.size, 1, none⟩ = some (.int .i64 j)) := (World.cell?_alloc_new _ _ _ _).trans rfl
  go_enter Try.func4, Try.ntmps4
  go_wp2_with fail
  refine (C1.out _ D0.out).mono ?_
  rintro e w1 ⟨A1, c1, rfl, R1, K1⟩
  have R1 := Lib.hid R1
  have K1 := Lib.hid K1
  have D1 : Hid (Below w.heap.size w w1) := D0.out.trans (K1.out.mono D0.out.size)
  have E1 : Hid (Below (w.heap.size + 1) (w.alloc (.cells #[.int .i64 i, .int .i64 j] 30)) w1) := E0.out.trans (K1.out.mono (by have h := E0.out.size; first | exact h | (rw [World.size_alloc] at h; exact h) | (rw [World.size_alloc]; exact Nat.le_refl _)))
  have q1 : w1.cell? ⟨w.heap.size, 0, none⟩ = some (.int .i64 i) := (E1.out.cell (p := ⟨w.heap.size, 0, none⟩) (Nat.lt_succ_self _)).trans Q0.out
  have r1 : w1.cell? ⟨w.heap.size, 1, none⟩ = some (.int .i64 j) := (E1.out.cell (p := ⟨w.heap.size, 1, none⟩) (Nat.lt_succ_self _)).trans Q1.out
  go_wp2_with fail
  refine (C2.out _ D1.out).mono ?_
  rintro e w2 ⟨A2, c2, rfl, R2, K2⟩
  have R2 := Lib.hid R2
  have K2 := Lib.hid K2
  have D2 : Hid (Below w.heap.size w w2) := D1.out.trans (K2.out.mono D1.out.size)
  have R1 := Lib.hid (R1.out.below K2.out (Nat.le_refl _))
  have E2 : Hid (Below (w.heap.size + 1) (w.alloc (.cells #[.int .i64 i, .int .i64 j] 30)) w2) := E1.out.trans (K2.out.mono (by have h := E1.out.size; first | exact h | (rw [World.size_alloc] at h; exact h) | (rw [World.size_alloc]; exact Nat.le_refl _)))
  have q2 : w2.cell? ⟨w.heap.size, 0, none⟩ = some (.int .i64 i) := (E2.out.cell (p := ⟨w.heap.size, 0, none⟩) (Nat.lt_succ_self _)).trans Q0.out
  have r2 : w2.cell? ⟨w.heap.size, 1, none⟩ = some (.int .i64 j) := (E2.out.cell (p := ⟨w.heap.size, 1, none⟩) (Nat.lt_succ_self _)).trans Q1.out
  go_wp2_with fail
  refine (C3.out _ D2.out).mono ?_
  rintro e w3 ⟨A3, c3, rfl, R3, K3⟩
  have R3 := Lib.hid R3
  have K3 := Lib.hid K3
  have D3 : Hid (Below w.heap.size w w3) := D2.out.trans (K3.out.mono D2.out.size)
  have R1 := Lib.hid (R1.out.below K3.out (Nat.le_refl _))
  have R2 := Lib.hid (R2.out.below K3.out (Nat.le_refl _))
  have E3 : Hid (Below (w.heap.size + 1) (w.alloc (.cells #[.int .i64 i, .int .i64 j] 30)) w3) := E2.out.trans (K3.out.mono (by have h := E2.out.size; first | exact h | (rw [World.size_alloc] at h; exact h) | (rw [World.size_alloc]; exact Nat.le_refl _)))
  have q3 : w3.cell? ⟨w.heap.size, 0, none⟩ = some (.int .i64 i) := (E3.out.cell (p := ⟨w.heap.size, 0, none⟩) (Nat.lt_succ_self _)).trans Q0.out
  have r3 : w3.cell? ⟨w.heap.size, 1, none⟩ = some (.int .i64 j) := (E3.out.cell (p := ⟨w.heap.size, 1, none⟩) (Nat.lt_succ_self _)).trans Q1.out
  go_wp2_with fail
  refine (C4.out _ D3.out).mono ?_
  rintro e w4 ⟨A4, c4, rfl, R4, K4⟩
  have R4 := Lib.hid R4
  have K4 := Lib.hid K4
  have D4 : Hid (Below w.heap.size w w4) := D3.out.trans (K4.out.mono D3.out.size)
  have R1 := Lib.hid (R1.out.below K4.out (Nat.le_refl _))
  have R2 := Lib.hid (R2.out.below K4.out (Nat.le_refl _))
  have R3 := Lib.hid (R3.out.below K4.out (Nat.le_refl _))
  go_wp2_with fail
  refine (S1.out _ _ _ _ _ R1.out R2.out).mono ?_
  rintro e w5 ⟨rfl, K5⟩
  have K5 := Lib.hid K5
  have D5 : Hid (Below w.heap.size w w5) := D4.out.trans (K5.out.mono D4.out.size)
  have R1 := Lib.hid (R1.out.below K5.out (Nat.le_refl _))
  have R2 := Lib.hid (R2.out.below K5.out (Nat.le_refl _))
  have R3 := Lib.hid (R3.out.below K5.out (Nat.le_refl _))
  have R4 := Lib.hid (R4.out.below K5.out (Nat.le_refl _))
  go_wp2_with fail
  refine (S2.out _ _ _ _ _ R3.out R4.out).mono ?_
  rintro e w6 ⟨rfl, K6⟩
  have K6 := Lib.hid K6
  have D6 : Hid (Below w.heap.size w w6) := D5.out.trans (K6.out.mono D5.out.size)
  have R1 := Lib.hid (R1.out.below K6.out (Nat.le_refl _))
  have R2 := Lib.hid (R2.out.below K6.out (Nat.le_refl _))
  have R3 := Lib.hid (R3.out.below K6.out (Nat.le_refl _))
  have R4 := Lib.hid (R4.out.below K6.out (Nat.le_refl _))
  go_wp2_with fail
  refine (lives_any _).mono ?_
  rintro e w7 ⟨rfl, K7⟩
  have K7 := Lib.hid K7
  have D7 : Hid (Below w.heap.size w w7) := D6.out.trans (K7.out.mono D6.out.size)
  have R1 := Lib.hid (R1.out.below K7.out (Nat.le_refl _))
  have R2 := Lib.hid (R2.out.below K7.out (Nat.le_refl _))
  have R3 := Lib.hid (R3.out.below K7.out (Nat.le_refl _))
  have R4 := Lib.hid (R4.out.below K7.out (Nat.le_refl _))
  go_wp2
  go_ret
  exact ⟨rfl, D7.out⟩

set_option maxHeartbeats 4000000 in
set_option maxRecDepth 100000 in
theorem orders_walk (A B : Option Addr) (a b : List Int) (ca cb : Nat) (w : World) (ra : ReadsV w A a) (rb : ReadsV w B b) :
    Calls Try.prog 5 #[.slice A a.length ca, .slice B b.length cb] w (BPost w.heap.size w true) := by
  by_cases hl : 100 < a.length
  · clear ra rb
    generalize a.length = n at *
    generalize b.length = m at *
    go_enter Try.func5, Try.ntmps5
    go_wp2_with fail
    refine (lives_any _).mono ?_
    rintro e w1 ⟨rfl, K⟩
    have K := Lib.hid K
    go_wp2
    go_ret
    exact ⟨rfl, K.out⟩
  have hl : a.length ≤ 100 := by omega
  by_cases hm : 100 < b.length
  · clear ra rb
    generalize a.length = n at *
    generalize b.length = m at *
    go_enter Try.func5, Try.ntmps5
    go_wp2_with fail
    refine (lives_any _).mono ?_
    rintro e w1 ⟨rfl, K⟩
    have K := Lib.hid K
    go_wp2
    go_ret
    exact ⟨rfl, K.out⟩
  have hm : b.length ≤ 100 := by omega
  have C1 : Hid (∀ W, Below w.heap.size w W → Calls Try.prog 23 #[.slice A a.length ca, .slice B b.length cb] W (BPost W.heap.size W (leqV a b))) := fun W hW => leq_law A B a b ca cb W (ra.below hW (Nat.le_refl _)) (rb.below hW (Nat.le_refl _)) hl
  have C2 : Hid (∀ W, Below w.heap.size w W → Calls Try.prog 24 #[.slice A a.length ca, .slice B b.length cb] W (BPost W.heap.size W (leqV a b))) := fun W hW => rleq_law A B a b ca cb W (ra.below hW (Nat.le_refl _)) (rb.below hW (Nat.le_refl _)) hl
  have C3 : Hid (∀ W, Below w.heap.size w W → Calls Try.prog 25 #[.slice A a.length ca, .slice B b.length cb] W (IPost W.heap.size W (cmpL a b))) := fun W hW => cmp_law A B a b ca cb W (ra.below hW (Nat.le_refl _)) (rb.below hW (Nat.le_refl _)) hl hm
  have C4 : Hid (∀ W, Below w.heap.size w W → Calls Try.prog 26 #[.slice A a.length ca, .slice B b.length cb] W (IPost W.heap.size W (cmpL a b))) := fun W hW => rcmp_law A B a b ca cb W (ra.below hW (Nat.le_refl _)) (rb.below hW (Nat.le_refl _)) hl hm
  clear ra rb
  generalize leqV a b = P1 at *
  generalize cmpL a b = P2 at *
  generalize a.length = n at *
  generalize b.length = m at *
  have D0 : Hid (Below w.heap.size w w) := Below.refl _ _
  go_enter Try.func5, Try.ntmps5
  go_wp2_with fail
  refine (C1.out _ D0.out).mono ?_
  rintro e w1 ⟨rfl, K1⟩
  have K1 := Lib.hid K1
  have D1 : Hid (Below w.heap.size w w1) := D0.out.trans (K1.out.mono D0.out.size)
  go_wp2_with fail
  refine (C2.out _ D1.out).mono ?_
  rintro e w2 ⟨rfl, K2⟩
  have K2 := Lib.hid K2
  have D2 : Hid (Below w.heap.size w w2) := D1.out.trans (K2.out.mono D1.out.size)
  go_wp2_with fail
  refine (C3.out _ D2.out).mono ?_
  rintro e w3 ⟨rfl, K3⟩
  have K3 := Lib.hid K3
  have D3 : Hid (Below w.heap.size w w3) := D2.out.trans (K3.out.mono D2.out.size)
  go_wp2_with fail
  refine (C4.out _ D3.out).mono ?_
  rintro e w4 ⟨rfl, K4⟩
  have K4 := Lib.hid K4
  have D4 : Hid (Below w.heap.size w w4) := D3.out.trans (K4.out.mono D3.out.size)
  go_wp2_with fail
  refine (lives_any _).mono ?_
  rintro e w5 ⟨rfl, K5⟩
  have K5 := Lib.hid K5
  have D5 : Hid (Below w.heap.size w w5) := D4.out.trans (K5.out.mono D4.out.size)
  go_wp2
  go_ret
  exact ⟨rfl, D5.out⟩

set_option maxHeartbeats 4000000 in
set_option maxRecDepth 100000 in
theorem prims_walk (A : Option Addr) (a : List Int) (ca : Nat) (w : World) (ia : In64 a) (ra : ReadsV w A a) :
    Calls Try.prog 6 #[.slice A a.length ca] w (BPost w.heap.size w true) := by
  by_cases hl : 100 < a.length
  · clear ra
    generalize a.length = n at *
    go_enter Try.func6, Try.ntmps6
    go_wp2_with fail
    refine (lives_any _).mono ?_
    rintro e w1 ⟨rfl, K⟩
    have K := Lib.hid K
    go_wp2
    go_ret
    exact ⟨rfl, K.out⟩
  have hl : a.length ≤ 100 := by omega
  have C1 : Hid (∀ W, Below w.heap.size w W → Calls Try.prog 27 #[.slice A a.length ca] W (VecPost W.heap.size W (primV a))) := fun W hW => prim_law A a ca W ia (ra.below hW (Nat.le_refl _)) hl
  have C2 : Hid (∀ W, Below w.heap.size w W → Calls Try.prog 28 #[.slice A a.length ca] W (VecPost W.heap.size W (primV a))) := fun W hW => rprim_law A a ca W ia (ra.below hW (Nat.le_refl _)) hl
  have C3 : Hid (∀ W, Below w.heap.size w W → Calls Try.prog 30 #[.slice A a.length ca] W (IsPost W.heap.size W (sup a a.length))) := fun W hW => sup_law A a ca W (ra.below hW (Nat.le_refl _)) hl
  have C4 : Hid (∀ W, Below w.heap.size w W → Calls Try.prog 31 #[.slice A a.length ca] W (IsPost W.heap.size W (sup a a.length))) := fun W hW => rsup_law A a ca W (ra.below hW (Nat.le_refl _)) hl
  have S1 : Hid (∀ W A1 A2 c1 c2, ReadsV W A1 (primV a).1 → ReadsV W A2 (primV a).1 → Calls Try.prog 18 #[.slice A1 (primV a).1.length c1, .slice A2 (primV a).1.length c2] W (BPost W.heap.size W true)) := fun W A1 A2 c1 c2 h1 h2 => same_law A1 A2 _ c1 c2 W h1 h2 (primV_small hl)
  have S2 : Hid (∀ W A1 A2 c1 c2, ReadsV W A1 (sup a a.length) → ReadsV W A2 (sup a a.length) → Calls Try.prog 29 #[.slice A1 (sup a a.length).length c1, .slice A2 (sup a a.length).length c2] W (BPost W.heap.size W true)) := fun W A1 A2 c1 c2 h1 h2 => ints_law A1 A2 _ c1 c2 W h1 h2 (Nat.le_trans (sup_len _ _) hl)
  clear ra ia
  generalize primV a = P1 at *
  generalize sup a a.length = P2 at *
  generalize a.length = n at *
  have D0 : Hid (Below w.heap.size w w) := Below.refl _ _
  go_enter Try.func6, Try.ntmps6
  go_wp2_with fail
  refine (C1.out _ D0.out).mono ?_
  rintro e w1 ⟨A1, c1, rfl, R1, K1⟩
  have R1 := Lib.hid R1
  have K1 := Lib.hid K1
  have D1 : Hid (Below w.heap.size w w1) := D0.out.trans (K1.out.mono D0.out.size)
  go_wp2_with fail
  refine (C2.out _ D1.out).mono ?_
  rintro e w2 ⟨A2, c2, rfl, R2, K2⟩
  have R2 := Lib.hid R2
  have K2 := Lib.hid K2
  have D2 : Hid (Below w.heap.size w w2) := D1.out.trans (K2.out.mono D1.out.size)
  have R1 := Lib.hid (R1.out.below K2.out (Nat.le_refl _))
  go_wp2_with fail
  refine (S1.out _ _ _ _ _ R1.out R2.out).mono ?_
  rintro e w3 ⟨rfl, K3⟩
  have K3 := Lib.hid K3
  have D3 : Hid (Below w.heap.size w w3) := D2.out.trans (K3.out.mono D2.out.size)
  have R1 := Lib.hid (R1.out.below K3.out (Nat.le_refl _))
  have R2 := Lib.hid (R2.out.below K3.out (Nat.le_refl _))
  go_wp2_with fail
  refine (C3.out _ D3.out).mono ?_
  rintro e w4 ⟨A4, c4, rfl, R4, K4⟩
  have R4 := Lib.hid R4
  have K4 := Lib.hid K4
  have D4 : Hid (Below w.heap.size w w4) := D3.out.trans (K4.out.mono D3.out.size)
  have R1 := Lib.hid (R1.out.below K4.out (Nat.le_refl _))
  have R2 := Lib.hid (R2.out.below K4.out (Nat.le_refl _))
  go_wp2_with fail
  refine (C4.out _ D4.out).mono ?_
  rintro e w5 ⟨A5, c5, rfl, R5, K5⟩
  have R5 := Lib.hid R5
  have K5 := Lib.hid K5
  have D5 : Hid (Below w.heap.size w w5) := D4.out.trans (K5.out.mono D4.out.size)
  have R1 := Lib.hid (R1.out.below K5.out (Nat.le_refl _))
  have R2 := Lib.hid (R2.out.below K5.out (Nat.le_refl _))
  have R4 := Lib.hid (R4.out.below K5.out (Nat.le_refl _))
  go_wp2_with fail
  refine (S2.out _ _ _ _ _ R4.out R5.out).mono ?_
  rintro e w6 ⟨rfl, K6⟩
  have K6 := Lib.hid K6
  have D6 : Hid (Below w.heap.size w w6) := D5.out.trans (K6.out.mono D5.out.size)
  have R1 := Lib.hid (R1.out.below K6.out (Nat.le_refl _))
  have R2 := Lib.hid (R2.out.below K6.out (Nat.le_refl _))
  have R4 := Lib.hid (R4.out.below K6.out (Nat.le_refl _))
  have R5 := Lib.hid (R5.out.below K6.out (Nat.le_refl _))
  go_wp2_with fail
  refine (lives_any _).mono ?_
  rintro e w7 ⟨rfl, K7⟩
  have K7 := Lib.hid K7
  have D7 : Hid (Below w.heap.size w w7) := D6.out.trans (K7.out.mono D6.out.size)
  have R1 := Lib.hid (R1.out.below K7.out (Nat.le_refl _))
  have R2 := Lib.hid (R2.out.below K7.out (Nat.le_refl _))
  have R4 := Lib.hid (R4.out.below K7.out (Nat.le_refl _))
  have R5 := Lib.hid (R5.out.below K7.out (Nat.le_refl _))
  go_wp2
  go_ret
  exact ⟨rfl, D7.out⟩
end Go.Proofs.Ytcihdecfganohaa
