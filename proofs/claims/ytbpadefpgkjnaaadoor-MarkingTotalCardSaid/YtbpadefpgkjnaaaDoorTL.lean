/- The laws on the lattice and the total order. -/
import Derived.Test.YtbpadefpgkjnaaaDoorTY
import Derived.Deep.DeepCutAuto
namespace Go.Proofs.YtbpadefpgkjnaaaDoor
open Go.RowKit

theorem leqL_iff {a b : List Int} : leqL a b = true ↔ a.length = b.length ∧ ∀ k, k < a.length → at0 a k ≤ at0 b k := by
  unfold leqL
  rw [Bool.and_eq_true, allB_iff]
  simp
theorem leqL_refl (a : List Int) : leqL a a = true := leqL_iff.2 ⟨rfl, fun _ _ => Int.le_refl _⟩
theorem leqL_anti {a b : List Int} (h : leqL a b = true) (g : leqL b a = true) : sameL a b = true := by
  obtain ⟨h1, h2⟩ := leqL_iff.1 h
  obtain ⟨-, g2⟩ := leqL_iff.1 g
  exact sameL_iff.2 (list_ext h1 fun k hk => Int.le_antisymm (h2 k hk) (g2 k (by omega)))
theorem leqL_trans {a b c : List Int} (h : leqL a b = true) (g : leqL b c = true) : leqL a c = true := by
  obtain ⟨h1, h2⟩ := leqL_iff.1 h
  obtain ⟨g1, g2⟩ := leqL_iff.1 g
  exact leqL_iff.2 ⟨by omega, fun k hk => Int.le_trans (h2 k hk) (g2 k (by omega))⟩
theorem leqL_len {a b : List Int} (h : a.length ≠ b.length) : leqL a b = false := by
  cases e : leqL a b with
  | false => rfl
  | true => exact absurd (leqL_iff.1 e).1 h
theorem maxL_ne {a b : List Int} (h : a.length ≠ b.length) : maxL a b = [] := if_neg h
theorem minL_ne {a b : List Int} (h : a.length ≠ b.length) : minL a b = [] := if_neg h
theorem maxL_at {a b : List Int} (h : a.length = b.length) (k : Nat) (hk : k < a.length) : at0 (maxL a b) k = max (at0 a k) (at0 b k) := by
  unfold maxL
  rw [if_pos h, tab_at _ _ _ hk]
theorem minL_at {a b : List Int} (h : a.length = b.length) (k : Nat) (hk : k < a.length) : at0 (minL a b) k = min (at0 a k) (at0 b k) := by
  unfold minL
  rw [if_pos h, tab_at _ _ _ hk]
theorem maxL_l {a b : List Int} (h : a.length = b.length) : leqL a (maxL a b) = true := leqL_iff.2 ⟨by rw [maxL_len, if_pos h], fun k hk => by rw [maxL_at h k hk]; omega⟩
theorem maxL_r {a b : List Int} (h : a.length = b.length) : leqL b (maxL a b) = true := leqL_iff.2 ⟨by rw [maxL_len, if_pos h, h], fun k hk => by rw [maxL_at h k (by omega)]; omega⟩
theorem minL_l {a b : List Int} (h : a.length = b.length) : leqL (minL a b) a = true := leqL_iff.2 ⟨by rw [minL_len, if_pos h], fun k hk => by rw [minL_len, if_pos h] at hk; rw [minL_at h k hk]; omega⟩
theorem minL_r {a b : List Int} (h : a.length = b.length) : leqL (minL a b) b = true := leqL_iff.2 ⟨by rw [minL_len, if_pos h, h], fun k hk => by rw [minL_len, if_pos h] at hk; rw [minL_at h k hk]; omega⟩
theorem maxL_lub {a b c : List Int} (h : a.length = b.length) (h1 : leqL a c = true) (h2 : leqL b c = true) : leqL (maxL a b) c = true := by
  obtain ⟨e1, f1⟩ := leqL_iff.1 h1
  obtain ⟨e2, f2⟩ := leqL_iff.1 h2
  refine leqL_iff.2 ⟨by rw [maxL_len, if_pos h]; exact e1, fun k hk => ?_⟩
  rw [maxL_len, if_pos h] at hk
  have := f1 k hk
  have := f2 k (by omega)
  rw [maxL_at h k hk]; omega
theorem minL_glb {a b c : List Int} (h : a.length = b.length) (h1 : leqL c a = true) (h2 : leqL c b = true) : leqL c (minL a b) = true := by
  obtain ⟨e1, f1⟩ := leqL_iff.1 h1
  obtain ⟨e2, f2⟩ := leqL_iff.1 h2
  refine leqL_iff.2 ⟨by rw [minL_len, if_pos h]; exact e1, fun k hk => ?_⟩
  have := f1 k hk
  have := f2 k hk
  rw [minL_at h k (by omega)]; omega
theorem maxL_comm (a b : List Int) : maxL b a = maxL a b := by
  by_cases h : a.length = b.length
  · refine list_ext (by rw [maxL_len, maxL_len, if_pos h, if_pos h.symm, h]) fun k hk => ?_
    rw [maxL_len, if_pos h.symm] at hk
    rw [maxL_at h.symm k hk, maxL_at h k (by omega)]; omega
  · rw [maxL_ne h, maxL_ne (fun e => h e.symm)]
theorem minL_comm (a b : List Int) : minL b a = minL a b := by
  by_cases h : a.length = b.length
  · refine list_ext (by rw [minL_len, minL_len, if_pos h, if_pos h.symm, h]) fun k hk => ?_
    rw [minL_len, if_pos h.symm] at hk
    rw [minL_at h.symm k hk, minL_at h k (by omega)]; omega
  · rw [minL_ne h, minL_ne (fun e => h e.symm)]

set_option maxHeartbeats 4000000 in
set_option maxRecDepth 100000 in
theorem lattice_said (A B C : Option Addr) (a b c : List Int) (ca cb cc : Nat) (w : World) (ra : ReadsV w A a) (rb : ReadsV w B b) (rc : ReadsV w C c) (hl : a.length * 8 ≤ 140737488351232) (hm : b.length * 8 ≤ 140737488351232) (ho : c.length * 8 ≤ 140737488351232) (hL : LaidW w) :
    Calls Tryd.prog 8 #[.slice A a.length ca, .slice B b.length cb, .slice C c.length cc] w fun e w' => e = .returned (.bool true) ∧ Below w.heap.size w w' := by
  have RA := Lib.hid ra
  have RB := Lib.hid rb
  have RC := Lib.hid rc
  have Laa := Lib.hid (fun W (h : Below w.heap.size w W) => leq_law A A a a ca ca W (RA.out.below h (Nat.le_refl _)) (RA.out.below h (Nat.le_refl _)) hl)
  have Lab := Lib.hid (fun W (h : Below w.heap.size w W) => leq_law A B a b ca cb W (RA.out.below h (Nat.le_refl _)) (RB.out.below h (Nat.le_refl _)) hl)
  have Lba := Lib.hid (fun W (h : Below w.heap.size w W) => leq_law B A b a cb ca W (RB.out.below h (Nat.le_refl _)) (RA.out.below h (Nat.le_refl _)) hm)
  have Lbc := Lib.hid (fun W (h : Below w.heap.size w W) => leq_law B C b c cb cc W (RB.out.below h (Nat.le_refl _)) (RC.out.below h (Nat.le_refl _)) hm)
  have Lac := Lib.hid (fun W (h : Below w.heap.size w W) => leq_law A C a c ca cc W (RA.out.below h (Nat.le_refl _)) (RC.out.below h (Nat.le_refl _)) hl)
  have Lca := Lib.hid (fun W (h : Below w.heap.size w W) => leq_law C A c a cc ca W (RC.out.below h (Nat.le_refl _)) (RA.out.below h (Nat.le_refl _)) ho)
  have Lcb := Lib.hid (fun W (h : Below w.heap.size w W) => leq_law C B c b cc cb W (RC.out.below h (Nat.le_refl _)) (RB.out.below h (Nat.le_refl _)) ho)
  have SAB := Lib.hid (fun W (h : Below w.heap.size w W) => same_law A B a b ca cb W (RA.out.below h (Nat.le_refl _)) (RB.out.below h (Nat.le_refl _)) hl)
  have Cx := Lib.hid (fun W (h : Below w.heap.size w W) => max_law A B a b ca cb W (RA.out.below h (Nat.le_refl _)) (RB.out.below h (Nat.le_refl _)) hl)
  have Cn := Lib.hid (fun W (h : Below w.heap.size w W) => min_law A B a b ca cb W (RA.out.below h (Nat.le_refl _)) (RB.out.below h (Nat.le_refl _)) hl)
  have Cx2 := Lib.hid (fun W (h : Below w.heap.size w W) => max_law B A b a cb ca W (RB.out.below h (Nat.le_refl _)) (RA.out.below h (Nat.le_refl _)) hm)
  have Cn2 := Lib.hid (fun W (h : Below w.heap.size w W) => min_law B A b a cb ca W (RB.out.below h (Nat.le_refl _)) (RA.out.below h (Nat.le_refl _)) hm)
  rw [maxL_comm] at Cx2
  rw [minL_comm] at Cn2
  have Lau := Lib.hid (fun W A1 c1 (h : Below w.heap.size w W) (r : ReadsV W A1 (maxL a b)) => leq_law A A1 a (maxL a b) ca c1 W (RA.out.below h (Nat.le_refl _)) r hl)
  have Lbu := Lib.hid (fun W A1 c1 (h : Below w.heap.size w W) (r : ReadsV W A1 (maxL a b)) => leq_law B A1 b (maxL a b) cb c1 W (RB.out.below h (Nat.le_refl _)) r hm)
  have Lla := Lib.hid (fun W A1 c1 (h : Below w.heap.size w W) (r : ReadsV W A1 (minL a b)) => leq_law A1 A (minL a b) a c1 ca W r (RA.out.below h (Nat.le_refl _)) (len_min hl))
  have Llb := Lib.hid (fun W A1 c1 (h : Below w.heap.size w W) (r : ReadsV W A1 (minL a b)) => leq_law A1 B (minL a b) b c1 cb W r (RB.out.below h (Nat.le_refl _)) (len_min hl))
  have Luc := Lib.hid (fun W A1 c1 (h : Below w.heap.size w W) (r : ReadsV W A1 (maxL a b)) => leq_law A1 C (maxL a b) c c1 cc W r (RC.out.below h (Nat.le_refl _)) (len_max hl))
  have Lcl := Lib.hid (fun W A1 c1 (h : Below w.heap.size w W) (r : ReadsV W A1 (minL a b)) => leq_law C A1 c (minL a b) cc c1 W (RC.out.below h (Nat.le_refl _)) r ho)
  have S := Lib.hid (fun A1 c1 A2 c2 W (h1 : ReadsV W A1 (maxL a b)) (h2 : ReadsV W A2 (maxL a b)) => same_law A1 A2 (maxL a b) (maxL a b) c1 c2 W h1 h2 (len_max hl))
  rw [sameL_refl] at S
  have T := Lib.hid (fun A1 c1 A2 c2 W (h1 : ReadsV W A1 (minL a b)) (h2 : ReadsV W A2 (minL a b)) => same_law A1 A2 (minL a b) (minL a b) c1 c2 W h1 h2 (len_min hl))
  rw [sameL_refl] at T
  have CE := Lib.hid (fun W (h : Below w.heap.size w W) => alive_any W (hL.below h (Nat.le_refl _)))
  clear ra rb rc RA RB RC
  have Z : Hid (Below w.heap.size w w) := Below.refl _ _
  by_cases g1 : 30 < a.length
  · have h1 : (30 : Int) < (a.length : Int) := by omega
    replace CE := CE
    generalize a.length = N at *
    generalize b.length = M at *
    generalize c.length = O at *
    go_enter Tryd.func8, Tryd.ntmps8
    go_wp2_with fail
    refine (CE.out w Z.out).mono ?_
    rintro e w1 ⟨rfl, K1⟩
    have B1 : Hid (Below w.heap.size w w1) := Z.out.trans (K1.mono Z.out.size)
    clear K1
    go_wp2
    go_ret
    exact ⟨rfl, B1.out⟩
  · by_cases g2 : 30 < b.length
    · have h1 : ¬ (30 : Int) < (a.length : Int) := by omega
      have h2 : (30 : Int) < (b.length : Int) := by omega
      generalize a.length = N at *
      generalize b.length = M at *
      generalize c.length = O at *
      go_enter Tryd.func8, Tryd.ntmps8
      go_wp2_with fail
      refine (CE.out w Z.out).mono ?_
      rintro e w1 ⟨rfl, K1⟩
      have B1 : Hid (Below w.heap.size w w1) := Z.out.trans (K1.mono Z.out.size)
      clear K1
      go_wp2
      go_ret
      exact ⟨rfl, B1.out⟩
    · by_cases g3 : 30 < c.length
      · have h1 : ¬ (30 : Int) < (a.length : Int) := by omega
        have h2 : ¬ (30 : Int) < (b.length : Int) := by omega
        have h3 : (30 : Int) < (c.length : Int) := by omega
        generalize a.length = N at *
        generalize b.length = M at *
        generalize c.length = O at *
        go_enter Tryd.func8, Tryd.ntmps8
        go_wp2_with fail
        refine (CE.out w Z.out).mono ?_
        rintro e w1 ⟨rfl, K1⟩
        have B1 : Hid (Below w.heap.size w w1) := Z.out.trans (K1.mono Z.out.size)
        clear K1
        go_wp2
        go_ret
        exact ⟨rfl, B1.out⟩
      · have h1 : ¬ (30 : Int) < (a.length : Int) := by omega
        have h2 : ¬ (30 : Int) < (b.length : Int) := by omega
        have h3 : ¬ (30 : Int) < (c.length : Int) := by omega
        clear g1 g2 g3
        rw [leqL_refl] at Laa
        replace hL := Lib.hid hL
        go_enter Tryd.func8, Tryd.ntmps8
        go_upto_region 3 with fail
        go_cut [58] (fun s58 wx => s58 = .bool false ∧ Hid (Below w.heap.size w wx))
        case first =>
          go_wp2_with fail
          refine (Laa.out w Z.out).mono ?_
          rintro e w1 ⟨rfl, K1⟩
          have B1 : Hid (Below w.heap.size w w1) := Z.out.trans (K1.mono Z.out.size)
          clear K1
          by_cases hp : leqL a b = true
          · rw [hp] at Lab
            replace hp := Lib.hid hp
            go_wp2_with fail
            refine (Lab.out w1 B1.out).mono ?_
            rintro e w2 ⟨rfl, K2⟩
            have B2 : Hid (Below w.heap.size w w2) := B1.out.trans (K2.mono B1.out.size)
            clear K2
            by_cases hq : leqL b a = true
            · rw [hq] at Lba
              replace hq := Lib.hid hq
              rw [leqL_anti hp.out hq.out] at SAB
              go_wp2_with fail
              refine (Lba.out w2 B2.out).mono ?_
              rintro e w3 ⟨rfl, K3⟩
              have B3 : Hid (Below w.heap.size w w3) := B2.out.trans (K3.mono B2.out.size)
              clear K3
              go_wp2_with fail
              refine (SAB.out w3 B3.out).mono ?_
              rintro e w4 ⟨rfl, K4⟩
              have B4 : Hid (Below w.heap.size w w4) := B3.out.trans (K4.mono B3.out.size)
              clear K4
              go_wp2_with fail
              refine (Lab.out w4 B4.out).mono ?_
              rintro e w5 ⟨rfl, K5⟩
              have B5 : Hid (Below w.heap.size w w5) := B4.out.trans (K5.mono B4.out.size)
              clear K5
              by_cases hr : leqL b c = true
              · rw [hr] at Lbc
                replace hr := Lib.hid hr
                rw [leqL_trans hp.out hr.out] at Lac
                go_wp2_with fail
                refine (Lbc.out w5 B5.out).mono ?_
                rintro e w6 ⟨rfl, K6⟩
                have B6 : Hid (Below w.heap.size w w6) := B5.out.trans (K6.mono B5.out.size)
                clear K6
                go_wp2_with fail
                refine (Lac.out w6 B6.out).mono ?_
                rintro e w7 ⟨rfl, K7⟩
                have B7 : Hid (Below w.heap.size w w7) := B6.out.trans (K7.mono B6.out.size)
                clear K7
                go_wp2_with fail
                go_meet
                exact ⟨rfl, B7.out⟩
              · replace hr : leqL b c = false := by simpa using hr
                rw [hr] at Lbc
                replace hr := Lib.hid hr
                go_wp2_with fail
                refine (Lbc.out w5 B5.out).mono ?_
                rintro e w6 ⟨rfl, K6⟩
                have B6 : Hid (Below w.heap.size w w6) := B5.out.trans (K6.mono B5.out.size)
                clear K6
                go_wp2_with fail
                go_meet
                exact ⟨rfl, B6.out⟩
            · replace hq : leqL b a = false := by simpa using hq
              rw [hq] at Lba
              replace hq := Lib.hid hq
              go_wp2_with fail
              refine (Lba.out w2 B2.out).mono ?_
              rintro e w3 ⟨rfl, K3⟩
              have B3 : Hid (Below w.heap.size w w3) := B2.out.trans (K3.mono B2.out.size)
              clear K3
              go_wp2_with fail
              refine (Lab.out w3 B3.out).mono ?_
              rintro e w4 ⟨rfl, K4⟩
              have B4 : Hid (Below w.heap.size w w4) := B3.out.trans (K4.mono B3.out.size)
              clear K4
              by_cases hr : leqL b c = true
              · rw [hr] at Lbc
                replace hr := Lib.hid hr
                rw [leqL_trans hp.out hr.out] at Lac
                go_wp2_with fail
                refine (Lbc.out w4 B4.out).mono ?_
                rintro e w5 ⟨rfl, K5⟩
                have B5 : Hid (Below w.heap.size w w5) := B4.out.trans (K5.mono B4.out.size)
                clear K5
                go_wp2_with fail
                refine (Lac.out w5 B5.out).mono ?_
                rintro e w6 ⟨rfl, K6⟩
                have B6 : Hid (Below w.heap.size w w6) := B5.out.trans (K6.mono B5.out.size)
                clear K6
                go_wp2_with fail
                go_meet
                exact ⟨rfl, B6.out⟩
              · replace hr : leqL b c = false := by simpa using hr
                rw [hr] at Lbc
                replace hr := Lib.hid hr
                go_wp2_with fail
                refine (Lbc.out w4 B4.out).mono ?_
                rintro e w5 ⟨rfl, K5⟩
                have B5 : Hid (Below w.heap.size w w5) := B4.out.trans (K5.mono B4.out.size)
                clear K5
                go_wp2_with fail
                go_meet
                exact ⟨rfl, B5.out⟩
          · replace hp : leqL a b = false := by simpa using hp
            rw [hp] at Lab
            replace hp := Lib.hid hp
            go_wp2_with fail
            refine (Lab.out w1 B1.out).mono ?_
            rintro e w2 ⟨rfl, K2⟩
            have B2 : Hid (Below w.heap.size w w2) := B1.out.trans (K2.mono B1.out.size)
            clear K2
            go_wp2_with fail
            refine (Lab.out w2 B2.out).mono ?_
            rintro e w3 ⟨rfl, K3⟩
            have B3 : Hid (Below w.heap.size w w3) := B2.out.trans (K3.mono B2.out.size)
            clear K3
            go_wp2_with fail
            go_meet
            exact ⟨rfl, B3.out⟩
        case rest =>
          obtain ⟨v0, rfl⟩ : ∃ v, v = wc := ⟨_, rfl⟩
          obtain ⟨rfl, B0⟩ := hcut
          replace B0 := Lib.hid B0.out
          by_cases he : a.length = b.length
          · have hx : ((a.length : Int) != (b.length : Int)) = false := by simp; omega
            rw [maxL_l he] at Lau
            rw [maxL_r he] at Lbu
            rw [minL_l he] at Lla
            rw [minL_r he] at Llb
            replace he := Lib.hid he
            go_wp2_with fail
            refine (Cx.out v0 B0.out).mono ?_
            rintro e w1 ⟨A1, c1, rfl, R1, K1⟩
            have B1 : Hid (Below w.heap.size w w1) := B0.out.trans (K1.mono B0.out.size)
            replace R1 := Lib.hid R1
            clear K1
            go_wp2_with fail
            refine (Cn.out w1 B1.out).mono ?_
            rintro e w2 ⟨A2, c2, rfl, R2, K2⟩
            have B2 : Hid (Below w.heap.size w w2) := B1.out.trans (K2.mono B1.out.size)
            replace R1 : Hid (ReadsV w2 A1 (maxL a b)) := R1.out.below K2 (Nat.le_refl _)
            replace R2 := Lib.hid R2
            clear K2
            go_wp2_with fail
            refine (Lau.out w2 A1 c1 B2.out R1.out).mono ?_
            rintro e w3 ⟨rfl, K3⟩
            have B3 : Hid (Below w.heap.size w w3) := B2.out.trans (K3.mono B2.out.size)
            replace R1 : Hid (ReadsV w3 A1 (maxL a b)) := R1.out.below K3 (Nat.le_refl _)
            replace R2 : Hid (ReadsV w3 A2 (minL a b)) := R2.out.below K3 (Nat.le_refl _)
            clear K3
            go_wp2_with fail
            refine (Lbu.out w3 A1 c1 B3.out R1.out).mono ?_
            rintro e w4 ⟨rfl, K4⟩
            have B4 : Hid (Below w.heap.size w w4) := B3.out.trans (K4.mono B3.out.size)
            replace R1 : Hid (ReadsV w4 A1 (maxL a b)) := R1.out.below K4 (Nat.le_refl _)
            replace R2 : Hid (ReadsV w4 A2 (minL a b)) := R2.out.below K4 (Nat.le_refl _)
            clear K4
            go_wp2_with fail
            refine (Lla.out w4 A2 c2 B4.out R2.out).mono ?_
            rintro e w5 ⟨rfl, K5⟩
            have B5 : Hid (Below w.heap.size w w5) := B4.out.trans (K5.mono B4.out.size)
            replace R1 : Hid (ReadsV w5 A1 (maxL a b)) := R1.out.below K5 (Nat.le_refl _)
            replace R2 : Hid (ReadsV w5 A2 (minL a b)) := R2.out.below K5 (Nat.le_refl _)
            clear K5
            go_wp2_with fail
            refine (Llb.out w5 A2 c2 B5.out R2.out).mono ?_
            rintro e w6 ⟨rfl, K6⟩
            have B6 : Hid (Below w.heap.size w w6) := B5.out.trans (K6.mono B5.out.size)
            replace R1 : Hid (ReadsV w6 A1 (maxL a b)) := R1.out.below K6 (Nat.le_refl _)
            replace R2 : Hid (ReadsV w6 A2 (minL a b)) := R2.out.below K6 (Nat.le_refl _)
            clear K6
            go_upto_region 10 with fail
            go_cut [142] (fun s142 wx => s142 = .bool false ∧ Hid (Below w.heap.size w wx) ∧ Hid (ReadsV wx A1 (maxL a b)) ∧ Hid (ReadsV wx A2 (minL a b)))
            case first =>
              by_cases hs : leqL a c = true
              · rw [hs] at Lac
                replace hs := Lib.hid hs
                by_cases hr : leqL b c = true
                · rw [hr] at Lbc
                  replace hr := Lib.hid hr
                  rw [maxL_lub he.out hs.out hr.out] at Luc
                  go_wp2_with fail
                  refine (Lac.out w6 B6.out).mono ?_
                  rintro e w7 ⟨rfl, K7⟩
                  have B7 : Hid (Below w.heap.size w w7) := B6.out.trans (K7.mono B6.out.size)
                  replace R1 : Hid (ReadsV w7 A1 (maxL a b)) := R1.out.below K7 (Nat.le_refl _)
                  replace R2 : Hid (ReadsV w7 A2 (minL a b)) := R2.out.below K7 (Nat.le_refl _)
                  clear K7
                  go_wp2_with fail
                  refine (Lbc.out w7 B7.out).mono ?_
                  rintro e w8 ⟨rfl, K8⟩
                  have B8 : Hid (Below w.heap.size w w8) := B7.out.trans (K8.mono B7.out.size)
                  replace R1 : Hid (ReadsV w8 A1 (maxL a b)) := R1.out.below K8 (Nat.le_refl _)
                  replace R2 : Hid (ReadsV w8 A2 (minL a b)) := R2.out.below K8 (Nat.le_refl _)
                  clear K8
                  go_wp2_with fail
                  refine (Luc.out w8 A1 c1 B8.out R1.out).mono ?_
                  rintro e w9 ⟨rfl, K9⟩
                  have B9 : Hid (Below w.heap.size w w9) := B8.out.trans (K9.mono B8.out.size)
                  replace R1 : Hid (ReadsV w9 A1 (maxL a b)) := R1.out.below K9 (Nat.le_refl _)
                  replace R2 : Hid (ReadsV w9 A2 (minL a b)) := R2.out.below K9 (Nat.le_refl _)
                  clear K9
                  by_cases ht : leqL c a = true
                  · rw [ht] at Lca
                    replace ht := Lib.hid ht
                    by_cases hv : leqL c b = true
                    · rw [hv] at Lcb
                      replace hv := Lib.hid hv
                      rw [minL_glb he.out ht.out hv.out] at Lcl
                      go_wp2_with fail
                      refine (Lca.out w9 B9.out).mono ?_
                      rintro e w10 ⟨rfl, K10⟩
                      have B10 : Hid (Below w.heap.size w w10) := B9.out.trans (K10.mono B9.out.size)
                      replace R1 : Hid (ReadsV w10 A1 (maxL a b)) := R1.out.below K10 (Nat.le_refl _)
                      replace R2 : Hid (ReadsV w10 A2 (minL a b)) := R2.out.below K10 (Nat.le_refl _)
                      clear K10
                      go_wp2_with fail
                      refine (Lcb.out w10 B10.out).mono ?_
                      rintro e w11 ⟨rfl, K11⟩
                      have B11 : Hid (Below w.heap.size w w11) := B10.out.trans (K11.mono B10.out.size)
                      replace R1 : Hid (ReadsV w11 A1 (maxL a b)) := R1.out.below K11 (Nat.le_refl _)
                      replace R2 : Hid (ReadsV w11 A2 (minL a b)) := R2.out.below K11 (Nat.le_refl _)
                      clear K11
                      go_wp2_with fail
                      refine (Lcl.out w11 A2 c2 B11.out R2.out).mono ?_
                      rintro e w12 ⟨rfl, K12⟩
                      have B12 : Hid (Below w.heap.size w w12) := B11.out.trans (K12.mono B11.out.size)
                      replace R1 : Hid (ReadsV w12 A1 (maxL a b)) := R1.out.below K12 (Nat.le_refl _)
                      replace R2 : Hid (ReadsV w12 A2 (minL a b)) := R2.out.below K12 (Nat.le_refl _)
                      clear K12
                      go_wp2_with fail
                      go_meet
                      exact ⟨rfl, B12.out, R1.out, R2.out⟩
                    · replace hv : leqL c b = false := by simpa using hv
                      rw [hv] at Lcb
                      replace hv := Lib.hid hv
                      go_wp2_with fail
                      refine (Lca.out w9 B9.out).mono ?_
                      rintro e w10 ⟨rfl, K10⟩
                      have B10 : Hid (Below w.heap.size w w10) := B9.out.trans (K10.mono B9.out.size)
                      replace R1 : Hid (ReadsV w10 A1 (maxL a b)) := R1.out.below K10 (Nat.le_refl _)
                      replace R2 : Hid (ReadsV w10 A2 (minL a b)) := R2.out.below K10 (Nat.le_refl _)
                      clear K10
                      go_wp2_with fail
                      refine (Lcb.out w10 B10.out).mono ?_
                      rintro e w11 ⟨rfl, K11⟩
                      have B11 : Hid (Below w.heap.size w w11) := B10.out.trans (K11.mono B10.out.size)
                      replace R1 : Hid (ReadsV w11 A1 (maxL a b)) := R1.out.below K11 (Nat.le_refl _)
                      replace R2 : Hid (ReadsV w11 A2 (minL a b)) := R2.out.below K11 (Nat.le_refl _)
                      clear K11
                      go_wp2_with fail
                      go_meet
                      exact ⟨rfl, B11.out, R1.out, R2.out⟩
                  · replace ht : leqL c a = false := by simpa using ht
                    rw [ht] at Lca
                    replace ht := Lib.hid ht
                    go_wp2_with fail
                    refine (Lca.out w9 B9.out).mono ?_
                    rintro e w10 ⟨rfl, K10⟩
                    have B10 : Hid (Below w.heap.size w w10) := B9.out.trans (K10.mono B9.out.size)
                    replace R1 : Hid (ReadsV w10 A1 (maxL a b)) := R1.out.below K10 (Nat.le_refl _)
                    replace R2 : Hid (ReadsV w10 A2 (minL a b)) := R2.out.below K10 (Nat.le_refl _)
                    clear K10
                    go_wp2_with fail
                    go_meet
                    exact ⟨rfl, B10.out, R1.out, R2.out⟩
                · replace hr : leqL b c = false := by simpa using hr
                  rw [hr] at Lbc
                  replace hr := Lib.hid hr
                  go_wp2_with fail
                  refine (Lac.out w6 B6.out).mono ?_
                  rintro e w7 ⟨rfl, K7⟩
                  have B7 : Hid (Below w.heap.size w w7) := B6.out.trans (K7.mono B6.out.size)
                  replace R1 : Hid (ReadsV w7 A1 (maxL a b)) := R1.out.below K7 (Nat.le_refl _)
                  replace R2 : Hid (ReadsV w7 A2 (minL a b)) := R2.out.below K7 (Nat.le_refl _)
                  clear K7
                  go_wp2_with fail
                  refine (Lbc.out w7 B7.out).mono ?_
                  rintro e w8 ⟨rfl, K8⟩
                  have B8 : Hid (Below w.heap.size w w8) := B7.out.trans (K8.mono B7.out.size)
                  replace R1 : Hid (ReadsV w8 A1 (maxL a b)) := R1.out.below K8 (Nat.le_refl _)
                  replace R2 : Hid (ReadsV w8 A2 (minL a b)) := R2.out.below K8 (Nat.le_refl _)
                  clear K8
                  by_cases ht : leqL c a = true
                  · rw [ht] at Lca
                    replace ht := Lib.hid ht
                    by_cases hv : leqL c b = true
                    · rw [hv] at Lcb
                      replace hv := Lib.hid hv
                      rw [minL_glb he.out ht.out hv.out] at Lcl
                      go_wp2_with fail
                      refine (Lca.out w8 B8.out).mono ?_
                      rintro e w9 ⟨rfl, K9⟩
                      have B9 : Hid (Below w.heap.size w w9) := B8.out.trans (K9.mono B8.out.size)
                      replace R1 : Hid (ReadsV w9 A1 (maxL a b)) := R1.out.below K9 (Nat.le_refl _)
                      replace R2 : Hid (ReadsV w9 A2 (minL a b)) := R2.out.below K9 (Nat.le_refl _)
                      clear K9
                      go_wp2_with fail
                      refine (Lcb.out w9 B9.out).mono ?_
                      rintro e w10 ⟨rfl, K10⟩
                      have B10 : Hid (Below w.heap.size w w10) := B9.out.trans (K10.mono B9.out.size)
                      replace R1 : Hid (ReadsV w10 A1 (maxL a b)) := R1.out.below K10 (Nat.le_refl _)
                      replace R2 : Hid (ReadsV w10 A2 (minL a b)) := R2.out.below K10 (Nat.le_refl _)
                      clear K10
                      go_wp2_with fail
                      refine (Lcl.out w10 A2 c2 B10.out R2.out).mono ?_
                      rintro e w11 ⟨rfl, K11⟩
                      have B11 : Hid (Below w.heap.size w w11) := B10.out.trans (K11.mono B10.out.size)
                      replace R1 : Hid (ReadsV w11 A1 (maxL a b)) := R1.out.below K11 (Nat.le_refl _)
                      replace R2 : Hid (ReadsV w11 A2 (minL a b)) := R2.out.below K11 (Nat.le_refl _)
                      clear K11
                      go_wp2_with fail
                      go_meet
                      exact ⟨rfl, B11.out, R1.out, R2.out⟩
                    · replace hv : leqL c b = false := by simpa using hv
                      rw [hv] at Lcb
                      replace hv := Lib.hid hv
                      go_wp2_with fail
                      refine (Lca.out w8 B8.out).mono ?_
                      rintro e w9 ⟨rfl, K9⟩
                      have B9 : Hid (Below w.heap.size w w9) := B8.out.trans (K9.mono B8.out.size)
                      replace R1 : Hid (ReadsV w9 A1 (maxL a b)) := R1.out.below K9 (Nat.le_refl _)
                      replace R2 : Hid (ReadsV w9 A2 (minL a b)) := R2.out.below K9 (Nat.le_refl _)
                      clear K9
                      go_wp2_with fail
                      refine (Lcb.out w9 B9.out).mono ?_
                      rintro e w10 ⟨rfl, K10⟩
                      have B10 : Hid (Below w.heap.size w w10) := B9.out.trans (K10.mono B9.out.size)
                      replace R1 : Hid (ReadsV w10 A1 (maxL a b)) := R1.out.below K10 (Nat.le_refl _)
                      replace R2 : Hid (ReadsV w10 A2 (minL a b)) := R2.out.below K10 (Nat.le_refl _)
                      clear K10
                      go_wp2_with fail
                      go_meet
                      exact ⟨rfl, B10.out, R1.out, R2.out⟩
                  · replace ht : leqL c a = false := by simpa using ht
                    rw [ht] at Lca
                    replace ht := Lib.hid ht
                    go_wp2_with fail
                    refine (Lca.out w8 B8.out).mono ?_
                    rintro e w9 ⟨rfl, K9⟩
                    have B9 : Hid (Below w.heap.size w w9) := B8.out.trans (K9.mono B8.out.size)
                    replace R1 : Hid (ReadsV w9 A1 (maxL a b)) := R1.out.below K9 (Nat.le_refl _)
                    replace R2 : Hid (ReadsV w9 A2 (minL a b)) := R2.out.below K9 (Nat.le_refl _)
                    clear K9
                    go_wp2_with fail
                    go_meet
                    exact ⟨rfl, B9.out, R1.out, R2.out⟩
              · replace hs : leqL a c = false := by simpa using hs
                rw [hs] at Lac
                replace hs := Lib.hid hs
                go_wp2_with fail
                refine (Lac.out w6 B6.out).mono ?_
                rintro e w7 ⟨rfl, K7⟩
                have B7 : Hid (Below w.heap.size w w7) := B6.out.trans (K7.mono B6.out.size)
                replace R1 : Hid (ReadsV w7 A1 (maxL a b)) := R1.out.below K7 (Nat.le_refl _)
                replace R2 : Hid (ReadsV w7 A2 (minL a b)) := R2.out.below K7 (Nat.le_refl _)
                clear K7
                by_cases ht : leqL c a = true
                · rw [ht] at Lca
                  replace ht := Lib.hid ht
                  by_cases hv : leqL c b = true
                  · rw [hv] at Lcb
                    replace hv := Lib.hid hv
                    rw [minL_glb he.out ht.out hv.out] at Lcl
                    go_wp2_with fail
                    refine (Lca.out w7 B7.out).mono ?_
                    rintro e w8 ⟨rfl, K8⟩
                    have B8 : Hid (Below w.heap.size w w8) := B7.out.trans (K8.mono B7.out.size)
                    replace R1 : Hid (ReadsV w8 A1 (maxL a b)) := R1.out.below K8 (Nat.le_refl _)
                    replace R2 : Hid (ReadsV w8 A2 (minL a b)) := R2.out.below K8 (Nat.le_refl _)
                    clear K8
                    go_wp2_with fail
                    refine (Lcb.out w8 B8.out).mono ?_
                    rintro e w9 ⟨rfl, K9⟩
                    have B9 : Hid (Below w.heap.size w w9) := B8.out.trans (K9.mono B8.out.size)
                    replace R1 : Hid (ReadsV w9 A1 (maxL a b)) := R1.out.below K9 (Nat.le_refl _)
                    replace R2 : Hid (ReadsV w9 A2 (minL a b)) := R2.out.below K9 (Nat.le_refl _)
                    clear K9
                    go_wp2_with fail
                    refine (Lcl.out w9 A2 c2 B9.out R2.out).mono ?_
                    rintro e w10 ⟨rfl, K10⟩
                    have B10 : Hid (Below w.heap.size w w10) := B9.out.trans (K10.mono B9.out.size)
                    replace R1 : Hid (ReadsV w10 A1 (maxL a b)) := R1.out.below K10 (Nat.le_refl _)
                    replace R2 : Hid (ReadsV w10 A2 (minL a b)) := R2.out.below K10 (Nat.le_refl _)
                    clear K10
                    go_wp2_with fail
                    go_meet
                    exact ⟨rfl, B10.out, R1.out, R2.out⟩
                  · replace hv : leqL c b = false := by simpa using hv
                    rw [hv] at Lcb
                    replace hv := Lib.hid hv
                    go_wp2_with fail
                    refine (Lca.out w7 B7.out).mono ?_
                    rintro e w8 ⟨rfl, K8⟩
                    have B8 : Hid (Below w.heap.size w w8) := B7.out.trans (K8.mono B7.out.size)
                    replace R1 : Hid (ReadsV w8 A1 (maxL a b)) := R1.out.below K8 (Nat.le_refl _)
                    replace R2 : Hid (ReadsV w8 A2 (minL a b)) := R2.out.below K8 (Nat.le_refl _)
                    clear K8
                    go_wp2_with fail
                    refine (Lcb.out w8 B8.out).mono ?_
                    rintro e w9 ⟨rfl, K9⟩
                    have B9 : Hid (Below w.heap.size w w9) := B8.out.trans (K9.mono B8.out.size)
                    replace R1 : Hid (ReadsV w9 A1 (maxL a b)) := R1.out.below K9 (Nat.le_refl _)
                    replace R2 : Hid (ReadsV w9 A2 (minL a b)) := R2.out.below K9 (Nat.le_refl _)
                    clear K9
                    go_wp2_with fail
                    go_meet
                    exact ⟨rfl, B9.out, R1.out, R2.out⟩
                · replace ht : leqL c a = false := by simpa using ht
                  rw [ht] at Lca
                  replace ht := Lib.hid ht
                  go_wp2_with fail
                  refine (Lca.out w7 B7.out).mono ?_
                  rintro e w8 ⟨rfl, K8⟩
                  have B8 : Hid (Below w.heap.size w w8) := B7.out.trans (K8.mono B7.out.size)
                  replace R1 : Hid (ReadsV w8 A1 (maxL a b)) := R1.out.below K8 (Nat.le_refl _)
                  replace R2 : Hid (ReadsV w8 A2 (minL a b)) := R2.out.below K8 (Nat.le_refl _)
                  clear K8
                  go_wp2_with fail
                  go_meet
                  exact ⟨rfl, B8.out, R1.out, R2.out⟩
            case rest =>
              obtain ⟨v1, rfl⟩ : ∃ v, v = wc := ⟨_, rfl⟩
              obtain ⟨rfl, B9, R1, R2⟩ := hcut
              replace B9 := Lib.hid B9.out
              replace R1 := Lib.hid R1.out
              replace R2 := Lib.hid R2.out
              go_wp2_with fail
              refine (Cx2.out v1 B9.out).mono ?_
              rintro e w11 ⟨A11, c11, rfl, R11, K11⟩
              have B11 : Hid (Below w.heap.size w w11) := B9.out.trans (K11.mono B9.out.size)
              replace R1 : Hid (ReadsV w11 A1 (maxL a b)) := R1.out.below K11 (Nat.le_refl _)
              replace R2 : Hid (ReadsV w11 A2 (minL a b)) := R2.out.below K11 (Nat.le_refl _)
              replace R11 := Lib.hid R11
              clear K11
              go_wp2_with fail
              refine (S.out A1 c1 A11 c11 w11 R1.out R11.out).mono ?_
              rintro e w12 ⟨rfl, K12⟩
              have B12 : Hid (Below w.heap.size w w12) := B11.out.trans (K12.mono B11.out.size)
              replace R1 : Hid (ReadsV w12 A1 (maxL a b)) := R1.out.below K12 (Nat.le_refl _)
              replace R2 : Hid (ReadsV w12 A2 (minL a b)) := R2.out.below K12 (Nat.le_refl _)
              replace R11 : Hid (ReadsV w12 A11 (maxL a b)) := R11.out.below K12 (Nat.le_refl _)
              clear K12
              clear R11
              clear R1
              go_wp2_with fail
              refine (Cn2.out w12 B12.out).mono ?_
              rintro e w13 ⟨A13, c13, rfl, R13, K13⟩
              have B13 : Hid (Below w.heap.size w w13) := B12.out.trans (K13.mono B12.out.size)
              replace R2 : Hid (ReadsV w13 A2 (minL a b)) := R2.out.below K13 (Nat.le_refl _)
              replace R13 := Lib.hid R13
              clear K13
              go_wp2_with fail
              refine (T.out A2 c2 A13 c13 w13 R2.out R13.out).mono ?_
              rintro e w14 ⟨rfl, K14⟩
              have B14 : Hid (Below w.heap.size w w14) := B13.out.trans (K14.mono B13.out.size)
              replace R2 : Hid (ReadsV w14 A2 (minL a b)) := R2.out.below K14 (Nat.le_refl _)
              replace R13 : Hid (ReadsV w14 A13 (minL a b)) := R13.out.below K14 (Nat.le_refl _)
              clear K14
              clear R13
              clear R2
              go_wp2_with fail
              refine (CE.out w14 B14.out).mono ?_
              rintro e w15 ⟨rfl, K15⟩
              have B15 : Hid (Below w.heap.size w w15) := B14.out.trans (K15.mono B14.out.size)
              clear K15
              go_wp2
              go_ret
              exact ⟨rfl, B15.out⟩
          · have hx : ((a.length : Int) != (b.length : Int)) = true := by simp; omega
            rw [leqL_len he] at Lab
            rw [maxL_ne he] at Cx
            rw [minL_ne he] at Cn
            go_wp2_with fail
            refine (Lab.out v0 B0.out).mono ?_
            rintro e w1 ⟨rfl, K1⟩
            have B1 : Hid (Below w.heap.size w w1) := B0.out.trans (K1.mono B0.out.size)
            clear K1
            go_wp2_with fail
            refine (Cx.out w1 B1.out).mono ?_
            rintro e w2 ⟨A2, c2, rfl, -, K2⟩
            have B2 : Hid (Below w.heap.size w w2) := B1.out.trans (K2.mono B1.out.size)
            clear K2
            go_wp2_with fail
            refine (Cn.out w2 B2.out).mono ?_
            rintro e w3 ⟨A3, c3, rfl, -, K3⟩
            have B3 : Hid (Below w.heap.size w w3) := B2.out.trans (K3.mono B2.out.size)
            clear K3
            go_wp2_with fail
            refine (CE.out w3 B3.out).mono ?_
            rintro e w4 ⟨rfl, K4⟩
            have B4 : Hid (Below w.heap.size w w4) := B3.out.trans (K4.mono B3.out.size)
            clear K4
            go_wp2
            go_ret
            exact ⟨rfl, B4.out⟩

end Go.Proofs.YtbpadefpgkjnaaaDoor
