/- The law: siphons stay empty, traps stay marked. -/
import Derived.Test.YtjibpkaanaphcaaDoorMK
import Derived.Test.YtjibpkaanaphcaaDoorS
namespace Go.Proofs.YtjibpkaanaphcaaDoor
open Go.RowKit

theorem empty_unmarked {n : NetV} {m : List Int} {s : Nat} (hs : s < 18446744073709551616) (hm : m.length ≤ 24) : markB (maxG n true (s &&& emS m m.length)) m = false := by
  have hE : s &&& emS m m.length < 18446744073709551616 := Bt.and_lt hs
  cases e : markB (maxG n true (s &&& emS m m.length)) m
  · rfl
  · exfalso
    obtain ⟨i, hi, ha⟩ := (mark_iff (max_lt hE)).1 e
    unfold maxG at hi
    split at hi
    · have h1 := (grS_is (n := n) (b := true) (within_lt n hE)).sub i hi
      unfold withinS at h1
      rw [Nat.testBit_and, Nat.testBit_and, Bool.and_eq_true, Bool.and_eq_true, emS_bit _ _ (by omega), decide_eq_true_eq] at h1
      omega
    · simp at hi
theorem ini_len {n : NetV} : (initialN n).length ≤ 24 := by
  unfold initialN
  split
  · rename_i h
    rw [tab_len]
    exact (okN_parts h).2.2.1
  · exact Nat.zero_le _
theorem fire_len {n : NetV} {m : List Int} {t : Int} (h : fireE n m t = 0) : (fireL n m t).length ≤ 24 := by
  obtain ⟨hg, _, _, _, e, _⟩ := fire_parts h
  rw [e]
  unfold aftL
  rw [tab_len]
  unfold goodN at hg
  rw [Bool.and_eq_true] at hg
  exact (okN_parts hg.1).2.2.1

set_option maxHeartbeats 32000000 in
set_option maxRecDepth 100000 in
theorem stays_law (n : NetV) (s : Nat) (Q : Option Addr) (seq : List Int) (sc : Nat) (w : World) (hr : NetW w n) (hs' : s < 18446744073709551616) (hq : ReadsV w Q seq) (hql : seq.length ≤ maxLen) (hT : Bt.Tab w) :
    Calls Tryd.prog 4 #[.agg #[.string n.nm, .slice n.PA n.ps.length n.pc, .slice n.TA n.ts.length n.tc], .int .u64 (s : Nat), .slice Q seq.length sc] w fun e w' => e = .returned (.bool true) ∧ Below w.heap.size w w' := by
  have CS : Hid (∀ W, Below w.heap.size w W → Calls Tryd.prog 8 #[.agg #[.string n.nm, .slice n.PA n.ps.length n.pc, .slice n.TA n.ts.length n.tc]] W (SmallPost W.heap.size W n)) := fun W hW => small_any n W (hr.below hW (Nat.le_refl _))
  have CX : Hid (∀ W, Calls Tryd.prog 7 #[] W (VPost W.heap.size W (.bool true))) := example_any
  have B0 : Hid (Below w.heap.size w (w.alloc (.cells #[.string n.nm, .slice n.PA n.ps.length n.pc, .slice n.TA n.ts.length n.tc] 29))) := (Below.refl _ _).alloc (Nat.le_refl _) _
  cases hs : smallN n
  · have CS2 : Hid (∀ W, Below w.heap.size w W → Calls Tryd.prog 8 #[.agg #[.string n.nm, .slice n.PA n.ps.length n.pc, .slice n.TA n.ts.length n.tc]] W (fun e w' => e = .returned (.tuple #[.agg #[.string ⟨#[]⟩, .slice none 0 0, .slice none 0 0], .bool false]) ∧ Below W.heap.size W w')) := fun W hW => (CS.out W hW).mono fun e w' h => by
      unfold SmallPost at h
      rw [hs, if_neg (by simp)] at h
      exact h
    clear CS hs hs' hq hql hT
    go_enter Tryd.func4, Tryd.ntmps4
    go_wp2_with fail
    refine (CS2.out _ B0.out).mono ?_
    rintro e x1 ⟨rfl, K⟩
    have Dx1 := Lib.hid (B0.out.trans (K.mono B0.out.size))
    clear K
    have Dx1a := Lib.hid (Dx1.out.alloc Dx1.out.size (.cells #[.string ⟨#[]⟩, .slice none 0 0, .slice none 0 0] 29))
    go_wp2_with fail
    refine (CX.out _).mono ?_
    rintro e x2 ⟨rfl, K⟩
    have Dx2 := Lib.hid (Dx1a.out.trans (K.mono Dx1a.out.size))
    clear K
    go_wp2
    go_ret
    exact ⟨rfl, Dx2.out⟩
  · have CS2 : Hid (∀ W, Below w.heap.size w W → Calls Tryd.prog 8 #[.agg #[.string n.nm, .slice n.PA n.ps.length n.pc, .slice n.TA n.ts.length n.tc]] W (fun e w' => e = .returned (.tuple #[.agg #[.string n.nm, .slice n.PA n.ps.length n.pc, .slice n.TA n.ts.length n.tc], .bool true]) ∧ Below W.heap.size W w')) := fun W hW => (CS.out W hW).mono fun e w' h => by
      unfold SmallPost at h
      rw [hs, if_pos rfl] at h
      exact h
    have hr0 := small_ok hr hs
    have CP : Hid (∀ W, Below w.heap.size w W → Calls Tryd.prog 9 #[.agg #[.string n.nm, .slice n.PA n.ps.length n.pc, .slice n.TA n.ts.length n.tc]] W (VPost W.heap.size W (.bool (plainN n)))) := fun W hW => rplainN_any n W (hr0.below hW (Nat.le_refl _))
    cases hp : plainN n
    · rw [hp] at CP
      clear CS hs hr hr0 hs' hq hql hT hp
      go_enter Tryd.func4, Tryd.ntmps4
      go_wp2_with fail
      refine (CS2.out _ B0.out).mono ?_
      rintro e x1 ⟨rfl, K⟩
      have Dx1 := Lib.hid (B0.out.trans (K.mono B0.out.size))
      clear K
      have q0 : (x1.alloc (.cells #[.string n.nm, .slice n.PA n.ps.length n.pc, .slice n.TA n.ts.length n.tc] 29)).cell? ⟨x1.heap.size, 0, none⟩ = some (.string n.nm) := by simp
      have q1 : (x1.alloc (.cells #[.string n.nm, .slice n.PA n.ps.length n.pc, .slice n.TA n.ts.length n.tc] 29)).cell? ⟨x1.heap.size, 1, none⟩ = some (.slice n.PA n.ps.length n.pc) := by simp
      have q2 : (x1.alloc (.cells #[.string n.nm, .slice n.PA n.ps.length n.pc, .slice n.TA n.ts.length n.tc] 29)).cell? ⟨x1.heap.size, 2, none⟩ = some (.slice n.TA n.ts.length n.tc) := by simp
      have Dx1a := Lib.hid (Dx1.out.alloc Dx1.out.size (.cells #[.string n.nm, .slice n.PA n.ps.length n.pc, .slice n.TA n.ts.length n.tc] 29))
      go_wp2_with fail
      refine (CP.out _ Dx1a.out).mono ?_
      rintro e x2 ⟨rfl, K⟩
      have q0 := keepc q0 K
      have q1 := keepc q1 K
      have q2 := keepc q2 K
      have Dx2 := Lib.hid (Dx1a.out.trans (K.mono Dx1a.out.size))
      clear K
      go_wp2_with fail
      refine (CX.out _).mono ?_
      rintro e x3 ⟨rfl, K⟩
      have q0 := keepc q0 K
      have q1 := keepc q1 K
      have q2 := keepc q2 K
      have Dx3 := Lib.hid (Dx2.out.trans (K.mono Dx2.out.size))
      clear K
      go_wp2
      go_ret
      exact ⟨rfl, Dx3.out⟩
    rw [hp] at CP
    by_cases h60 : 60 < seq.length
    · have z60 : decide (60 < seq.length) = true := decide_eq_true h60
      clear CS hs hr hr0 hs' hq hql hT hp
      go_enter Tryd.func4, Tryd.ntmps4
      go_wp2_with fail
      refine (CS2.out _ B0.out).mono ?_
      rintro e x1 ⟨rfl, K⟩
      have Dx1 := Lib.hid (B0.out.trans (K.mono B0.out.size))
      clear K
      have q0 : (x1.alloc (.cells #[.string n.nm, .slice n.PA n.ps.length n.pc, .slice n.TA n.ts.length n.tc] 29)).cell? ⟨x1.heap.size, 0, none⟩ = some (.string n.nm) := by simp
      have q1 : (x1.alloc (.cells #[.string n.nm, .slice n.PA n.ps.length n.pc, .slice n.TA n.ts.length n.tc] 29)).cell? ⟨x1.heap.size, 1, none⟩ = some (.slice n.PA n.ps.length n.pc) := by simp
      have q2 : (x1.alloc (.cells #[.string n.nm, .slice n.PA n.ps.length n.pc, .slice n.TA n.ts.length n.tc] 29)).cell? ⟨x1.heap.size, 2, none⟩ = some (.slice n.TA n.ts.length n.tc) := by simp
      have Dx1a := Lib.hid (Dx1.out.alloc Dx1.out.size (.cells #[.string n.nm, .slice n.PA n.ps.length n.pc, .slice n.TA n.ts.length n.tc] 29))
      go_wp2_with fail
      refine (CP.out _ Dx1a.out).mono ?_
      rintro e x2 ⟨rfl, K⟩
      have q0 := keepc q0 K
      have q1 := keepc q1 K
      have q2 := keepc q2 K
      have Dx2 := Lib.hid (Dx1a.out.trans (K.mono Dx1a.out.size))
      clear K
      go_wp2_with fail
      refine (CX.out _).mono ?_
      rintro e x3 ⟨rfl, K⟩
      have q0 := keepc q0 K
      have q1 := keepc q1 K
      have q2 := keepc q2 K
      have Dx3 := Lib.hid (Dx2.out.trans (K.mono Dx2.out.size))
      clear K
      go_wp2
      go_ret
      exact ⟨rfl, Dx3.out⟩
    have z60 : decide (60 < seq.length) = false := decide_eq_false h60
    have hok := (plain_parts hp).1
    have hml : (initialN n).length ≤ 24 := ini_len
    have hE : s &&& emS (initialN n) (initialN n).length < 18446744073709551616 := Bt.and_lt hs'
    have hsv : maxG n true (s &&& emS (initialN n) (initialN n).length) < 18446744073709551616 := max_lt hE
    have htv : maxG n false s < 18446744073709551616 := max_lt hs'
    have HS0 := Lib.hid (empty_unmarked (n := n) hs' hml)
    have HS1 : Hid (∀ m t, markB (maxG n true (s &&& emS (initialN n) (initialN n).length)) m = false → fireE n m t = 0 → markB (maxG n true (s &&& emS (initialN n) (initialN n).length)) (fireL n m t) = false) := fun m t h1 h2 => siphon_stays hsv (sip_max hE hok) h1 h2
    have HT1 : Hid (∀ m t, markB (maxG n false s) m = true → fireE n m t = 0 → markB (maxG n false s) (fireL n m t) = true) := fun m t h1 h2 => trap_stays htv (sip_max hs' hok) h1 h2
    have HL : Hid (∀ m t, fireE n m t = 0 → (fireL n m t).length ≤ 24) := fun m t h => fire_len h
    have CI : Hid (∀ W, Below w.heap.size w W → Calls Tryd.prog 10 #[.agg #[.string n.nm, .slice n.PA n.ps.length n.pc, .slice n.TA n.ts.length n.tc]] W (IsPost W.heap.size W (initialN n))) := fun W hW => rinitialN_any n W (hr0.below hW (Nat.le_refl _))
    have C1 : Hid (∀ W, Below w.heap.size w W → Calls Tryd.prog 12 #[.agg #[.string n.nm, .slice n.PA n.ps.length n.pc, .slice n.TA n.ts.length n.tc], .int .u64 ((s &&& emS (initialN n) (initialN n).length : Nat) : Int)] W (VPost W.heap.size W (.int .u64 (maxG n true (s &&& emS (initialN n) (initialN n).length) : Nat)))) := fun W hW => maxSiphon_any n _ W (hr0.below hW (Nat.le_refl _)) hE
    have C2 : Hid (∀ W, Below w.heap.size w W → Calls Tryd.prog 13 #[.agg #[.string n.nm, .slice n.PA n.ps.length n.pc, .slice n.TA n.ts.length n.tc], .int .u64 (s : Nat)] W (VPost W.heap.size W (.int .u64 (maxG n false s : Nat)))) := fun W hW => maxTrap_any n _ W (hr0.below hW (Nat.le_refl _)) hs'
    have CO : Hid (∀ W, Below w.heap.size w W → Calls Tryd.prog 14 #[.agg #[.string n.nm, .slice n.PA n.ps.length n.pc, .slice n.TA n.ts.length n.tc]] W (VPost W.heap.size W (.bool (ordinaryN n)))) := fun W hW => rordinaryN_any n W (hr0.below hW (Nat.le_refl _))
    have CW : Hid (∀ W (s k : Nat), s < 18446744073709551616 → Calls Tryd.prog 11 #[.int .u64 (s : Nat), .int .i64 k] W (fun e w' => e = .returned (.int .u64 (Bt.withV s k : Nat)) ∧ W = w')) := fun W s k h => Bt.rwith_any s k W h
    have CK : Hid (∀ W (x : Nat) A m c, Below w.heap.size w W → ReadsV W A m → m.length ≤ 24 → x < 18446744073709551616 → Calls Tryd.prog 5 #[.int .u64 (x : Nat), .slice A m.length c] W (VPost W.heap.size W (.bool (markB x m)))) := fun W x A m c hW hm hl hx => marked_any x A m c W hm (by omega) hx (tab_keep hT hW)
    have CF : Hid (∀ W A m c t, Below w.heap.size w W → ReadsV W A m → m.length ≤ 24 → Calls Tryd.prog 15 #[.agg #[.string n.nm, .slice n.PA n.ps.length n.pc, .slice n.TA n.ts.length n.tc], .slice A m.length c, .int .i64 t] W (PairPost W.heap.size W (fireL n m t) (.int .i64 (fireE n m t)))) := fun W A m c t hW hm hl => rFire_any n A m c t W (hr0.below hW (Nat.le_refl _)) hm (by omega)
    have KA : bits .and .u64 (s : Int) ((emS (initialN n) (initialN n).length : Nat) : Int) = ((s &&& emS (initialN n) (initialN n).length : Nat) : Int) := bits_and_nat s _ hs' (emS_lt _ _)
    have ES1 : Hid (∀ k, at0 (initialN n) k = 0 → emS (initialN n) (k + 1) = Bt.withV (emS (initialN n) k) (k : Int)) := fun k h => by rw [emS, if_pos h]
    have ES0 : Hid (∀ k, at0 (initialN n) k ≠ 0 → emS (initialN n) (k + 1) = emS (initialN n) k) := fun k h => by rw [emS, if_neg h]
    have EL : Hid (∀ k, emS (initialN n) k < 18446744073709551616) := emS_lt (initialN n)
    have E0 : emS (initialN n) 0 = 0 := rfl
    have HQ := Lib.hid hq
    clear CS hs hr hr0 hp hok hq hT hE
    generalize maxG n true (s &&& emS (initialN n) (initialN n).length) = sv at *
    generalize maxG n false s = tv at *
    generalize s &&& emS (initialN n) (initialN n).length = sE at *
    generalize emS (initialN n) = es at *
    generalize initialN n = m0 at *
    generalize fireE n = fe at *
    generalize fireL n = fl at *
    generalize ordinaryN n = oB at *
    cases oB
    · clear HT1
      go_enter Tryd.func4, Tryd.ntmps4
      go_wp2_with fail
      refine (CS2.out _ B0.out).mono ?_
      rintro e x1 ⟨rfl, K⟩
      have Dx1 := Lib.hid (B0.out.trans (K.mono B0.out.size))
      clear K
      have q0 : (x1.alloc (.cells #[.string n.nm, .slice n.PA n.ps.length n.pc, .slice n.TA n.ts.length n.tc] 29)).cell? ⟨x1.heap.size, 0, none⟩ = some (.string n.nm) := by simp
      have q1 : (x1.alloc (.cells #[.string n.nm, .slice n.PA n.ps.length n.pc, .slice n.TA n.ts.length n.tc] 29)).cell? ⟨x1.heap.size, 1, none⟩ = some (.slice n.PA n.ps.length n.pc) := by simp
      have q2 : (x1.alloc (.cells #[.string n.nm, .slice n.PA n.ps.length n.pc, .slice n.TA n.ts.length n.tc] 29)).cell? ⟨x1.heap.size, 2, none⟩ = some (.slice n.TA n.ts.length n.tc) := by simp
      have Dx1a := Lib.hid (Dx1.out.alloc Dx1.out.size (.cells #[.string n.nm, .slice n.PA n.ps.length n.pc, .slice n.TA n.ts.length n.tc] 29))
      go_wp2_with fail
      refine (CP.out _ Dx1a.out).mono ?_
      rintro e x2 ⟨rfl, K⟩
      have q0 := keepc q0 K
      have q1 := keepc q1 K
      have q2 := keepc q2 K
      have Dx2 := Lib.hid (Dx1a.out.trans (K.mono Dx1a.out.size))
      clear K
      go_wp2_with fail
      refine (CI.out _ Dx2.out).mono ?_
      rintro e x3 ⟨A0, c0, rfl, R0, K⟩
      have R0 := Lib.hid R0
      have q0 := keepc q0 K
      have q1 := keepc q1 K
      have q2 := keepc q2 K
      have Dx3 := Lib.hid (Dx2.out.trans (K.mono Dx2.out.size))
      clear K
      go_wp2_with fail
      go_loopw [10, 11] (fun p q ws => ∃ j : Nat, j ≤ m0.length ∧ q = .int .i64 j ∧ p = .int .u64 (es j : Nat) ∧ Hid (Below x3.heap.size x3 ws)) (fun _ q _ => m0.length - (intOf q).toNat)
      case atStart => exact ⟨0, by omega, rfl, by rw [E0]; rfl, Below.refl _ _⟩
      case round =>
        obtain ⟨j, hj, rfl, rfl, BJ⟩ := hrel
        have k0 := keepc q0 BJ.out
        have k1 := keepc q1 BJ.out
        have k2 := keepc q2 BJ.out
        have BG := Lib.hid (Dx3.out.trans (BJ.out.mono Dx3.out.size))
        have R0 := Lib.hid (R0.out.below BJ.out (Nat.le_refl _))
        clear q0 q1 q2
        by_cases hlt2 : j < m0.length
        · obtain ⟨ba, oa, e1, hx⟩ := at_of_reads R0.out j hlt2
          subst e1
          have S1 := ES1.out j
          have S0 := ES0.out j
          have hes := EL.out j
          generalize at0 m0 j = x at *
          by_cases h0 : x = 0
          · subst h0
            have T1 := S1 rfl
            clear S1 S0
            go_wp2_with fail
            refine (CW.out _ _ _ hes).mono ?_
            rintro e x5 ⟨rfl, rfl⟩
            go_wp2_with fail
            (try go_wp2)
            go_roundw
            case rel => exact ⟨j + 1, by omega, by go_num, by rw [T1], by first | exact BJ | exact below_drewN BJ.out _⟩
            case measure => simp [intOf]; omega
          · have z0 : (x == 0) = false := by simpa using h0
            have T0 := S0 h0
            clear S0 S1
            go_wp2_with fail
            (try go_wp2)
            go_roundw
            case rel => exact ⟨j + 1, by omega, by go_num, by rw [T0], by first | exact BJ | exact below_drewN BJ.out _⟩
            case measure => simp [intOf]; omega
        · obtain rfl : j = m0.length := by omega
          clear ES1 ES0 EL E0 CW
          go_wp2_with fail
          refine (C1.out _ BG.out).mono ?_
          rintro e x4 ⟨rfl, K⟩
          have k0 := keepc k0 K
          have k1 := keepc k1 K
          have k2 := keepc k2 K
          have R0 := Lib.hid (R0.out.below K (Nat.le_refl _))
          have Dx4 := Lib.hid (BG.out.trans (K.mono BG.out.size))
          clear K
          go_wp2_with fail
          refine (C2.out _ Dx4.out).mono ?_
          rintro e x5 ⟨rfl, K⟩
          have k0 := keepc k0 K
          have k1 := keepc k1 K
          have k2 := keepc k2 K
          have R0 := Lib.hid (R0.out.below K (Nat.le_refl _))
          have Dx5 := Lib.hid (Dx4.out.trans (K.mono Dx4.out.size))
          clear K
          go_wp2_with fail
          refine (CO.out _ Dx5.out).mono ?_
          rintro e x6 ⟨rfl, K⟩
          have k0 := keepc k0 K
          have k1 := keepc k1 K
          have k2 := keepc k2 K
          have R0 := Lib.hid (R0.out.below K (Nat.le_refl _))
          have Dx6 := Lib.hid (Dx5.out.trans (K.mono Dx5.out.size))
          clear K
          go_wp2_with fail
          go_loopw [9, 15] (fun p q ws => ∃ (k : Nat) (A : Option Addr) (m : List Int) (c : Nat), k ≤ seq.length ∧ q = .int .i64 k ∧ p = .slice A m.length c ∧ m.length ≤ 24 ∧ Hid (ReadsV ws A m) ∧ Hid (markB sv m = false) ∧ Hid (Below x6.heap.size x6 ws)) (fun _ q _ => seq.length - (intOf q).toNat)
          case atStart => exact ⟨0, A0, m0, c0, by omega, rfl, rfl, hml, R0, HS0, Below.refl _ _⟩
          case round =>
            obtain ⟨k, A, m, c, hk, rfl, rfl, hm24, HM, HN, BJ⟩ := hrel
            have y0 := keepc k0 BJ.out
            have y1 := keepc k1 BJ.out
            have y2 := keepc k2 BJ.out
            have BG := Lib.hid (Dx6.out.trans (BJ.out.mono Dx6.out.size))
            clear k0 k1 k2
            by_cases hlt : k < seq.length
            · obtain ⟨bq, oq, e1, hx⟩ := at_of_reads (HQ.out.below BG.out (Nat.le_refl _)) k hlt
              subst e1
              generalize at0 seq k = t at *
              have CFk := Lib.hid (fun W A c => CF.out W A m c t)
              have H1 := Lib.hid (HS1.out m t HN.out)
              have H3 := Lib.hid (HL.out m t)
              by_cases hf : fe m t = 0
              · have z0 : (fe m t != 0) = false := by simpa using hf
                have G1 := Lib.hid (H1.out hf)
                have G3 := H3.out hf
                clear H1 H3
                generalize fe m t = ee at *
                generalize fl m t = L2 at *
                subst hf
                go_upto_region 17 with fail
                refine wp_region_held_drew (S := fun w' => w'.cell? ⟨x1.heap.size, 0, none⟩ = some (.string n.nm) ∧ w'.cell? ⟨x1.heap.size, 1, none⟩ = some (.slice n.PA n.ps.length n.pc) ∧ w'.cell? ⟨x1.heap.size, 2, none⟩ = some (.slice n.TA n.ts.length n.tc) ∧ w'.cell? ⟨bq, oq + k, none⟩ = some (.int .i64 t) ∧ Hid (ReadsV w' A m) ∧ Hid (Below w.heap.size w w') ∧ Hid (Below x6.heap.size x6 w')) (by kernel_rfl) ?_ (fun hHeld => ?_)
                · exact ⟨y0, y1, y2, hx, HM.out.below (below_drewN (Below.refl _ _) 1) (Nat.le_refl _), BG.out.drew, BJ.out.drew⟩
                refine wpAnyH_take (oi := ⟨_, _, _, _, _, _⟩) (i := 0) (v := ?_) rfl (by kernel_rfl) (by kernel_rfl) (by kernel_rfl) (fun _ _ _ h => h) (Or.inl ⟨by rfl, ?yau0⟩) (by assumption) ?rau0
                case yau0 => (intro w hSw; (try dsimp only at hSw); go_simp; (try with_reducible rfl))
                try simp only [Act.put, List.setIfInBounds_toArray, List.set_cons_zero, List.set_cons_succ]
                refine wpAnyH_take (oi := ⟨_, _, _, _, _, _⟩) (i := 1) (v := ?_) rfl (by kernel_rfl) (by kernel_rfl) (by kernel_rfl) (fun _ _ _ h => h) (Or.inl ⟨by rfl, ?yau1⟩) (by assumption) ?rau1
                case yau1 => (intro w hSw; (try dsimp only at hSw); go_simp; (try with_reducible rfl))
                try simp only [Act.put, List.setIfInBounds_toArray, List.set_cons_zero, List.set_cons_succ]
                refine wpAnyH_take (oi := ⟨_, _, _, _, _, _⟩) (i := 2) (v := ?_) rfl (by kernel_rfl) (by kernel_rfl) (by kernel_rfl) (fun _ _ _ h => h) (Or.inl ⟨by rfl, ?yau2⟩) (by assumption) ?rau2
                case yau2 => (intro w hSw; (try dsimp only at hSw); go_simp; (try with_reducible rfl))
                try simp only [Act.put, List.setIfInBounds_toArray, List.set_cons_zero, List.set_cons_succ]
                refine wpAnyH_take (oi := ⟨_, _, _, _, _, _⟩) (i := 3) (v := ?_) rfl (by kernel_rfl) (by kernel_rfl) (by kernel_rfl) (fun _ _ _ h => h) (Or.inl ⟨by rfl, ?yau3⟩) (by assumption) ?rau3
                case yau3 => (intro w hSw; (try dsimp only at hSw); go_simp; (try with_reducible rfl))
                try simp only [Act.put, List.setIfInBounds_toArray, List.set_cons_zero, List.set_cons_succ]
                refine wpAnyH_take (oi := ⟨_, _, _, _, _, _⟩) (i := 4) (v := ?_) rfl (by kernel_rfl) (by kernel_rfl) (by kernel_rfl) (fun _ _ _ h => h) (Or.inl ⟨by rfl, ?yau4⟩) (by assumption) ?rau4
                case yau4 => (intro w hSw; (try dsimp only at hSw); go_simp; (try with_reducible rfl))
                try simp only [Act.put, List.setIfInBounds_toArray, List.set_cons_zero, List.set_cons_succ]
                refine wpAnyH_take (oi := ⟨_, _, _, _, _, _⟩) (i := 5) (v := ?_) rfl (by kernel_rfl) (by kernel_rfl) (by kernel_rfl) (fun _ _ _ h => h) (Or.inl ⟨by rfl, ?yau5⟩) (by assumption) ?rau5
                case yau5 => (intro w hSw; (try dsimp only at hSw); go_simp; (try with_reducible rfl))
                try simp only [Act.put, List.setIfInBounds_toArray, List.set_cons_zero, List.set_cons_succ]
                refine wpAnyH_ready (rs := [6]) (by kernel_rfl) (by simp) ?_
                refine AllReadyH.cons (o := ⟨_, _, _, _, _, _⟩) rfl (fun K hK => ?_) AllReadyH.nil
                go_simp
                go_at_call 15; refine (CFk.out _ A c hHeld.2.2.2.2.2.1.out hHeld.2.2.2.2.1.out hm24).mono ?_; rintro e w4 ⟨A2, c2, rfl, R2, K⟩; have R2 := Lib.hid R2; (try go_wp2_with fail)
                refine hK.out _ _ ?_ (fun hHeld2 => ?_)
                · exact ⟨keepc hHeld.1 K, keepc hHeld.2.1 K, keepc hHeld.2.2.1 K, keepc hHeld.2.2.2.1 K, hHeld.2.2.2.2.1.out.below K (Nat.le_refl _), hHeld.2.2.2.2.2.1.out.trans (K.mono hHeld.2.2.2.2.2.1.out.size), hHeld.2.2.2.2.2.2.out.trans (K.mono hHeld.2.2.2.2.2.2.out.size)⟩
                clear hK K hHeld
                have hHeld := hHeld2
                clear hHeld2
                try simp only [Act.put, List.setIfInBounds_toArray, List.set_cons_zero, List.set_cons_succ]
                refine wpAnyH_take (oi := ⟨_, _, _, _, _, _⟩) (i := 7) (v := ?_) rfl (by kernel_rfl) (by kernel_rfl) (by kernel_rfl) (fun _ _ _ h => h) (Or.inl ⟨by rfl, ?yau7⟩) (by assumption) ?rau7
                case yau7 => (intro w hSw; (try dsimp only at hSw); go_simp; (try with_reducible rfl))
                try simp only [Act.put, List.setIfInBounds_toArray, List.set_cons_zero, List.set_cons_succ]
                refine wpAnyH_take (oi := ⟨_, _, _, _, _, _⟩) (i := 8) (v := ?_) rfl (by kernel_rfl) (by kernel_rfl) (by kernel_rfl) (fun _ _ _ h => h) (Or.inl ⟨by rfl, ?yau8⟩) (by assumption) ?rau8
                case yau8 => (intro w hSw; (try dsimp only at hSw); go_simp; (try with_reducible rfl))
                try simp only [Act.put, List.setIfInBounds_toArray, List.set_cons_zero, List.set_cons_succ]
                refine wpAnyH_take (oi := ⟨_, _, _, _, _, _⟩) (i := 9) (v := ?_) rfl (by kernel_rfl) (by kernel_rfl) (by kernel_rfl) (fun _ _ _ h => h) (Or.inl ⟨by rfl, ?yau9⟩) (by assumption) ?rau9
                case yau9 => (intro w hSw; (try dsimp only at hSw); go_simp; (try with_reducible rfl))
                try simp only [Act.put, List.setIfInBounds_toArray, List.set_cons_zero, List.set_cons_succ]
                refine wpAnyH_take (oi := ⟨_, _, _, _, _, _⟩) (i := 10) (v := ?_) rfl (by kernel_rfl) (by kernel_rfl) (by kernel_rfl) (fun _ _ _ h => h) (Or.inl ⟨by rfl, ?yau10⟩) (by assumption) ?rau10
                case yau10 => (intro w hSw; (try dsimp only at hSw); go_simp; (try with_reducible rfl))
                try simp only [Act.put, List.setIfInBounds_toArray, List.set_cons_zero, List.set_cons_succ]
                refine wpAnyH_take (oi := ⟨_, _, _, _, _, _⟩) (i := 11) (v := ?_) rfl (by kernel_rfl) (by kernel_rfl) (by kernel_rfl) (fun _ _ _ h => h) (Or.inl ⟨by rfl, ?yau11⟩) (by assumption) ?rau11
                case yau11 => (intro w hSw; (try dsimp only at hSw); go_simp; (try with_reducible rfl))
                try simp only [Act.put, List.setIfInBounds_toArray, List.set_cons_zero, List.set_cons_succ]
                refine wpAnyH_done (by kernel_rfl) ?_ _
                obtain ⟨y0, y1, y2, _, _, D4, E4⟩ := hHeld
                have CKs := CK.out w4 sv A2 L2 c2 D4.out R2.out G3 hsv
                rw [G1.out] at CKs
                replace CKs := Lib.hid CKs
                go_wp2_with fail
                refine (CKs.out).mono ?_
                rintro e v5 ⟨rfl, K⟩
                have R2 := Lib.hid (R2.out.below K (Nat.le_refl _))
                have D5 := Lib.hid (D4.out.trans (K.mono D4.out.size))
                have E5 := Lib.hid (E4.out.trans (K.mono E4.out.size))
                clear K CKs
                go_wp2_with fail
                (try go_wp2)
                go_roundw
                case rel => exact ⟨k + 1, A2, L2, c2, by omega, by go_num, rfl, G3, R2, G1, E5⟩
                case measure => simp [intOf]; omega
              · have z0 : (fe m t != 0) = true := by simpa using hf
                clear H1 H3
                generalize fe m t = ee at *
                generalize fl m t = L2 at *
                go_upto_region 17 with fail
                refine wp_region_held_drew (S := fun w' => w'.cell? ⟨x1.heap.size, 0, none⟩ = some (.string n.nm) ∧ w'.cell? ⟨x1.heap.size, 1, none⟩ = some (.slice n.PA n.ps.length n.pc) ∧ w'.cell? ⟨x1.heap.size, 2, none⟩ = some (.slice n.TA n.ts.length n.tc) ∧ w'.cell? ⟨bq, oq + k, none⟩ = some (.int .i64 t) ∧ Hid (ReadsV w' A m) ∧ Hid (Below w.heap.size w w') ∧ Hid (Below x6.heap.size x6 w')) (by kernel_rfl) ?_ (fun hHeld => ?_)
                · exact ⟨y0, y1, y2, hx, HM.out.below (below_drewN (Below.refl _ _) 1) (Nat.le_refl _), BG.out.drew, BJ.out.drew⟩
                refine wpAnyH_take (oi := ⟨_, _, _, _, _, _⟩) (i := 0) (v := ?_) rfl (by kernel_rfl) (by kernel_rfl) (by kernel_rfl) (fun _ _ _ h => h) (Or.inl ⟨by rfl, ?yav0⟩) (by assumption) ?rav0
                case yav0 => (intro w hSw; (try dsimp only at hSw); go_simp; (try with_reducible rfl))
                try simp only [Act.put, List.setIfInBounds_toArray, List.set_cons_zero, List.set_cons_succ]
                refine wpAnyH_take (oi := ⟨_, _, _, _, _, _⟩) (i := 1) (v := ?_) rfl (by kernel_rfl) (by kernel_rfl) (by kernel_rfl) (fun _ _ _ h => h) (Or.inl ⟨by rfl, ?yav1⟩) (by assumption) ?rav1
                case yav1 => (intro w hSw; (try dsimp only at hSw); go_simp; (try with_reducible rfl))
                try simp only [Act.put, List.setIfInBounds_toArray, List.set_cons_zero, List.set_cons_succ]
                refine wpAnyH_take (oi := ⟨_, _, _, _, _, _⟩) (i := 2) (v := ?_) rfl (by kernel_rfl) (by kernel_rfl) (by kernel_rfl) (fun _ _ _ h => h) (Or.inl ⟨by rfl, ?yav2⟩) (by assumption) ?rav2
                case yav2 => (intro w hSw; (try dsimp only at hSw); go_simp; (try with_reducible rfl))
                try simp only [Act.put, List.setIfInBounds_toArray, List.set_cons_zero, List.set_cons_succ]
                refine wpAnyH_take (oi := ⟨_, _, _, _, _, _⟩) (i := 3) (v := ?_) rfl (by kernel_rfl) (by kernel_rfl) (by kernel_rfl) (fun _ _ _ h => h) (Or.inl ⟨by rfl, ?yav3⟩) (by assumption) ?rav3
                case yav3 => (intro w hSw; (try dsimp only at hSw); go_simp; (try with_reducible rfl))
                try simp only [Act.put, List.setIfInBounds_toArray, List.set_cons_zero, List.set_cons_succ]
                refine wpAnyH_take (oi := ⟨_, _, _, _, _, _⟩) (i := 4) (v := ?_) rfl (by kernel_rfl) (by kernel_rfl) (by kernel_rfl) (fun _ _ _ h => h) (Or.inl ⟨by rfl, ?yav4⟩) (by assumption) ?rav4
                case yav4 => (intro w hSw; (try dsimp only at hSw); go_simp; (try with_reducible rfl))
                try simp only [Act.put, List.setIfInBounds_toArray, List.set_cons_zero, List.set_cons_succ]
                refine wpAnyH_take (oi := ⟨_, _, _, _, _, _⟩) (i := 5) (v := ?_) rfl (by kernel_rfl) (by kernel_rfl) (by kernel_rfl) (fun _ _ _ h => h) (Or.inl ⟨by rfl, ?yav5⟩) (by assumption) ?rav5
                case yav5 => (intro w hSw; (try dsimp only at hSw); go_simp; (try with_reducible rfl))
                try simp only [Act.put, List.setIfInBounds_toArray, List.set_cons_zero, List.set_cons_succ]
                refine wpAnyH_ready (rs := [6]) (by kernel_rfl) (by simp) ?_
                refine AllReadyH.cons (o := ⟨_, _, _, _, _, _⟩) rfl (fun K hK => ?_) AllReadyH.nil
                go_simp
                go_at_call 15; refine (CFk.out _ A c hHeld.2.2.2.2.2.1.out hHeld.2.2.2.2.1.out hm24).mono ?_; rintro e w4 ⟨A2, c2, rfl, R2, K⟩; have R2 := Lib.hid R2; (try go_wp2_with fail)
                refine hK.out _ _ ?_ (fun hHeld2 => ?_)
                · exact ⟨keepc hHeld.1 K, keepc hHeld.2.1 K, keepc hHeld.2.2.1 K, keepc hHeld.2.2.2.1 K, hHeld.2.2.2.2.1.out.below K (Nat.le_refl _), hHeld.2.2.2.2.2.1.out.trans (K.mono hHeld.2.2.2.2.2.1.out.size), hHeld.2.2.2.2.2.2.out.trans (K.mono hHeld.2.2.2.2.2.2.out.size)⟩
                clear hK K hHeld
                have hHeld := hHeld2
                clear hHeld2
                try simp only [Act.put, List.setIfInBounds_toArray, List.set_cons_zero, List.set_cons_succ]
                refine wpAnyH_take (oi := ⟨_, _, _, _, _, _⟩) (i := 7) (v := ?_) rfl (by kernel_rfl) (by kernel_rfl) (by kernel_rfl) (fun _ _ _ h => h) (Or.inl ⟨by rfl, ?yav7⟩) (by assumption) ?rav7
                case yav7 => (intro w hSw; (try dsimp only at hSw); go_simp; (try with_reducible rfl))
                try simp only [Act.put, List.setIfInBounds_toArray, List.set_cons_zero, List.set_cons_succ]
                refine wpAnyH_take (oi := ⟨_, _, _, _, _, _⟩) (i := 8) (v := ?_) rfl (by kernel_rfl) (by kernel_rfl) (by kernel_rfl) (fun _ _ _ h => h) (Or.inl ⟨by rfl, ?yav8⟩) (by assumption) ?rav8
                case yav8 => (intro w hSw; (try dsimp only at hSw); go_simp; (try with_reducible rfl))
                try simp only [Act.put, List.setIfInBounds_toArray, List.set_cons_zero, List.set_cons_succ]
                refine wpAnyH_take (oi := ⟨_, _, _, _, _, _⟩) (i := 9) (v := ?_) rfl (by kernel_rfl) (by kernel_rfl) (by kernel_rfl) (fun _ _ _ h => h) (Or.inl ⟨by rfl, ?yav9⟩) (by assumption) ?rav9
                case yav9 => (intro w hSw; (try dsimp only at hSw); go_simp; (try with_reducible rfl))
                try simp only [Act.put, List.setIfInBounds_toArray, List.set_cons_zero, List.set_cons_succ]
                refine wpAnyH_take (oi := ⟨_, _, _, _, _, _⟩) (i := 10) (v := ?_) rfl (by kernel_rfl) (by kernel_rfl) (by kernel_rfl) (fun _ _ _ h => h) (Or.inl ⟨by rfl, ?yav10⟩) (by assumption) ?rav10
                case yav10 => (intro w hSw; (try dsimp only at hSw); go_simp; (try with_reducible rfl))
                try simp only [Act.put, List.setIfInBounds_toArray, List.set_cons_zero, List.set_cons_succ]
                refine wpAnyH_take (oi := ⟨_, _, _, _, _, _⟩) (i := 11) (v := ?_) rfl (by kernel_rfl) (by kernel_rfl) (by kernel_rfl) (fun _ _ _ h => h) (Or.inl ⟨by rfl, ?yav11⟩) (by assumption) ?rav11
                case yav11 => (intro w hSw; (try dsimp only at hSw); go_simp; (try with_reducible rfl))
                try simp only [Act.put, List.setIfInBounds_toArray, List.set_cons_zero, List.set_cons_succ]
                refine wpAnyH_done (by kernel_rfl) ?_ _
                obtain ⟨y0, y1, y2, _, _, D4, E4⟩ := hHeld
                go_wp2_with fail
                refine (CX.out _).mono ?_
                rintro e v5 ⟨rfl, K⟩
                have D5 := Lib.hid (D4.out.trans (K.mono D4.out.size))
                clear K
                go_wp2
                go_ret
                exact ⟨rfl, D5.out⟩
            · go_wp2_with fail
              refine (CX.out _).mono ?_
              rintro e v5 ⟨rfl, K⟩
              have D5 := Lib.hid (BG.out.trans (K.mono BG.out.size))
              clear K
              go_wp2
              go_ret
              exact ⟨rfl, D5.out⟩
    · cases hmk : markB tv m0
      · clear HT1
        go_enter Tryd.func4, Tryd.ntmps4
        go_wp2_with fail
        refine (CS2.out _ B0.out).mono ?_
        rintro e x1 ⟨rfl, K⟩
        have Dx1 := Lib.hid (B0.out.trans (K.mono B0.out.size))
        clear K
        have q0 : (x1.alloc (.cells #[.string n.nm, .slice n.PA n.ps.length n.pc, .slice n.TA n.ts.length n.tc] 29)).cell? ⟨x1.heap.size, 0, none⟩ = some (.string n.nm) := by simp
        have q1 : (x1.alloc (.cells #[.string n.nm, .slice n.PA n.ps.length n.pc, .slice n.TA n.ts.length n.tc] 29)).cell? ⟨x1.heap.size, 1, none⟩ = some (.slice n.PA n.ps.length n.pc) := by simp
        have q2 : (x1.alloc (.cells #[.string n.nm, .slice n.PA n.ps.length n.pc, .slice n.TA n.ts.length n.tc] 29)).cell? ⟨x1.heap.size, 2, none⟩ = some (.slice n.TA n.ts.length n.tc) := by simp
        have Dx1a := Lib.hid (Dx1.out.alloc Dx1.out.size (.cells #[.string n.nm, .slice n.PA n.ps.length n.pc, .slice n.TA n.ts.length n.tc] 29))
        go_wp2_with fail
        refine (CP.out _ Dx1a.out).mono ?_
        rintro e x2 ⟨rfl, K⟩
        have q0 := keepc q0 K
        have q1 := keepc q1 K
        have q2 := keepc q2 K
        have Dx2 := Lib.hid (Dx1a.out.trans (K.mono Dx1a.out.size))
        clear K
        go_wp2_with fail
        refine (CI.out _ Dx2.out).mono ?_
        rintro e x3 ⟨A0, c0, rfl, R0, K⟩
        have R0 := Lib.hid R0
        have q0 := keepc q0 K
        have q1 := keepc q1 K
        have q2 := keepc q2 K
        have Dx3 := Lib.hid (Dx2.out.trans (K.mono Dx2.out.size))
        clear K
        go_wp2_with fail
        go_loopw [10, 11] (fun p q ws => ∃ j : Nat, j ≤ m0.length ∧ q = .int .i64 j ∧ p = .int .u64 (es j : Nat) ∧ Hid (Below x3.heap.size x3 ws)) (fun _ q _ => m0.length - (intOf q).toNat)
        case atStart => exact ⟨0, by omega, rfl, by rw [E0]; rfl, Below.refl _ _⟩
        case round =>
          obtain ⟨j, hj, rfl, rfl, BJ⟩ := hrel
          have k0 := keepc q0 BJ.out
          have k1 := keepc q1 BJ.out
          have k2 := keepc q2 BJ.out
          have BG := Lib.hid (Dx3.out.trans (BJ.out.mono Dx3.out.size))
          have R0 := Lib.hid (R0.out.below BJ.out (Nat.le_refl _))
          clear q0 q1 q2
          by_cases hlt2 : j < m0.length
          · obtain ⟨ba, oa, e1, hx⟩ := at_of_reads R0.out j hlt2
            subst e1
            have S1 := ES1.out j
            have S0 := ES0.out j
            have hes := EL.out j
            generalize at0 m0 j = x at *
            by_cases h0 : x = 0
            · subst h0
              have T1 := S1 rfl
              clear S1 S0
              go_wp2_with fail
              refine (CW.out _ _ _ hes).mono ?_
              rintro e x5 ⟨rfl, rfl⟩
              go_wp2_with fail
              (try go_wp2)
              go_roundw
              case rel => exact ⟨j + 1, by omega, by go_num, by rw [T1], by first | exact BJ | exact below_drewN BJ.out _⟩
              case measure => simp [intOf]; omega
            · have z0 : (x == 0) = false := by simpa using h0
              have T0 := S0 h0
              clear S0 S1
              go_wp2_with fail
              (try go_wp2)
              go_roundw
              case rel => exact ⟨j + 1, by omega, by go_num, by rw [T0], by first | exact BJ | exact below_drewN BJ.out _⟩
              case measure => simp [intOf]; omega
          · obtain rfl : j = m0.length := by omega
            clear ES1 ES0 EL E0 CW
            go_wp2_with fail
            refine (C1.out _ BG.out).mono ?_
            rintro e x4 ⟨rfl, K⟩
            have k0 := keepc k0 K
            have k1 := keepc k1 K
            have k2 := keepc k2 K
            have R0 := Lib.hid (R0.out.below K (Nat.le_refl _))
            have Dx4 := Lib.hid (BG.out.trans (K.mono BG.out.size))
            clear K
            go_wp2_with fail
            refine (C2.out _ Dx4.out).mono ?_
            rintro e x5 ⟨rfl, K⟩
            have k0 := keepc k0 K
            have k1 := keepc k1 K
            have k2 := keepc k2 K
            have R0 := Lib.hid (R0.out.below K (Nat.le_refl _))
            have Dx5 := Lib.hid (Dx4.out.trans (K.mono Dx4.out.size))
            clear K
            go_wp2_with fail
            refine (CO.out _ Dx5.out).mono ?_
            rintro e x6 ⟨rfl, K⟩
            have k0 := keepc k0 K
            have k1 := keepc k1 K
            have k2 := keepc k2 K
            have R0 := Lib.hid (R0.out.below K (Nat.le_refl _))
            have Dx6 := Lib.hid (Dx5.out.trans (K.mono Dx5.out.size))
            clear K
            have CKt := CK.out x6 tv A0 m0 c0 Dx6.out R0.out hml htv
            rw [hmk] at CKt
            replace CKt := Lib.hid CKt
            go_wp2_with fail
            refine (CKt.out).mono ?_
            rintro e x7 ⟨rfl, K⟩
            have k0 := keepc k0 K
            have k1 := keepc k1 K
            have k2 := keepc k2 K
            have R0 := Lib.hid (R0.out.below K (Nat.le_refl _))
            have Dx7 := Lib.hid (Dx6.out.trans (K.mono Dx6.out.size))
            clear K
            clear CKt
            go_wp2_with fail
            go_loopw [9, 15] (fun p q ws => ∃ (k : Nat) (A : Option Addr) (m : List Int) (c : Nat), k ≤ seq.length ∧ q = .int .i64 k ∧ p = .slice A m.length c ∧ m.length ≤ 24 ∧ Hid (ReadsV ws A m) ∧ Hid (markB sv m = false) ∧ Hid (Below x7.heap.size x7 ws)) (fun _ q _ => seq.length - (intOf q).toNat)
            case atStart => exact ⟨0, A0, m0, c0, by omega, rfl, rfl, hml, R0, HS0, Below.refl _ _⟩
            case round =>
              obtain ⟨k, A, m, c, hk, rfl, rfl, hm24, HM, HN, BJ⟩ := hrel
              have y0 := keepc k0 BJ.out
              have y1 := keepc k1 BJ.out
              have y2 := keepc k2 BJ.out
              have BG := Lib.hid (Dx7.out.trans (BJ.out.mono Dx7.out.size))
              clear k0 k1 k2
              by_cases hlt : k < seq.length
              · obtain ⟨bq, oq, e1, hx⟩ := at_of_reads (HQ.out.below BG.out (Nat.le_refl _)) k hlt
                subst e1
                generalize at0 seq k = t at *
                have CFk := Lib.hid (fun W A c => CF.out W A m c t)
                have H1 := Lib.hid (HS1.out m t HN.out)
                have H3 := Lib.hid (HL.out m t)
                by_cases hf : fe m t = 0
                · have z0 : (fe m t != 0) = false := by simpa using hf
                  have G1 := Lib.hid (H1.out hf)
                  have G3 := H3.out hf
                  clear H1 H3
                  generalize fe m t = ee at *
                  generalize fl m t = L2 at *
                  subst hf
                  go_upto_region 17 with fail
                  refine wp_region_held_drew (S := fun w' => w'.cell? ⟨x1.heap.size, 0, none⟩ = some (.string n.nm) ∧ w'.cell? ⟨x1.heap.size, 1, none⟩ = some (.slice n.PA n.ps.length n.pc) ∧ w'.cell? ⟨x1.heap.size, 2, none⟩ = some (.slice n.TA n.ts.length n.tc) ∧ w'.cell? ⟨bq, oq + k, none⟩ = some (.int .i64 t) ∧ Hid (ReadsV w' A m) ∧ Hid (Below w.heap.size w w') ∧ Hid (Below x7.heap.size x7 w')) (by kernel_rfl) ?_ (fun hHeld => ?_)
                  · exact ⟨y0, y1, y2, hx, HM.out.below (below_drewN (Below.refl _ _) 1) (Nat.le_refl _), BG.out.drew, BJ.out.drew⟩
                  refine wpAnyH_take (oi := ⟨_, _, _, _, _, _⟩) (i := 0) (v := ?_) rfl (by kernel_rfl) (by kernel_rfl) (by kernel_rfl) (fun _ _ _ h => h) (Or.inl ⟨by rfl, ?ybu0⟩) (by assumption) ?rbu0
                  case ybu0 => (intro w hSw; (try dsimp only at hSw); go_simp; (try with_reducible rfl))
                  try simp only [Act.put, List.setIfInBounds_toArray, List.set_cons_zero, List.set_cons_succ]
                  refine wpAnyH_take (oi := ⟨_, _, _, _, _, _⟩) (i := 1) (v := ?_) rfl (by kernel_rfl) (by kernel_rfl) (by kernel_rfl) (fun _ _ _ h => h) (Or.inl ⟨by rfl, ?ybu1⟩) (by assumption) ?rbu1
                  case ybu1 => (intro w hSw; (try dsimp only at hSw); go_simp; (try with_reducible rfl))
                  try simp only [Act.put, List.setIfInBounds_toArray, List.set_cons_zero, List.set_cons_succ]
                  refine wpAnyH_take (oi := ⟨_, _, _, _, _, _⟩) (i := 2) (v := ?_) rfl (by kernel_rfl) (by kernel_rfl) (by kernel_rfl) (fun _ _ _ h => h) (Or.inl ⟨by rfl, ?ybu2⟩) (by assumption) ?rbu2
                  case ybu2 => (intro w hSw; (try dsimp only at hSw); go_simp; (try with_reducible rfl))
                  try simp only [Act.put, List.setIfInBounds_toArray, List.set_cons_zero, List.set_cons_succ]
                  refine wpAnyH_take (oi := ⟨_, _, _, _, _, _⟩) (i := 3) (v := ?_) rfl (by kernel_rfl) (by kernel_rfl) (by kernel_rfl) (fun _ _ _ h => h) (Or.inl ⟨by rfl, ?ybu3⟩) (by assumption) ?rbu3
                  case ybu3 => (intro w hSw; (try dsimp only at hSw); go_simp; (try with_reducible rfl))
                  try simp only [Act.put, List.setIfInBounds_toArray, List.set_cons_zero, List.set_cons_succ]
                  refine wpAnyH_take (oi := ⟨_, _, _, _, _, _⟩) (i := 4) (v := ?_) rfl (by kernel_rfl) (by kernel_rfl) (by kernel_rfl) (fun _ _ _ h => h) (Or.inl ⟨by rfl, ?ybu4⟩) (by assumption) ?rbu4
                  case ybu4 => (intro w hSw; (try dsimp only at hSw); go_simp; (try with_reducible rfl))
                  try simp only [Act.put, List.setIfInBounds_toArray, List.set_cons_zero, List.set_cons_succ]
                  refine wpAnyH_take (oi := ⟨_, _, _, _, _, _⟩) (i := 5) (v := ?_) rfl (by kernel_rfl) (by kernel_rfl) (by kernel_rfl) (fun _ _ _ h => h) (Or.inl ⟨by rfl, ?ybu5⟩) (by assumption) ?rbu5
                  case ybu5 => (intro w hSw; (try dsimp only at hSw); go_simp; (try with_reducible rfl))
                  try simp only [Act.put, List.setIfInBounds_toArray, List.set_cons_zero, List.set_cons_succ]
                  refine wpAnyH_ready (rs := [6]) (by kernel_rfl) (by simp) ?_
                  refine AllReadyH.cons (o := ⟨_, _, _, _, _, _⟩) rfl (fun K hK => ?_) AllReadyH.nil
                  go_simp
                  go_at_call 15; refine (CFk.out _ A c hHeld.2.2.2.2.2.1.out hHeld.2.2.2.2.1.out hm24).mono ?_; rintro e w4 ⟨A2, c2, rfl, R2, K⟩; have R2 := Lib.hid R2; (try go_wp2_with fail)
                  refine hK.out _ _ ?_ (fun hHeld2 => ?_)
                  · exact ⟨keepc hHeld.1 K, keepc hHeld.2.1 K, keepc hHeld.2.2.1 K, keepc hHeld.2.2.2.1 K, hHeld.2.2.2.2.1.out.below K (Nat.le_refl _), hHeld.2.2.2.2.2.1.out.trans (K.mono hHeld.2.2.2.2.2.1.out.size), hHeld.2.2.2.2.2.2.out.trans (K.mono hHeld.2.2.2.2.2.2.out.size)⟩
                  clear hK K hHeld
                  have hHeld := hHeld2
                  clear hHeld2
                  try simp only [Act.put, List.setIfInBounds_toArray, List.set_cons_zero, List.set_cons_succ]
                  refine wpAnyH_take (oi := ⟨_, _, _, _, _, _⟩) (i := 7) (v := ?_) rfl (by kernel_rfl) (by kernel_rfl) (by kernel_rfl) (fun _ _ _ h => h) (Or.inl ⟨by rfl, ?ybu7⟩) (by assumption) ?rbu7
                  case ybu7 => (intro w hSw; (try dsimp only at hSw); go_simp; (try with_reducible rfl))
                  try simp only [Act.put, List.setIfInBounds_toArray, List.set_cons_zero, List.set_cons_succ]
                  refine wpAnyH_take (oi := ⟨_, _, _, _, _, _⟩) (i := 8) (v := ?_) rfl (by kernel_rfl) (by kernel_rfl) (by kernel_rfl) (fun _ _ _ h => h) (Or.inl ⟨by rfl, ?ybu8⟩) (by assumption) ?rbu8
                  case ybu8 => (intro w hSw; (try dsimp only at hSw); go_simp; (try with_reducible rfl))
                  try simp only [Act.put, List.setIfInBounds_toArray, List.set_cons_zero, List.set_cons_succ]
                  refine wpAnyH_take (oi := ⟨_, _, _, _, _, _⟩) (i := 9) (v := ?_) rfl (by kernel_rfl) (by kernel_rfl) (by kernel_rfl) (fun _ _ _ h => h) (Or.inl ⟨by rfl, ?ybu9⟩) (by assumption) ?rbu9
                  case ybu9 => (intro w hSw; (try dsimp only at hSw); go_simp; (try with_reducible rfl))
                  try simp only [Act.put, List.setIfInBounds_toArray, List.set_cons_zero, List.set_cons_succ]
                  refine wpAnyH_take (oi := ⟨_, _, _, _, _, _⟩) (i := 10) (v := ?_) rfl (by kernel_rfl) (by kernel_rfl) (by kernel_rfl) (fun _ _ _ h => h) (Or.inl ⟨by rfl, ?ybu10⟩) (by assumption) ?rbu10
                  case ybu10 => (intro w hSw; (try dsimp only at hSw); go_simp; (try with_reducible rfl))
                  try simp only [Act.put, List.setIfInBounds_toArray, List.set_cons_zero, List.set_cons_succ]
                  refine wpAnyH_take (oi := ⟨_, _, _, _, _, _⟩) (i := 11) (v := ?_) rfl (by kernel_rfl) (by kernel_rfl) (by kernel_rfl) (fun _ _ _ h => h) (Or.inl ⟨by rfl, ?ybu11⟩) (by assumption) ?rbu11
                  case ybu11 => (intro w hSw; (try dsimp only at hSw); go_simp; (try with_reducible rfl))
                  try simp only [Act.put, List.setIfInBounds_toArray, List.set_cons_zero, List.set_cons_succ]
                  refine wpAnyH_done (by kernel_rfl) ?_ _
                  obtain ⟨y0, y1, y2, _, _, D4, E4⟩ := hHeld
                  have CKs := CK.out w4 sv A2 L2 c2 D4.out R2.out G3 hsv
                  rw [G1.out] at CKs
                  replace CKs := Lib.hid CKs
                  go_wp2_with fail
                  refine (CKs.out).mono ?_
                  rintro e v5 ⟨rfl, K⟩
                  have R2 := Lib.hid (R2.out.below K (Nat.le_refl _))
                  have D5 := Lib.hid (D4.out.trans (K.mono D4.out.size))
                  have E5 := Lib.hid (E4.out.trans (K.mono E4.out.size))
                  clear K CKs
                  go_wp2_with fail
                  (try go_wp2)
                  go_roundw
                  case rel => exact ⟨k + 1, A2, L2, c2, by omega, by go_num, rfl, G3, R2, G1, E5⟩
                  case measure => simp [intOf]; omega
                · have z0 : (fe m t != 0) = true := by simpa using hf
                  clear H1 H3
                  generalize fe m t = ee at *
                  generalize fl m t = L2 at *
                  go_upto_region 17 with fail
                  refine wp_region_held_drew (S := fun w' => w'.cell? ⟨x1.heap.size, 0, none⟩ = some (.string n.nm) ∧ w'.cell? ⟨x1.heap.size, 1, none⟩ = some (.slice n.PA n.ps.length n.pc) ∧ w'.cell? ⟨x1.heap.size, 2, none⟩ = some (.slice n.TA n.ts.length n.tc) ∧ w'.cell? ⟨bq, oq + k, none⟩ = some (.int .i64 t) ∧ Hid (ReadsV w' A m) ∧ Hid (Below w.heap.size w w') ∧ Hid (Below x7.heap.size x7 w')) (by kernel_rfl) ?_ (fun hHeld => ?_)
                  · exact ⟨y0, y1, y2, hx, HM.out.below (below_drewN (Below.refl _ _) 1) (Nat.le_refl _), BG.out.drew, BJ.out.drew⟩
                  refine wpAnyH_take (oi := ⟨_, _, _, _, _, _⟩) (i := 0) (v := ?_) rfl (by kernel_rfl) (by kernel_rfl) (by kernel_rfl) (fun _ _ _ h => h) (Or.inl ⟨by rfl, ?ybv0⟩) (by assumption) ?rbv0
                  case ybv0 => (intro w hSw; (try dsimp only at hSw); go_simp; (try with_reducible rfl))
                  try simp only [Act.put, List.setIfInBounds_toArray, List.set_cons_zero, List.set_cons_succ]
                  refine wpAnyH_take (oi := ⟨_, _, _, _, _, _⟩) (i := 1) (v := ?_) rfl (by kernel_rfl) (by kernel_rfl) (by kernel_rfl) (fun _ _ _ h => h) (Or.inl ⟨by rfl, ?ybv1⟩) (by assumption) ?rbv1
                  case ybv1 => (intro w hSw; (try dsimp only at hSw); go_simp; (try with_reducible rfl))
                  try simp only [Act.put, List.setIfInBounds_toArray, List.set_cons_zero, List.set_cons_succ]
                  refine wpAnyH_take (oi := ⟨_, _, _, _, _, _⟩) (i := 2) (v := ?_) rfl (by kernel_rfl) (by kernel_rfl) (by kernel_rfl) (fun _ _ _ h => h) (Or.inl ⟨by rfl, ?ybv2⟩) (by assumption) ?rbv2
                  case ybv2 => (intro w hSw; (try dsimp only at hSw); go_simp; (try with_reducible rfl))
                  try simp only [Act.put, List.setIfInBounds_toArray, List.set_cons_zero, List.set_cons_succ]
                  refine wpAnyH_take (oi := ⟨_, _, _, _, _, _⟩) (i := 3) (v := ?_) rfl (by kernel_rfl) (by kernel_rfl) (by kernel_rfl) (fun _ _ _ h => h) (Or.inl ⟨by rfl, ?ybv3⟩) (by assumption) ?rbv3
                  case ybv3 => (intro w hSw; (try dsimp only at hSw); go_simp; (try with_reducible rfl))
                  try simp only [Act.put, List.setIfInBounds_toArray, List.set_cons_zero, List.set_cons_succ]
                  refine wpAnyH_take (oi := ⟨_, _, _, _, _, _⟩) (i := 4) (v := ?_) rfl (by kernel_rfl) (by kernel_rfl) (by kernel_rfl) (fun _ _ _ h => h) (Or.inl ⟨by rfl, ?ybv4⟩) (by assumption) ?rbv4
                  case ybv4 => (intro w hSw; (try dsimp only at hSw); go_simp; (try with_reducible rfl))
                  try simp only [Act.put, List.setIfInBounds_toArray, List.set_cons_zero, List.set_cons_succ]
                  refine wpAnyH_take (oi := ⟨_, _, _, _, _, _⟩) (i := 5) (v := ?_) rfl (by kernel_rfl) (by kernel_rfl) (by kernel_rfl) (fun _ _ _ h => h) (Or.inl ⟨by rfl, ?ybv5⟩) (by assumption) ?rbv5
                  case ybv5 => (intro w hSw; (try dsimp only at hSw); go_simp; (try with_reducible rfl))
                  try simp only [Act.put, List.setIfInBounds_toArray, List.set_cons_zero, List.set_cons_succ]
                  refine wpAnyH_ready (rs := [6]) (by kernel_rfl) (by simp) ?_
                  refine AllReadyH.cons (o := ⟨_, _, _, _, _, _⟩) rfl (fun K hK => ?_) AllReadyH.nil
                  go_simp
                  go_at_call 15; refine (CFk.out _ A c hHeld.2.2.2.2.2.1.out hHeld.2.2.2.2.1.out hm24).mono ?_; rintro e w4 ⟨A2, c2, rfl, R2, K⟩; have R2 := Lib.hid R2; (try go_wp2_with fail)
                  refine hK.out _ _ ?_ (fun hHeld2 => ?_)
                  · exact ⟨keepc hHeld.1 K, keepc hHeld.2.1 K, keepc hHeld.2.2.1 K, keepc hHeld.2.2.2.1 K, hHeld.2.2.2.2.1.out.below K (Nat.le_refl _), hHeld.2.2.2.2.2.1.out.trans (K.mono hHeld.2.2.2.2.2.1.out.size), hHeld.2.2.2.2.2.2.out.trans (K.mono hHeld.2.2.2.2.2.2.out.size)⟩
                  clear hK K hHeld
                  have hHeld := hHeld2
                  clear hHeld2
                  try simp only [Act.put, List.setIfInBounds_toArray, List.set_cons_zero, List.set_cons_succ]
                  refine wpAnyH_take (oi := ⟨_, _, _, _, _, _⟩) (i := 7) (v := ?_) rfl (by kernel_rfl) (by kernel_rfl) (by kernel_rfl) (fun _ _ _ h => h) (Or.inl ⟨by rfl, ?ybv7⟩) (by assumption) ?rbv7
                  case ybv7 => (intro w hSw; (try dsimp only at hSw); go_simp; (try with_reducible rfl))
                  try simp only [Act.put, List.setIfInBounds_toArray, List.set_cons_zero, List.set_cons_succ]
                  refine wpAnyH_take (oi := ⟨_, _, _, _, _, _⟩) (i := 8) (v := ?_) rfl (by kernel_rfl) (by kernel_rfl) (by kernel_rfl) (fun _ _ _ h => h) (Or.inl ⟨by rfl, ?ybv8⟩) (by assumption) ?rbv8
                  case ybv8 => (intro w hSw; (try dsimp only at hSw); go_simp; (try with_reducible rfl))
                  try simp only [Act.put, List.setIfInBounds_toArray, List.set_cons_zero, List.set_cons_succ]
                  refine wpAnyH_take (oi := ⟨_, _, _, _, _, _⟩) (i := 9) (v := ?_) rfl (by kernel_rfl) (by kernel_rfl) (by kernel_rfl) (fun _ _ _ h => h) (Or.inl ⟨by rfl, ?ybv9⟩) (by assumption) ?rbv9
                  case ybv9 => (intro w hSw; (try dsimp only at hSw); go_simp; (try with_reducible rfl))
                  try simp only [Act.put, List.setIfInBounds_toArray, List.set_cons_zero, List.set_cons_succ]
                  refine wpAnyH_take (oi := ⟨_, _, _, _, _, _⟩) (i := 10) (v := ?_) rfl (by kernel_rfl) (by kernel_rfl) (by kernel_rfl) (fun _ _ _ h => h) (Or.inl ⟨by rfl, ?ybv10⟩) (by assumption) ?rbv10
                  case ybv10 => (intro w hSw; (try dsimp only at hSw); go_simp; (try with_reducible rfl))
                  try simp only [Act.put, List.setIfInBounds_toArray, List.set_cons_zero, List.set_cons_succ]
                  refine wpAnyH_take (oi := ⟨_, _, _, _, _, _⟩) (i := 11) (v := ?_) rfl (by kernel_rfl) (by kernel_rfl) (by kernel_rfl) (fun _ _ _ h => h) (Or.inl ⟨by rfl, ?ybv11⟩) (by assumption) ?rbv11
                  case ybv11 => (intro w hSw; (try dsimp only at hSw); go_simp; (try with_reducible rfl))
                  try simp only [Act.put, List.setIfInBounds_toArray, List.set_cons_zero, List.set_cons_succ]
                  refine wpAnyH_done (by kernel_rfl) ?_ _
                  obtain ⟨y0, y1, y2, _, _, D4, E4⟩ := hHeld
                  go_wp2_with fail
                  refine (CX.out _).mono ?_
                  rintro e v5 ⟨rfl, K⟩
                  have D5 := Lib.hid (D4.out.trans (K.mono D4.out.size))
                  clear K
                  go_wp2
                  go_ret
                  exact ⟨rfl, D5.out⟩
              · go_wp2_with fail
                refine (CX.out _).mono ?_
                rintro e v5 ⟨rfl, K⟩
                have D5 := Lib.hid (BG.out.trans (K.mono BG.out.size))
                clear K
                go_wp2
                go_ret
                exact ⟨rfl, D5.out⟩
      · have HT0 := Lib.hid hmk
        go_enter Tryd.func4, Tryd.ntmps4
        go_wp2_with fail
        refine (CS2.out _ B0.out).mono ?_
        rintro e x1 ⟨rfl, K⟩
        have Dx1 := Lib.hid (B0.out.trans (K.mono B0.out.size))
        clear K
        have q0 : (x1.alloc (.cells #[.string n.nm, .slice n.PA n.ps.length n.pc, .slice n.TA n.ts.length n.tc] 29)).cell? ⟨x1.heap.size, 0, none⟩ = some (.string n.nm) := by simp
        have q1 : (x1.alloc (.cells #[.string n.nm, .slice n.PA n.ps.length n.pc, .slice n.TA n.ts.length n.tc] 29)).cell? ⟨x1.heap.size, 1, none⟩ = some (.slice n.PA n.ps.length n.pc) := by simp
        have q2 : (x1.alloc (.cells #[.string n.nm, .slice n.PA n.ps.length n.pc, .slice n.TA n.ts.length n.tc] 29)).cell? ⟨x1.heap.size, 2, none⟩ = some (.slice n.TA n.ts.length n.tc) := by simp
        have Dx1a := Lib.hid (Dx1.out.alloc Dx1.out.size (.cells #[.string n.nm, .slice n.PA n.ps.length n.pc, .slice n.TA n.ts.length n.tc] 29))
        go_wp2_with fail
        refine (CP.out _ Dx1a.out).mono ?_
        rintro e x2 ⟨rfl, K⟩
        have q0 := keepc q0 K
        have q1 := keepc q1 K
        have q2 := keepc q2 K
        have Dx2 := Lib.hid (Dx1a.out.trans (K.mono Dx1a.out.size))
        clear K
        go_wp2_with fail
        refine (CI.out _ Dx2.out).mono ?_
        rintro e x3 ⟨A0, c0, rfl, R0, K⟩
        have R0 := Lib.hid R0
        have q0 := keepc q0 K
        have q1 := keepc q1 K
        have q2 := keepc q2 K
        have Dx3 := Lib.hid (Dx2.out.trans (K.mono Dx2.out.size))
        clear K
        go_wp2_with fail
        go_loopw [10, 11] (fun p q ws => ∃ j : Nat, j ≤ m0.length ∧ q = .int .i64 j ∧ p = .int .u64 (es j : Nat) ∧ Hid (Below x3.heap.size x3 ws)) (fun _ q _ => m0.length - (intOf q).toNat)
        case atStart => exact ⟨0, by omega, rfl, by rw [E0]; rfl, Below.refl _ _⟩
        case round =>
          obtain ⟨j, hj, rfl, rfl, BJ⟩ := hrel
          have k0 := keepc q0 BJ.out
          have k1 := keepc q1 BJ.out
          have k2 := keepc q2 BJ.out
          have BG := Lib.hid (Dx3.out.trans (BJ.out.mono Dx3.out.size))
          have R0 := Lib.hid (R0.out.below BJ.out (Nat.le_refl _))
          clear q0 q1 q2
          by_cases hlt2 : j < m0.length
          · obtain ⟨ba, oa, e1, hx⟩ := at_of_reads R0.out j hlt2
            subst e1
            have S1 := ES1.out j
            have S0 := ES0.out j
            have hes := EL.out j
            generalize at0 m0 j = x at *
            by_cases h0 : x = 0
            · subst h0
              have T1 := S1 rfl
              clear S1 S0
              go_wp2_with fail
              refine (CW.out _ _ _ hes).mono ?_
              rintro e x5 ⟨rfl, rfl⟩
              go_wp2_with fail
              (try go_wp2)
              go_roundw
              case rel => exact ⟨j + 1, by omega, by go_num, by rw [T1], by first | exact BJ | exact below_drewN BJ.out _⟩
              case measure => simp [intOf]; omega
            · have z0 : (x == 0) = false := by simpa using h0
              have T0 := S0 h0
              clear S0 S1
              go_wp2_with fail
              (try go_wp2)
              go_roundw
              case rel => exact ⟨j + 1, by omega, by go_num, by rw [T0], by first | exact BJ | exact below_drewN BJ.out _⟩
              case measure => simp [intOf]; omega
          · obtain rfl : j = m0.length := by omega
            clear ES1 ES0 EL E0 CW
            go_wp2_with fail
            refine (C1.out _ BG.out).mono ?_
            rintro e x4 ⟨rfl, K⟩
            have k0 := keepc k0 K
            have k1 := keepc k1 K
            have k2 := keepc k2 K
            have R0 := Lib.hid (R0.out.below K (Nat.le_refl _))
            have Dx4 := Lib.hid (BG.out.trans (K.mono BG.out.size))
            clear K
            go_wp2_with fail
            refine (C2.out _ Dx4.out).mono ?_
            rintro e x5 ⟨rfl, K⟩
            have k0 := keepc k0 K
            have k1 := keepc k1 K
            have k2 := keepc k2 K
            have R0 := Lib.hid (R0.out.below K (Nat.le_refl _))
            have Dx5 := Lib.hid (Dx4.out.trans (K.mono Dx4.out.size))
            clear K
            go_wp2_with fail
            refine (CO.out _ Dx5.out).mono ?_
            rintro e x6 ⟨rfl, K⟩
            have k0 := keepc k0 K
            have k1 := keepc k1 K
            have k2 := keepc k2 K
            have R0 := Lib.hid (R0.out.below K (Nat.le_refl _))
            have Dx6 := Lib.hid (Dx5.out.trans (K.mono Dx5.out.size))
            clear K
            have CKt := CK.out x6 tv A0 m0 c0 Dx6.out R0.out hml htv
            rw [hmk] at CKt
            replace CKt := Lib.hid CKt
            go_wp2_with fail
            refine (CKt.out).mono ?_
            rintro e x7 ⟨rfl, K⟩
            have k0 := keepc k0 K
            have k1 := keepc k1 K
            have k2 := keepc k2 K
            have R0 := Lib.hid (R0.out.below K (Nat.le_refl _))
            have Dx7 := Lib.hid (Dx6.out.trans (K.mono Dx6.out.size))
            clear K
            clear CKt
            go_wp2_with fail
            go_loopw [9, 15] (fun p q ws => ∃ (k : Nat) (A : Option Addr) (m : List Int) (c : Nat), k ≤ seq.length ∧ q = .int .i64 k ∧ p = .slice A m.length c ∧ m.length ≤ 24 ∧ Hid (ReadsV ws A m) ∧ Hid (markB sv m = false) ∧ Hid (markB tv m = true) ∧ Hid (Below x7.heap.size x7 ws)) (fun _ q _ => seq.length - (intOf q).toNat)
            case atStart => exact ⟨0, A0, m0, c0, by omega, rfl, rfl, hml, R0, HS0, HT0, Below.refl _ _⟩
            case round =>
              obtain ⟨k, A, m, c, hk, rfl, rfl, hm24, HM, HN, HO, BJ⟩ := hrel
              have y0 := keepc k0 BJ.out
              have y1 := keepc k1 BJ.out
              have y2 := keepc k2 BJ.out
              have BG := Lib.hid (Dx7.out.trans (BJ.out.mono Dx7.out.size))
              clear k0 k1 k2
              by_cases hlt : k < seq.length
              · obtain ⟨bq, oq, e1, hx⟩ := at_of_reads (HQ.out.below BG.out (Nat.le_refl _)) k hlt
                subst e1
                generalize at0 seq k = t at *
                have CFk := Lib.hid (fun W A c => CF.out W A m c t)
                have H1 := Lib.hid (HS1.out m t HN.out)
                have H2 := Lib.hid (HT1.out m t HO.out)
                have H3 := Lib.hid (HL.out m t)
                by_cases hf : fe m t = 0
                · have z0 : (fe m t != 0) = false := by simpa using hf
                  have G1 := Lib.hid (H1.out hf)
                  have G3 := H3.out hf
                  have G2 := Lib.hid (H2.out hf)
                  clear H2
                  clear H1 H3
                  generalize fe m t = ee at *
                  generalize fl m t = L2 at *
                  subst hf
                  go_upto_region 17 with fail
                  refine wp_region_held_drew (S := fun w' => w'.cell? ⟨x1.heap.size, 0, none⟩ = some (.string n.nm) ∧ w'.cell? ⟨x1.heap.size, 1, none⟩ = some (.slice n.PA n.ps.length n.pc) ∧ w'.cell? ⟨x1.heap.size, 2, none⟩ = some (.slice n.TA n.ts.length n.tc) ∧ w'.cell? ⟨bq, oq + k, none⟩ = some (.int .i64 t) ∧ Hid (ReadsV w' A m) ∧ Hid (Below w.heap.size w w') ∧ Hid (Below x7.heap.size x7 w')) (by kernel_rfl) ?_ (fun hHeld => ?_)
                  · exact ⟨y0, y1, y2, hx, HM.out.below (below_drewN (Below.refl _ _) 1) (Nat.le_refl _), BG.out.drew, BJ.out.drew⟩
                  refine wpAnyH_take (oi := ⟨_, _, _, _, _, _⟩) (i := 0) (v := ?_) rfl (by kernel_rfl) (by kernel_rfl) (by kernel_rfl) (fun _ _ _ h => h) (Or.inl ⟨by rfl, ?ycu0⟩) (by assumption) ?rcu0
                  case ycu0 => (intro w hSw; (try dsimp only at hSw); go_simp; (try with_reducible rfl))
                  try simp only [Act.put, List.setIfInBounds_toArray, List.set_cons_zero, List.set_cons_succ]
                  refine wpAnyH_take (oi := ⟨_, _, _, _, _, _⟩) (i := 1) (v := ?_) rfl (by kernel_rfl) (by kernel_rfl) (by kernel_rfl) (fun _ _ _ h => h) (Or.inl ⟨by rfl, ?ycu1⟩) (by assumption) ?rcu1
                  case ycu1 => (intro w hSw; (try dsimp only at hSw); go_simp; (try with_reducible rfl))
                  try simp only [Act.put, List.setIfInBounds_toArray, List.set_cons_zero, List.set_cons_succ]
                  refine wpAnyH_take (oi := ⟨_, _, _, _, _, _⟩) (i := 2) (v := ?_) rfl (by kernel_rfl) (by kernel_rfl) (by kernel_rfl) (fun _ _ _ h => h) (Or.inl ⟨by rfl, ?ycu2⟩) (by assumption) ?rcu2
                  case ycu2 => (intro w hSw; (try dsimp only at hSw); go_simp; (try with_reducible rfl))
                  try simp only [Act.put, List.setIfInBounds_toArray, List.set_cons_zero, List.set_cons_succ]
                  refine wpAnyH_take (oi := ⟨_, _, _, _, _, _⟩) (i := 3) (v := ?_) rfl (by kernel_rfl) (by kernel_rfl) (by kernel_rfl) (fun _ _ _ h => h) (Or.inl ⟨by rfl, ?ycu3⟩) (by assumption) ?rcu3
                  case ycu3 => (intro w hSw; (try dsimp only at hSw); go_simp; (try with_reducible rfl))
                  try simp only [Act.put, List.setIfInBounds_toArray, List.set_cons_zero, List.set_cons_succ]
                  refine wpAnyH_take (oi := ⟨_, _, _, _, _, _⟩) (i := 4) (v := ?_) rfl (by kernel_rfl) (by kernel_rfl) (by kernel_rfl) (fun _ _ _ h => h) (Or.inl ⟨by rfl, ?ycu4⟩) (by assumption) ?rcu4
                  case ycu4 => (intro w hSw; (try dsimp only at hSw); go_simp; (try with_reducible rfl))
                  try simp only [Act.put, List.setIfInBounds_toArray, List.set_cons_zero, List.set_cons_succ]
                  refine wpAnyH_take (oi := ⟨_, _, _, _, _, _⟩) (i := 5) (v := ?_) rfl (by kernel_rfl) (by kernel_rfl) (by kernel_rfl) (fun _ _ _ h => h) (Or.inl ⟨by rfl, ?ycu5⟩) (by assumption) ?rcu5
                  case ycu5 => (intro w hSw; (try dsimp only at hSw); go_simp; (try with_reducible rfl))
                  try simp only [Act.put, List.setIfInBounds_toArray, List.set_cons_zero, List.set_cons_succ]
                  refine wpAnyH_ready (rs := [6]) (by kernel_rfl) (by simp) ?_
                  refine AllReadyH.cons (o := ⟨_, _, _, _, _, _⟩) rfl (fun K hK => ?_) AllReadyH.nil
                  go_simp
                  go_at_call 15; refine (CFk.out _ A c hHeld.2.2.2.2.2.1.out hHeld.2.2.2.2.1.out hm24).mono ?_; rintro e w4 ⟨A2, c2, rfl, R2, K⟩; have R2 := Lib.hid R2; (try go_wp2_with fail)
                  refine hK.out _ _ ?_ (fun hHeld2 => ?_)
                  · exact ⟨keepc hHeld.1 K, keepc hHeld.2.1 K, keepc hHeld.2.2.1 K, keepc hHeld.2.2.2.1 K, hHeld.2.2.2.2.1.out.below K (Nat.le_refl _), hHeld.2.2.2.2.2.1.out.trans (K.mono hHeld.2.2.2.2.2.1.out.size), hHeld.2.2.2.2.2.2.out.trans (K.mono hHeld.2.2.2.2.2.2.out.size)⟩
                  clear hK K hHeld
                  have hHeld := hHeld2
                  clear hHeld2
                  try simp only [Act.put, List.setIfInBounds_toArray, List.set_cons_zero, List.set_cons_succ]
                  refine wpAnyH_take (oi := ⟨_, _, _, _, _, _⟩) (i := 7) (v := ?_) rfl (by kernel_rfl) (by kernel_rfl) (by kernel_rfl) (fun _ _ _ h => h) (Or.inl ⟨by rfl, ?ycu7⟩) (by assumption) ?rcu7
                  case ycu7 => (intro w hSw; (try dsimp only at hSw); go_simp; (try with_reducible rfl))
                  try simp only [Act.put, List.setIfInBounds_toArray, List.set_cons_zero, List.set_cons_succ]
                  refine wpAnyH_take (oi := ⟨_, _, _, _, _, _⟩) (i := 8) (v := ?_) rfl (by kernel_rfl) (by kernel_rfl) (by kernel_rfl) (fun _ _ _ h => h) (Or.inl ⟨by rfl, ?ycu8⟩) (by assumption) ?rcu8
                  case ycu8 => (intro w hSw; (try dsimp only at hSw); go_simp; (try with_reducible rfl))
                  try simp only [Act.put, List.setIfInBounds_toArray, List.set_cons_zero, List.set_cons_succ]
                  refine wpAnyH_take (oi := ⟨_, _, _, _, _, _⟩) (i := 9) (v := ?_) rfl (by kernel_rfl) (by kernel_rfl) (by kernel_rfl) (fun _ _ _ h => h) (Or.inl ⟨by rfl, ?ycu9⟩) (by assumption) ?rcu9
                  case ycu9 => (intro w hSw; (try dsimp only at hSw); go_simp; (try with_reducible rfl))
                  try simp only [Act.put, List.setIfInBounds_toArray, List.set_cons_zero, List.set_cons_succ]
                  refine wpAnyH_take (oi := ⟨_, _, _, _, _, _⟩) (i := 10) (v := ?_) rfl (by kernel_rfl) (by kernel_rfl) (by kernel_rfl) (fun _ _ _ h => h) (Or.inl ⟨by rfl, ?ycu10⟩) (by assumption) ?rcu10
                  case ycu10 => (intro w hSw; (try dsimp only at hSw); go_simp; (try with_reducible rfl))
                  try simp only [Act.put, List.setIfInBounds_toArray, List.set_cons_zero, List.set_cons_succ]
                  refine wpAnyH_take (oi := ⟨_, _, _, _, _, _⟩) (i := 11) (v := ?_) rfl (by kernel_rfl) (by kernel_rfl) (by kernel_rfl) (fun _ _ _ h => h) (Or.inl ⟨by rfl, ?ycu11⟩) (by assumption) ?rcu11
                  case ycu11 => (intro w hSw; (try dsimp only at hSw); go_simp; (try with_reducible rfl))
                  try simp only [Act.put, List.setIfInBounds_toArray, List.set_cons_zero, List.set_cons_succ]
                  refine wpAnyH_done (by kernel_rfl) ?_ _
                  obtain ⟨y0, y1, y2, _, _, D4, E4⟩ := hHeld
                  have CKs := CK.out w4 sv A2 L2 c2 D4.out R2.out G3 hsv
                  rw [G1.out] at CKs
                  replace CKs := Lib.hid CKs
                  go_wp2_with fail
                  refine (CKs.out).mono ?_
                  rintro e v5 ⟨rfl, K⟩
                  have R2 := Lib.hid (R2.out.below K (Nat.le_refl _))
                  have D5 := Lib.hid (D4.out.trans (K.mono D4.out.size))
                  have E5 := Lib.hid (E4.out.trans (K.mono E4.out.size))
                  clear K CKs
                  have CKt := CK.out v5 tv A2 L2 c2 D5.out R2.out G3 htv
                  rw [G2.out] at CKt
                  replace CKt := Lib.hid CKt
                  go_wp2_with fail
                  refine (CKt.out).mono ?_
                  rintro e v6 ⟨rfl, K⟩
                  have R2 := Lib.hid (R2.out.below K (Nat.le_refl _))
                  have D5 := Lib.hid (D5.out.trans (K.mono D5.out.size))
                  have E5 := Lib.hid (E5.out.trans (K.mono E5.out.size))
                  clear K CKt
                  go_wp2_with fail
                  (try go_wp2)
                  go_roundw
                  case rel => exact ⟨k + 1, A2, L2, c2, by omega, by go_num, rfl, G3, R2, G1, G2, E5⟩
                  case measure => simp [intOf]; omega
                · have z0 : (fe m t != 0) = true := by simpa using hf
                  clear H1 H3 H2
                  generalize fe m t = ee at *
                  generalize fl m t = L2 at *
                  go_upto_region 17 with fail
                  refine wp_region_held_drew (S := fun w' => w'.cell? ⟨x1.heap.size, 0, none⟩ = some (.string n.nm) ∧ w'.cell? ⟨x1.heap.size, 1, none⟩ = some (.slice n.PA n.ps.length n.pc) ∧ w'.cell? ⟨x1.heap.size, 2, none⟩ = some (.slice n.TA n.ts.length n.tc) ∧ w'.cell? ⟨bq, oq + k, none⟩ = some (.int .i64 t) ∧ Hid (ReadsV w' A m) ∧ Hid (Below w.heap.size w w') ∧ Hid (Below x7.heap.size x7 w')) (by kernel_rfl) ?_ (fun hHeld => ?_)
                  · exact ⟨y0, y1, y2, hx, HM.out.below (below_drewN (Below.refl _ _) 1) (Nat.le_refl _), BG.out.drew, BJ.out.drew⟩
                  refine wpAnyH_take (oi := ⟨_, _, _, _, _, _⟩) (i := 0) (v := ?_) rfl (by kernel_rfl) (by kernel_rfl) (by kernel_rfl) (fun _ _ _ h => h) (Or.inl ⟨by rfl, ?ycv0⟩) (by assumption) ?rcv0
                  case ycv0 => (intro w hSw; (try dsimp only at hSw); go_simp; (try with_reducible rfl))
                  try simp only [Act.put, List.setIfInBounds_toArray, List.set_cons_zero, List.set_cons_succ]
                  refine wpAnyH_take (oi := ⟨_, _, _, _, _, _⟩) (i := 1) (v := ?_) rfl (by kernel_rfl) (by kernel_rfl) (by kernel_rfl) (fun _ _ _ h => h) (Or.inl ⟨by rfl, ?ycv1⟩) (by assumption) ?rcv1
                  case ycv1 => (intro w hSw; (try dsimp only at hSw); go_simp; (try with_reducible rfl))
                  try simp only [Act.put, List.setIfInBounds_toArray, List.set_cons_zero, List.set_cons_succ]
                  refine wpAnyH_take (oi := ⟨_, _, _, _, _, _⟩) (i := 2) (v := ?_) rfl (by kernel_rfl) (by kernel_rfl) (by kernel_rfl) (fun _ _ _ h => h) (Or.inl ⟨by rfl, ?ycv2⟩) (by assumption) ?rcv2
                  case ycv2 => (intro w hSw; (try dsimp only at hSw); go_simp; (try with_reducible rfl))
                  try simp only [Act.put, List.setIfInBounds_toArray, List.set_cons_zero, List.set_cons_succ]
                  refine wpAnyH_take (oi := ⟨_, _, _, _, _, _⟩) (i := 3) (v := ?_) rfl (by kernel_rfl) (by kernel_rfl) (by kernel_rfl) (fun _ _ _ h => h) (Or.inl ⟨by rfl, ?ycv3⟩) (by assumption) ?rcv3
                  case ycv3 => (intro w hSw; (try dsimp only at hSw); go_simp; (try with_reducible rfl))
                  try simp only [Act.put, List.setIfInBounds_toArray, List.set_cons_zero, List.set_cons_succ]
                  refine wpAnyH_take (oi := ⟨_, _, _, _, _, _⟩) (i := 4) (v := ?_) rfl (by kernel_rfl) (by kernel_rfl) (by kernel_rfl) (fun _ _ _ h => h) (Or.inl ⟨by rfl, ?ycv4⟩) (by assumption) ?rcv4
                  case ycv4 => (intro w hSw; (try dsimp only at hSw); go_simp; (try with_reducible rfl))
                  try simp only [Act.put, List.setIfInBounds_toArray, List.set_cons_zero, List.set_cons_succ]
                  refine wpAnyH_take (oi := ⟨_, _, _, _, _, _⟩) (i := 5) (v := ?_) rfl (by kernel_rfl) (by kernel_rfl) (by kernel_rfl) (fun _ _ _ h => h) (Or.inl ⟨by rfl, ?ycv5⟩) (by assumption) ?rcv5
                  case ycv5 => (intro w hSw; (try dsimp only at hSw); go_simp; (try with_reducible rfl))
                  try simp only [Act.put, List.setIfInBounds_toArray, List.set_cons_zero, List.set_cons_succ]
                  refine wpAnyH_ready (rs := [6]) (by kernel_rfl) (by simp) ?_
                  refine AllReadyH.cons (o := ⟨_, _, _, _, _, _⟩) rfl (fun K hK => ?_) AllReadyH.nil
                  go_simp
                  go_at_call 15; refine (CFk.out _ A c hHeld.2.2.2.2.2.1.out hHeld.2.2.2.2.1.out hm24).mono ?_; rintro e w4 ⟨A2, c2, rfl, R2, K⟩; have R2 := Lib.hid R2; (try go_wp2_with fail)
                  refine hK.out _ _ ?_ (fun hHeld2 => ?_)
                  · exact ⟨keepc hHeld.1 K, keepc hHeld.2.1 K, keepc hHeld.2.2.1 K, keepc hHeld.2.2.2.1 K, hHeld.2.2.2.2.1.out.below K (Nat.le_refl _), hHeld.2.2.2.2.2.1.out.trans (K.mono hHeld.2.2.2.2.2.1.out.size), hHeld.2.2.2.2.2.2.out.trans (K.mono hHeld.2.2.2.2.2.2.out.size)⟩
                  clear hK K hHeld
                  have hHeld := hHeld2
                  clear hHeld2
                  try simp only [Act.put, List.setIfInBounds_toArray, List.set_cons_zero, List.set_cons_succ]
                  refine wpAnyH_take (oi := ⟨_, _, _, _, _, _⟩) (i := 7) (v := ?_) rfl (by kernel_rfl) (by kernel_rfl) (by kernel_rfl) (fun _ _ _ h => h) (Or.inl ⟨by rfl, ?ycv7⟩) (by assumption) ?rcv7
                  case ycv7 => (intro w hSw; (try dsimp only at hSw); go_simp; (try with_reducible rfl))
                  try simp only [Act.put, List.setIfInBounds_toArray, List.set_cons_zero, List.set_cons_succ]
                  refine wpAnyH_take (oi := ⟨_, _, _, _, _, _⟩) (i := 8) (v := ?_) rfl (by kernel_rfl) (by kernel_rfl) (by kernel_rfl) (fun _ _ _ h => h) (Or.inl ⟨by rfl, ?ycv8⟩) (by assumption) ?rcv8
                  case ycv8 => (intro w hSw; (try dsimp only at hSw); go_simp; (try with_reducible rfl))
                  try simp only [Act.put, List.setIfInBounds_toArray, List.set_cons_zero, List.set_cons_succ]
                  refine wpAnyH_take (oi := ⟨_, _, _, _, _, _⟩) (i := 9) (v := ?_) rfl (by kernel_rfl) (by kernel_rfl) (by kernel_rfl) (fun _ _ _ h => h) (Or.inl ⟨by rfl, ?ycv9⟩) (by assumption) ?rcv9
                  case ycv9 => (intro w hSw; (try dsimp only at hSw); go_simp; (try with_reducible rfl))
                  try simp only [Act.put, List.setIfInBounds_toArray, List.set_cons_zero, List.set_cons_succ]
                  refine wpAnyH_take (oi := ⟨_, _, _, _, _, _⟩) (i := 10) (v := ?_) rfl (by kernel_rfl) (by kernel_rfl) (by kernel_rfl) (fun _ _ _ h => h) (Or.inl ⟨by rfl, ?ycv10⟩) (by assumption) ?rcv10
                  case ycv10 => (intro w hSw; (try dsimp only at hSw); go_simp; (try with_reducible rfl))
                  try simp only [Act.put, List.setIfInBounds_toArray, List.set_cons_zero, List.set_cons_succ]
                  refine wpAnyH_take (oi := ⟨_, _, _, _, _, _⟩) (i := 11) (v := ?_) rfl (by kernel_rfl) (by kernel_rfl) (by kernel_rfl) (fun _ _ _ h => h) (Or.inl ⟨by rfl, ?ycv11⟩) (by assumption) ?rcv11
                  case ycv11 => (intro w hSw; (try dsimp only at hSw); go_simp; (try with_reducible rfl))
                  try simp only [Act.put, List.setIfInBounds_toArray, List.set_cons_zero, List.set_cons_succ]
                  refine wpAnyH_done (by kernel_rfl) ?_ _
                  obtain ⟨y0, y1, y2, _, _, D4, E4⟩ := hHeld
                  go_wp2_with fail
                  refine (CX.out _).mono ?_
                  rintro e v5 ⟨rfl, K⟩
                  have D5 := Lib.hid (D4.out.trans (K.mono D4.out.size))
                  clear K
                  go_wp2
                  go_ret
                  exact ⟨rfl, D5.out⟩
              · go_wp2_with fail
                refine (CX.out _).mono ?_
                rintro e v5 ⟨rfl, K⟩
                have D5 := Lib.hid (BG.out.trans (K.mono BG.out.size))
                clear K
                go_wp2
                go_ret
                exact ⟨rfl, D5.out⟩
end Go.Proofs.YtjibpkaanaphcaaDoor
