/- The law on deadlocks. -/
import Derived.Test.YtjibpkaanaphcaaSX
import Derived.Test.YtjibpkaanaphcaaSE2
import Derived.Test.YtjibpkaanaphcaaFZ2
namespace Go.Proofs.Ytjibpkaanaphcaa
open Go.RowKit


set_option maxHeartbeats 16000000 in
set_option maxRecDepth 100000 in
theorem deadlocks_law (n : NetV) (A : Option Addr) (m : List Int) (c : Nat) (w : World) (hr : NetW w n) (hm : ReadsV w A m) (hl : m.length ≤ maxLen) :
    Calls Try.prog 6 #[.agg #[.string n.nm, .slice n.PA n.ps.length n.pc, .slice n.TA n.ts.length n.tc], .slice A m.length c] w fun e w' => e = .returned (.bool true) ∧ Below w.heap.size w w' := by
  have CS : Hid (∀ W, Below w.heap.size w W → Calls Try.prog 7 #[.agg #[.string n.nm, .slice n.PA n.ps.length n.pc, .slice n.TA n.ts.length n.tc]] W (SmallPost W.heap.size W n)) := fun W hW => small_any n W (hr.below hW (Nat.le_refl _))
  have CX : Hid (∀ W, Calls Try.prog 8 #[] W (VPost W.heap.size W (.bool true))) := example_any
  have B0 : Hid (Below w.heap.size w (w.alloc (.cells #[.string n.nm, .slice n.PA n.ps.length n.pc, .slice n.TA n.ts.length n.tc] 25))) := (Below.refl _ _).alloc (Nat.le_refl _) _
  cases hs : smallN n
  · have CS2 : Hid (∀ W, Below w.heap.size w W → Calls Try.prog 7 #[.agg #[.string n.nm, .slice n.PA n.ps.length n.pc, .slice n.TA n.ts.length n.tc]] W (fun e w' => e = .returned (.tuple #[.agg #[.string ⟨#[]⟩, .slice none 0 0, .slice none 0 0], .bool false]) ∧ Below W.heap.size W w')) := fun W hW => (CS.out W hW).mono fun e w' h => by
      unfold SmallPost at h
      rw [hs, if_neg (by simp)] at h
      exact h
    clear CS hs hm hl
    go_enter Try.func6, Try.ntmps6
    go_wp2_with fail
    refine (CS2.out _ B0.out).mono ?_
    rintro e x1 ⟨rfl, K⟩
    have Dx1 := Lib.hid (B0.out.trans (K.mono B0.out.size))
    clear K
    have Dx1a := Lib.hid (Dx1.out.alloc Dx1.out.size (.cells #[.string ⟨#[]⟩, .slice none 0 0, .slice none 0 0] 25))
    go_wp2_with fail
    refine (CX.out _).mono ?_
    rintro e x2 ⟨rfl, K⟩
    have Dx2 := Lib.hid (Dx1a.out.trans (K.mono Dx1a.out.size))
    clear K
    go_wp2
    go_ret
    exact ⟨rfl, Dx2.out⟩
  · have CS2 : Hid (∀ W, Below w.heap.size w W → Calls Try.prog 7 #[.agg #[.string n.nm, .slice n.PA n.ps.length n.pc, .slice n.TA n.ts.length n.tc]] W (fun e w' => e = .returned (.tuple #[.agg #[.string n.nm, .slice n.PA n.ps.length n.pc, .slice n.TA n.ts.length n.tc], .bool true]) ∧ Below W.heap.size W w')) := fun W hW => (CS.out W hW).mono fun e w' h => by
      unfold SmallPost at h
      rw [hs, if_pos rfl] at h
      exact h
    have hr0 := small_ok hr hs
    have hl2 : m.length ≤ 9223372036854775807 := by unfold maxLen at hl; omega
    have CP : Hid (∀ W, Below w.heap.size w W → Calls Try.prog 16 #[.agg #[.string n.nm, .slice n.PA n.ps.length n.pc, .slice n.TA n.ts.length n.tc]] W (VPost W.heap.size W (.bool (plainN n)))) := fun W hW => rplainN_any n W (hr0.below hW (Nat.le_refl _))
    have CO : Hid (∀ W, Below w.heap.size w W → Calls Try.prog 17 #[.agg #[.string n.nm, .slice n.PA n.ps.length n.pc, .slice n.TA n.ts.length n.tc]] W (VPost W.heap.size W (.bool (ordinaryN n)))) := fun W hW => rordinaryN_any n W (hr0.below hW (Nat.le_refl _))
    have CD : Hid (∀ W, Below w.heap.size w W → Calls Try.prog 18 #[.agg #[.string n.nm, .slice n.PA n.ps.length n.pc, .slice n.TA n.ts.length n.tc], .slice A m.length c] W (VPost W.heap.size W (.bool (deadB n m)))) := fun W hW => rdead_any n A m c W (hr0.below hW (Nat.le_refl _)) (hm.below hW (Nat.le_refl _)) hl2
    cases hp : plainN n
    · rw [hp] at CP
      clear CS hs hr hr0 hm hl hl2 hp CO CD
      go_enter Try.func6, Try.ntmps6
      go_wp2_with fail
      refine (CS2.out _ B0.out).mono ?_
      rintro e x1 ⟨rfl, K⟩
      have Dx1 := Lib.hid (B0.out.trans (K.mono B0.out.size))
      clear K
      have q0 : (x1.alloc (.cells #[.string n.nm, .slice n.PA n.ps.length n.pc, .slice n.TA n.ts.length n.tc] 25)).cell? ⟨x1.heap.size, 0, none⟩ = some (.string n.nm) := by simp
      have q1 : (x1.alloc (.cells #[.string n.nm, .slice n.PA n.ps.length n.pc, .slice n.TA n.ts.length n.tc] 25)).cell? ⟨x1.heap.size, 1, none⟩ = some (.slice n.PA n.ps.length n.pc) := by simp
      have q2 : (x1.alloc (.cells #[.string n.nm, .slice n.PA n.ps.length n.pc, .slice n.TA n.ts.length n.tc] 25)).cell? ⟨x1.heap.size, 2, none⟩ = some (.slice n.TA n.ts.length n.tc) := by simp
      have Dx1a := Lib.hid (Dx1.out.alloc Dx1.out.size (.cells #[.string n.nm, .slice n.PA n.ps.length n.pc, .slice n.TA n.ts.length n.tc] 25))
      go_wp2_with fail
      refine (CP.out _ Dx1a.out).mono ?_
      rintro e x2 ⟨rfl, K⟩
      have q0 := keepc q0 K
      have q1 := keepc q1 K
      have q2 := keepc q2 K
      have Dx2 := Lib.hid (Dx1a.out.trans (K.mono Dx1a.out.size))
      clear K
      go_wp2_with fail
      refine (CX.out _).mono ?_
      rintro e x3 ⟨rfl, K⟩
      have q0 := keepc q0 K
      have q1 := keepc q1 K
      have q2 := keepc q2 K
      have Dx3 := Lib.hid (Dx2.out.trans (K.mono Dx2.out.size))
      clear K
      go_wp2
      go_ret
      exact ⟨rfl, Dx3.out⟩
    cases ho : ordinaryN n
    · rw [hp] at CP
      rw [ho] at CO
      clear CS hs hr hr0 hm hl hl2 hp ho CD
      go_enter Try.func6, Try.ntmps6
      go_wp2_with fail
      refine (CS2.out _ B0.out).mono ?_
      rintro e x1 ⟨rfl, K⟩
      have Dx1 := Lib.hid (B0.out.trans (K.mono B0.out.size))
      clear K
      have q0 : (x1.alloc (.cells #[.string n.nm, .slice n.PA n.ps.length n.pc, .slice n.TA n.ts.length n.tc] 25)).cell? ⟨x1.heap.size, 0, none⟩ = some (.string n.nm) := by simp
      have q1 : (x1.alloc (.cells #[.string n.nm, .slice n.PA n.ps.length n.pc, .slice n.TA n.ts.length n.tc] 25)).cell? ⟨x1.heap.size, 1, none⟩ = some (.slice n.PA n.ps.length n.pc) := by simp
      have q2 : (x1.alloc (.cells #[.string n.nm, .slice n.PA n.ps.length n.pc, .slice n.TA n.ts.length n.tc] 25)).cell? ⟨x1.heap.size, 2, none⟩ = some (.slice n.TA n.ts.length n.tc) := by simp
      have Dx1a := Lib.hid (Dx1.out.alloc Dx1.out.size (.cells #[.string n.nm, .slice n.PA n.ps.length n.pc, .slice n.TA n.ts.length n.tc] 25))
      go_wp2_with fail
      refine (CP.out _ Dx1a.out).mono ?_
      rintro e x2 ⟨rfl, K⟩
      have q0 := keepc q0 K
      have q1 := keepc q1 K
      have q2 := keepc q2 K
      have Dx2 := Lib.hid (Dx1a.out.trans (K.mono Dx1a.out.size))
      clear K
      go_wp2_with fail
      refine (CO.out _ Dx2.out).mono ?_
      rintro e x3 ⟨rfl, K⟩
      have q0 := keepc q0 K
      have q1 := keepc q1 K
      have q2 := keepc q2 K
      have Dx3 := Lib.hid (Dx2.out.trans (K.mono Dx2.out.size))
      clear K
      go_wp2_with fail
      refine (CX.out _).mono ?_
      rintro e x4 ⟨rfl, K⟩
      have q0 := keepc q0 K
      have q1 := keepc q1 K
      have q2 := keepc q2 K
      have Dx4 := Lib.hid (Dx3.out.trans (K.mono Dx3.out.size))
      clear K
      go_wp2
      go_ret
      exact ⟨rfl, Dx4.out⟩
    cases hd : deadB n m
    · rw [hp] at CP
      rw [ho] at CO
      rw [hd] at CD
      clear CS hs hr hr0 hm hl hl2 hp ho hd
      go_enter Try.func6, Try.ntmps6
      go_wp2_with fail
      refine (CS2.out _ B0.out).mono ?_
      rintro e x1 ⟨rfl, K⟩
      have Dx1 := Lib.hid (B0.out.trans (K.mono B0.out.size))
      clear K
      have q0 : (x1.alloc (.cells #[.string n.nm, .slice n.PA n.ps.length n.pc, .slice n.TA n.ts.length n.tc] 25)).cell? ⟨x1.heap.size, 0, none⟩ = some (.string n.nm) := by simp
      have q1 : (x1.alloc (.cells #[.string n.nm, .slice n.PA n.ps.length n.pc, .slice n.TA n.ts.length n.tc] 25)).cell? ⟨x1.heap.size, 1, none⟩ = some (.slice n.PA n.ps.length n.pc) := by simp
      have q2 : (x1.alloc (.cells #[.string n.nm, .slice n.PA n.ps.length n.pc, .slice n.TA n.ts.length n.tc] 25)).cell? ⟨x1.heap.size, 2, none⟩ = some (.slice n.TA n.ts.length n.tc) := by simp
      have Dx1a := Lib.hid (Dx1.out.alloc Dx1.out.size (.cells #[.string n.nm, .slice n.PA n.ps.length n.pc, .slice n.TA n.ts.length n.tc] 25))
      go_wp2_with fail
      refine (CP.out _ Dx1a.out).mono ?_
      rintro e x2 ⟨rfl, K⟩
      have q0 := keepc q0 K
      have q1 := keepc q1 K
      have q2 := keepc q2 K
      have Dx2 := Lib.hid (Dx1a.out.trans (K.mono Dx1a.out.size))
      clear K
      go_wp2_with fail
      refine (CO.out _ Dx2.out).mono ?_
      rintro e x3 ⟨rfl, K⟩
      have q0 := keepc q0 K
      have q1 := keepc q1 K
      have q2 := keepc q2 K
      have Dx3 := Lib.hid (Dx2.out.trans (K.mono Dx2.out.size))
      clear K
      go_wp2_with fail
      refine (CD.out _ Dx3.out).mono ?_
      rintro e x4 ⟨rfl, K⟩
      have q0 := keepc q0 K
      have q1 := keepc q1 K
      have q2 := keepc q2 K
      have Dx4 := Lib.hid (Dx3.out.trans (K.mono Dx3.out.size))
      clear K
      go_wp2_with fail
      refine (CX.out _).mono ?_
      rintro e x5 ⟨rfl, K⟩
      have q0 := keepc q0 K
      have q1 := keepc q1 K
      have q2 := keepc q2 K
      have Dx5 := Lib.hid (Dx4.out.trans (K.mono Dx4.out.size))
      clear K
      go_wp2
      go_ret
      exact ⟨rfl, Dx5.out⟩
    have hsip := dead_sip hp ho hd
    have hmax := max_sip (emS_lt m m.length) hsip
    have hm24 : m.length ≤ 24 := by
      unfold deadB goodN at hd
      rw [Bool.and_eq_true, Bool.and_eq_true] at hd
      have h1 := (validL_parts hd.1.2).1
      have h2 := (okN_parts hd.1.1).2.2.1
      omega
    rw [hp] at CP
    rw [ho] at CO
    rw [hd] at CD
    have C1 : Hid (∀ W, Below w.heap.size w W → Calls Try.prog 9 #[.agg #[.string n.nm, .slice n.PA n.ps.length n.pc, .slice n.TA n.ts.length n.tc], .int .u64 (emS m m.length : Nat)] W (VPost W.heap.size W (.bool (sipB n true (emS m m.length))))) := fun W hW => siphon_any n _ W (hr0.below hW (Nat.le_refl _)) (emS_lt _ _)
    have C2 : Hid (∀ W, Below w.heap.size w W → Calls Try.prog 12 #[.agg #[.string n.nm, .slice n.PA n.ps.length n.pc, .slice n.TA n.ts.length n.tc], .int .u64 (emS m m.length : Nat)] W (VPost W.heap.size W (.int .u64 (maxG n true (emS m m.length) : Nat)))) := fun W hW => maxSiphon_any n _ W (hr0.below hW (Nat.le_refl _)) (emS_lt _ _)
    rw [hsip] at C1
    rw [hmax] at C2
    have CW : Hid (∀ W (s k : Nat), s < 18446744073709551616 → Calls Try.prog 19 #[.int .u64 (s : Nat), .int .i64 k] W (fun e w' => e = .returned (.int .u64 (Bt.withV s k : Nat)) ∧ W = w')) := fun W s k h => Bt.rwith_any s k W h
    have ES1 : Hid (∀ k, at0 m k = 0 → emS m (k + 1) = Bt.withV (emS m k) (k : Int)) := fun k h => by rw [emS, if_pos h]
    have ES0 : Hid (∀ k, at0 m k ≠ 0 → emS m (k + 1) = emS m k) := fun k h => by rw [emS, if_neg h]
    have EL : Hid (∀ k, emS m k < 18446744073709551616) := emS_lt m
    have E0 : emS m 0 = 0 := rfl
    have RT := Lib.hid hr0.rt
    have RM := Lib.hid hm
    have hz : n.ts.length ≤ 1000 := hr0.okt.1
    have PZ : Hid (∀ k, (tA n.ts k).pre.l.length ≤ 1000) := fun k => (hr0.okt.2 k).2.1
    clear CS hs hr hr0 hp ho hd hsip hmax hl hl2 hm
    have zE : (((emS m m.length : Nat) : Int) == ((emS m m.length : Nat) : Int)) = true := by simp
    generalize emS m = es at *
    go_enter Try.func6, Try.ntmps6
    go_wp2_with fail
    refine (CS2.out _ B0.out).mono ?_
    rintro e x1 ⟨rfl, K⟩
    have Dx1 := Lib.hid (B0.out.trans (K.mono B0.out.size))
    clear K
    have q0 : (x1.alloc (.cells #[.string n.nm, .slice n.PA n.ps.length n.pc, .slice n.TA n.ts.length n.tc] 25)).cell? ⟨x1.heap.size, 0, none⟩ = some (.string n.nm) := by simp
    have q1 : (x1.alloc (.cells #[.string n.nm, .slice n.PA n.ps.length n.pc, .slice n.TA n.ts.length n.tc] 25)).cell? ⟨x1.heap.size, 1, none⟩ = some (.slice n.PA n.ps.length n.pc) := by simp
    have q2 : (x1.alloc (.cells #[.string n.nm, .slice n.PA n.ps.length n.pc, .slice n.TA n.ts.length n.tc] 25)).cell? ⟨x1.heap.size, 2, none⟩ = some (.slice n.TA n.ts.length n.tc) := by simp
    have Dx1a := Lib.hid (Dx1.out.alloc Dx1.out.size (.cells #[.string n.nm, .slice n.PA n.ps.length n.pc, .slice n.TA n.ts.length n.tc] 25))
    go_wp2_with fail
    refine (CP.out _ Dx1a.out).mono ?_
    rintro e x2 ⟨rfl, K⟩
    have q0 := keepc q0 K
    have q1 := keepc q1 K
    have q2 := keepc q2 K
    have Dx2 := Lib.hid (Dx1a.out.trans (K.mono Dx1a.out.size))
    clear K
    go_wp2_with fail
    refine (CO.out _ Dx2.out).mono ?_
    rintro e x3 ⟨rfl, K⟩
    have q0 := keepc q0 K
    have q1 := keepc q1 K
    have q2 := keepc q2 K
    have Dx3 := Lib.hid (Dx2.out.trans (K.mono Dx2.out.size))
    clear K
    go_wp2_with fail
    refine (CD.out _ Dx3.out).mono ?_
    rintro e x4 ⟨rfl, K⟩
    have q0 := keepc q0 K
    have q1 := keepc q1 K
    have q2 := keepc q2 K
    have Dx4 := Lib.hid (Dx3.out.trans (K.mono Dx3.out.size))
    clear K
    go_wp2_with fail
    go_loopw [7] (fun q ws => ∃ k : Nat, k ≤ n.ts.length ∧ q = .int .i64 k ∧ Hid (Below x4.heap.size x4 ws)) (fun q _ => n.ts.length - (intOf q).toNat)
    case atStart => exact ⟨0, by omega, rfl, Below.refl _ _⟩
    case round =>
      obtain ⟨k, hk, rfl, BJ⟩ := hrel
      have c0 := keepc q0 BJ.out
      have c1 := keepc q1 BJ.out
      have c2 := keepc q2 BJ.out
      have BG := Lib.hid (Dx4.out.trans (BJ.out.mono Dx4.out.size))
      by_cases hlt : k < n.ts.length
      · obtain ⟨bt, ot, eT, hbt, d0, d1, d2, d3, d4, r1, r2, r3⟩ := (RT.out.below BG.out (Nat.le_refl _)) k hlt
        rw [eT] at c2
        have hpz := PZ.out k
        clear d0 d2 d3 d4 r1 r2 r3
        generalize (tA n.ts k).pre = x at *
        obtain ⟨a1, cc1, l1⟩ := x
        dsimp only at *
        generalize l1.length = pl at *
        by_cases h0 : pl = 0
        · subst h0
          go_wp2_with fail
          refine (CX.out _).mono ?_
          rintro e x5 ⟨rfl, K⟩
          have D5 := Lib.hid (BG.out.trans (K.mono BG.out.size))
          clear K
          go_wp2
          go_ret
          exact ⟨rfl, D5.out⟩
        · have z0 : ((pl : Int) == 0) = false := by simpa using h0
          go_wp2_with fail
          (try go_wp2)
          go_roundw
          case rel => exact ⟨k + 1, by omega, by go_num, by first | exact BJ | exact below_drewN BJ.out _⟩
          case measure => simp [intOf]; omega
      · clear RT PZ
        go_wp2_with fail
        go_loopw [8, 9] (fun p q ws => ∃ j : Nat, j ≤ m.length ∧ q = .int .i64 j ∧ p = .int .u64 (es j : Nat) ∧ Hid (Below x4.heap.size x4 ws)) (fun _ q _ => m.length - (intOf q).toNat)
        case atStart => exact ⟨0, by omega, rfl, by rw [E0]; rfl, BJ⟩
        case round =>
          clear c0 c1 c2 BG BJ
          obtain ⟨j, hj, rfl, rfl, BJ⟩ := hrel
          have c0 := keepc q0 BJ.out
          have c1 := keepc q1 BJ.out
          have c2 := keepc q2 BJ.out
          have BG := Lib.hid (Dx4.out.trans (BJ.out.mono Dx4.out.size))
          by_cases hlt2 : j < m.length
          · obtain ⟨ba, oa, e1, hx⟩ := at_of_reads (RM.out.below BG.out (Nat.le_refl _)) j hlt2
            subst e1
            have S1 := ES1.out j
            have S0 := ES0.out j
            have hes := EL.out j
            generalize at0 m j = x at *
            by_cases h0 : x = 0
            · subst h0
              have T1 := S1 rfl
              clear S1 S0
              go_wp2_with fail
              refine (CW.out _ _ _ hes).mono ?_
              rintro e x5 ⟨rfl, rfl⟩
              go_wp2_with fail
              (try go_wp2)
              go_roundw
              case rel => exact ⟨j + 1, by omega, by go_num, by rw [T1], by first | exact BJ | exact below_drewN BJ.out _⟩
              case measure => simp [intOf]; omega
            · have z0 : (x == 0) = false := by simpa using h0
              have T0 := S0 h0
              clear S0 S1
              go_wp2_with fail
              (try go_wp2)
              go_roundw
              case rel => exact ⟨j + 1, by omega, by go_num, by rw [T0], by first | exact BJ | exact below_drewN BJ.out _⟩
              case measure => simp [intOf]; omega
          · obtain rfl : j = m.length := by omega
            clear RM
            go_wp2_with fail
            refine (C1.out _ BG.out).mono ?_
            rintro e x5 ⟨rfl, K⟩
            have c0 := keepc c0 K
            have c1 := keepc c1 K
            have c2 := keepc c2 K
            have D5 := Lib.hid (BG.out.trans (K.mono BG.out.size))
            clear K
            go_wp2_with fail
            refine (C2.out _ D5.out).mono ?_
            rintro e x6 ⟨rfl, K⟩
            have D6 := Lib.hid (D5.out.trans (K.mono D5.out.size))
            clear K
            go_wp2_with fail
            refine (CX.out _).mono ?_
            rintro e x7 ⟨rfl, K⟩
            have D7 := Lib.hid (D6.out.trans (K.mono D6.out.size))
            clear K
            go_wp2
            go_ret
            exact ⟨rfl, D7.out⟩
end Go.Proofs.Ytjibpkaanaphcaa
