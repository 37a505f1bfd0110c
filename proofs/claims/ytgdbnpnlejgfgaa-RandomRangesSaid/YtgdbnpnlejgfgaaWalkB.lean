/- Contracts of the choice by weights and of its reference. -/
import Derived.Test.YtgdbnpnlejgfgaaWalkA
namespace Go.Proofs.Ytgdbnpnlejgfgaa
open Go.RowKit

/-- the slice's address A reads the numbers zs -/
def ReadsI (w : World) (A : Option Addr) (zs : List Int) : Prop :=
  ∀ j, j < zs.length → ∃ b off, A = some ⟨b, off, none⟩ ∧ w.cell? ⟨b, off + j, none⟩ = some (.int .i64 (zs[j]?.getD 0))

theorem total_any (A : Option Addr) (zs : List Int) (c : Nat) (w : World) (hr : ReadsI w A zs) (hl : zs.length ≤ 9223372036854775807) :
    Calls Try.prog 24 #[.slice A zs.length c] w fun e w' => e = .returned (.int .i64 (totR zs)) ∧ w = w' := by
  have HR := Lib.hid hr
  clear hr
  generalize hT0 : totR zs = T
  have HT0 := Lib.hid hT0
  clear hT0
  by_cases h64 : zs.length ≤ 64
  · have g64 : ¬ (64 : Int) < (zs.length : Int) := by omega
    generalize hn : zs.length = n at *
    have HN := Lib.hid hn
    clear hn
    go_enter Try.func24, Try.ntmps24
    go_wp2
    go_loop [3, 11] (fun x q => ∃ (k : Nat) (t : Int), k ≤ n ∧ x = .int .i64 t ∧ q = .int .i64 k ∧ 0 ≤ t ∧ t ≤ 1000 * k ∧ Hid (t = sumI (zs.take k) ∧ okI (zs.take k) = true)) (fun _ q => n - (intOf q).toNat)
    case atStart => exact ⟨0, 0, by omega, rfl, rfl, by omega, by omega, by show _ ∧ _; simp [sumI, okI]⟩
    case round =>
      obtain ⟨k, t, hk, rfl, rfl, t1, t2, HT⟩ := hrel
      by_cases hlt : k < n
      · obtain ⟨b, off, rfl, hcell⟩ := HR.out k (by rw [HN.out]; exact hlt)
        have hkz : k < zs.length := by rw [HN.out]; exact hlt
        have HZ : Hid (okI zs = false → 0 = T) := by
          intro h; rw [← HT0.out]; unfold totR; rw [if_neg]; rintro ⟨_, h2⟩; rw [h] at h2; cases h2
        have HX : Hid (zs[k]?.getD 0 < 0 ∨ 1000 < zs[k]?.getD 0 → okI zs = false) := okI_not zs k hkz
        have HS : Hid (0 ≤ zs[k]?.getD 0 → zs[k]?.getD 0 ≤ 1000 → t + zs[k]?.getD 0 = sumI (zs.take (k + 1)) ∧ okI (zs.take (k + 1)) = true) := by
          intro a1 a2
          rw [take_snocI zs k hkz, sumI_snoc, okI_snoc, HT.out.1, HT.out.2]
          exact ⟨rfl, by simp [a1, a2]⟩
        generalize zs[k]?.getD 0 = x at *
        by_cases x1 : x < 0
        · have e := HZ.out (HX.out (.inl x1))
          have E := Lib.hid e
          clear e
          go_wp2
          go_ret
          exact ⟨ret_i E.out, rfl⟩
        by_cases x2 : 1000 < x
        · have e := HZ.out (HX.out (.inr x2))
          have E := Lib.hid e
          clear e
          go_wp2
          go_ret
          exact ⟨ret_i E.out, rfl⟩
        go_wp2
        go_round
        case rel => exact ⟨k + 1, t + x, by omega, rfl, by go_num, by omega, by omega, HS.out (by omega) (by omega)⟩
        case measure => simp [intOf]; omega
      · go_wp2
        go_ret
        obtain rfl : k = n := by omega
        refine ⟨ret_i ?_, rfl⟩
        have h := HT.out
        rw [← HN.out, List.take_length] at h
        rw [← HT0.out]
        unfold totR
        rw [if_pos ⟨by rw [HN.out]; exact h64, h.2⟩]
        exact h.1
  · have g64 : (64 : Int) < (zs.length : Int) := by omega
    have ht : 0 = T := by rw [← HT0.out]; unfold totR; rw [if_neg (by omega)]
    have HT := Lib.hid ht
    clear ht
    go_enter Try.func24, Try.ntmps24
    go_wp2
    go_ret
    exact ⟨ret_i HT.out, rfl⟩

theorem choose_any (s : Nat) (A : Option Addr) (zs : List Int) (c : Nat) (w : World) (hr : ReadsI w A zs) (hl : zs.length ≤ 9223372036854775807) :
    Calls Try.prog 16 #[.int .u64 s, .slice A zs.length c] w fun e w' => e = .returned (.tuple #[.int .i64 (chV s zs), .int .u64 (chS s zs)]) ∧ w = w' := by
  have C1 := Lib.hid (total_any A zs c w hr hl)
  have C2 := Lib.hid (below_any s (totR zs) w)
  have HR := Lib.hid hr
  clear hr
  by_cases ht : totR zs < 1
  · have e1 : chV s zs = -1 := by unfold chV; rw [if_pos ht]
    have e2 : chS s zs = s := by unfold chS; rw [if_pos ht]
    obtain ⟨e3, e4⟩ := belV_no (s := s) (n := totR zs) (.inl ht)
    rw [e3, e4] at C2
    rw [e1, e2]
    clear e1 e2 e3 e4
    go_enter Try.func16, Try.ntmps16
    go_wp2_with fail
    refine C1.out.mono ?_
    rintro e w1 ⟨rfl, rfl⟩
    go_wp2_with fail
    refine C2.out.mono ?_
    rintro e w1 ⟨rfl, rfl⟩
    go_wp2
    go_ret2
    exact ⟨rfl, rfl⟩
  · have ht1 : 1 ≤ totR zs := by omega
    obtain ⟨z1, z2, z3⟩ := totR_pos ht1
    have ht2 := (totR_le zs).2
    obtain ⟨e3, e4⟩ := belV_yes (s := s) ht1 (by omega)
    have e1 : chV s zs = pickR zs (belV s (totR zs)) := by unfold chV; rw [if_neg ht]
    have e2 : chS s zs = stepR s := by unfold chS; rw [if_neg ht]
    have b1 : 0 ≤ belV s (totR zs) := by rw [e3]; exact Int.emod_nonneg _ (by omega)
    have b2 : belV s (totR zs) < totR zs := by rw [e3]; exact Int.emod_lt_of_pos _ (by omega)
    rw [e4] at C2
    rw [e1, e2]
    clear e1 e2 e3 e4 ht
    generalize belV s (totR zs) = x0 at *
    generalize stepR s = s1 at *
    have Z2 := Lib.hid z2
    have Z3 := Lib.hid z3
    clear z2 z3
    generalize totR zs = tt at *
    generalize hP : pickR zs x0 = P
    have HP := Lib.hid hP
    clear hP
    generalize hn : zs.length = n at *
    have HN := Lib.hid hn
    clear hn
    go_enter Try.func16, Try.ntmps16
    go_wp2_with fail
    refine C1.out.mono ?_
    rintro e w1 ⟨rfl, rfl⟩
    go_wp2_with fail
    refine C2.out.mono ?_
    rintro e w1 ⟨rfl, rfl⟩
    go_wp2
    go_loop [6, 22] (fun v q => ∃ (k : Nat) (x : Int), k ≤ n ∧ v = .int .i64 x ∧ q = .int .i64 k ∧ 0 ≤ x ∧ x ≤ 64000 ∧ Hid (PickInv zs x0 k x)) (fun _ q => n - (intOf q).toNat)
    case atStart => exact ⟨0, x0, by omega, rfl, rfl, b1, by omega, PickInv.start zs x0⟩
    case round =>
      obtain ⟨k, x, hk, rfl, rfl, x1, x2, HI⟩ := hrel
      by_cases hlt : k < n
      · have hkz : k < zs.length := by rw [HN.out]; exact hlt
        obtain ⟨b, off, rfl, hcell⟩ := HR.out k hkz
        obtain ⟨y1, y2⟩ := okI_at zs k hkz Z2.out
        have H1 : Hid (x < zs[k]?.getD 0 → pickR zs x0 = k) := fun h => HI.out.hit hkz h
        have H2 : Hid (¬ x < zs[k]?.getD 0 → PickInv zs x0 (k + 1) (x - zs[k]?.getD 0)) := fun h => HI.out.next hkz h
        generalize zs[k]?.getD 0 = y at *
        by_cases hxy : x < y
        · have E := Lib.hid (H1.out hxy)
          go_wp2
          go_ret2
          exact ⟨ret_iu (by rw [← HP.out, E.out]) rfl, rfl⟩
        · go_wp2
          go_round
          case rel => exact ⟨k + 1, x - y, by omega, rfl, by go_num, by omega, by omega, H2.out hxy⟩
          case measure => simp [intOf]; omega
      · exfalso
        obtain rfl : k = n := by omega
        have h := HI.out.1
        rw [← HN.out, List.take_length, Z3.out] at h
        omega

theorem rchoose_any (s : Nat) (A : Option Addr) (zs : List Int) (c : Nat) (w : World) (hr : ReadsI w A zs) (hl : zs.length ≤ 9223372036854775807) :
    Calls Try.prog 17 #[.int .u64 s, .slice A zs.length c] w fun e w' => e = .returned (.tuple #[.int .i64 (chV s zs), .int .u64 (chS s zs)]) ∧ w = w' := by
  have C2 := Lib.hid (rnext_any s)
  have HR := Lib.hid hr
  clear hr
  have HN0 : Hid (okI zs = false → -1 = chV s zs ∧ s = chS s zs) := by
    intro h
    have ht : totR zs = 0 := by unfold totR; rw [if_neg]; rintro ⟨_, h2⟩; rw [h] at h2; cases h2
    unfold chV chS
    rw [ht]
    exact ⟨rfl, rfl⟩
  have HN1 : Hid (64 < zs.length ∨ sumI zs = 0 → -1 = chV s zs ∧ s = chS s zs) := by
    intro h
    have ht : totR zs = 0 := by
      unfold totR; split
      · rename_i c; omega
      · rfl
    unfold chV chS
    rw [ht]
    exact ⟨rfl, rfl⟩
  have HN2 : Hid (zs.length ≤ 64 → okI zs = true → 1 ≤ sumI zs → chV s zs = pickR zs ((outR (stepR s) : Int) % sumI zs) ∧ chS s zs = stepR s) := by
    intro h1 h2 h3
    have ht : totR zs = sumI zs := by unfold totR; rw [if_pos ⟨h1, h2⟩]
    have hb := sumI_le zs h2
    obtain ⟨e1, e2⟩ := belV_yes (s := s) (n := sumI zs) h3 (by omega)
    unfold chV chS
    rw [ht, if_neg (by omega), if_neg (by omega), e1]
    exact ⟨rfl, rfl⟩
  generalize chV s zs = V at *
  generalize chS s zs = S at *
  generalize hn : zs.length = n at *
  have HN := Lib.hid hn
  clear hn
  go_enter Try.func17, Try.ntmps17
  go_wp2
  go_loop [6, 7] (fun x q => ∃ (k : Nat) (t : Int), k ≤ n ∧ k ≤ 65 ∧ x = .int .i64 t ∧ q = .int .i64 k ∧ 0 ≤ t ∧ t ≤ 1000 * k ∧ Hid (t = sumI (zs.take k) ∧ okI (zs.take k) = true)) (fun _ q => n - (intOf q).toNat)
  case atStart => exact ⟨0, 0, by omega, by omega, rfl, rfl, by omega, by omega, by show _ ∧ _; simp [sumI, okI]⟩
  case round =>
    obtain ⟨k, t, hk, hk65, rfl, rfl, t1, t2, HT⟩ := hrel
    by_cases hlt : k < n ∧ k < 65
    · obtain ⟨hl1, hl2⟩ := hlt
      obtain ⟨b, off, rfl, hcell⟩ := HR.out k (by rw [HN.out]; exact hl1)
      have hkz : k < zs.length := by rw [HN.out]; exact hl1
      have HX : Hid (zs[k]?.getD 0 < 0 ∨ 1000 < zs[k]?.getD 0 → okI zs = false) := okI_not zs k hkz
      have HS : Hid (0 ≤ zs[k]?.getD 0 → zs[k]?.getD 0 ≤ 1000 → t + zs[k]?.getD 0 = sumI (zs.take (k + 1)) ∧ okI (zs.take (k + 1)) = true) := by
        intro a1 a2
        rw [take_snocI zs k hkz, sumI_snoc, okI_snoc, HT.out.1, HT.out.2]
        exact ⟨rfl, by simp [a1, a2]⟩
      generalize zs[k]?.getD 0 = x at *
      by_cases x1 : x < 0
      · have E := Lib.hid (HN0.out (HX.out (.inl x1)))
        go_wp2
        go_ret2
        exact ⟨ret_iu E.out.1 (by rw [← E.out.2]), rfl⟩
      by_cases x2 : 1000 < x
      · have E := Lib.hid (HN0.out (HX.out (.inr x2)))
        go_wp2
        go_ret2
        exact ⟨ret_iu E.out.1 (by rw [← E.out.2]), rfl⟩
      go_wp2
      go_round
      case rel => exact ⟨k + 1, t + x, by omega, by omega, rfl, by go_num, by omega, by omega, HS.out (by omega) (by omega)⟩
      case measure => simp [intOf]; omega
    · by_cases hl1 : k < n
      · have hl2 : ¬ k < 65 := by omega
        have hn64 : 64 < n := by omega
        clear hlt
        have E := Lib.hid (HN1.out (.inl hn64))
        go_wp2
        go_ret2
        exact ⟨ret_iu E.out.1 (by rw [← E.out.2]), rfl⟩
      · obtain rfl : k = n := by omega
        clear hlt
        have h := HT.out
        rw [← HN.out, List.take_length] at h
        have HT1 := Lib.hid h
        clear h HT
        by_cases h64 : 64 < k
        · have E := Lib.hid (HN1.out (.inl h64))
          go_wp2
          go_ret2
          exact ⟨ret_iu E.out.1 (by rw [← E.out.2]), rfl⟩
        by_cases t0 : t = 0
        · subst t0
          have E := Lib.hid (HN1.out (.inr HT1.out.1.symm))
          go_wp2
          go_ret2
          exact ⟨ret_iu E.out.1 (by rw [← E.out.2]), rfl⟩
        have t3 : 1 ≤ t := by omega
        have tz : (t == 0) = false := by simp; omega
        have E := HN2.out (by omega) HT1.out.2 (by rw [← HT1.out.1]; exact t3)
        rw [← HT1.out.1] at E
        have ho := outR_lt (stepR s)
        generalize outR (stepR s) = o at *
        generalize stepR s = s1 at *
        have m1 := Int.emod_nonneg (o : Int) (show t ≠ 0 by omega)
        have m2 := Int.emod_lt_of_pos (o : Int) (show 0 < t by omega)
        have E1 := Lib.hid E.1
        have E2 := Lib.hid E.2
        clear E
        go_wp2_with fail
        refine (C2.out _).mono ?_
        rintro e w1 ⟨rfl, rfl⟩
        generalize hX0 : (o : Int) % t = x0 at *
        have HX0 := Lib.hid hX0
        clear hX0
        have HX1 : Hid (x0 = (o : Int) % t) := HX0.out.symm
        go_wp2
        go_loop [8, 10] (fun v q => ∃ (j : Nat) (x : Int), j ≤ k ∧ v = .int .i64 x ∧ q = .int .i64 j ∧ 0 ≤ x ∧ x ≤ 65000 ∧ Hid (PickInv zs x0 j x)) (fun _ q => k - (intOf q).toNat)
        case atStart => exact ⟨0, x0, by omega, by rw [HX1.out], rfl, m1, by omega, PickInv.start zs x0⟩
        case round =>
          obtain ⟨j, x, hj, rfl, rfl, x1, x2, HI⟩ := hrel
          have hjk : j < k := by
            rcases Nat.lt_or_ge j k with h | h
            · exact h
            · exfalso
              obtain rfl : j = k := by omega
              have h := HI.out.1
              rw [← HN.out, List.take_length, ← HT1.out.1] at h
              omega
          have hkz : j < zs.length := by rw [HN.out]; exact hjk
          obtain ⟨b, off, rfl, hcell⟩ := HR.out j hkz
          obtain ⟨y1, y2⟩ := okI_at zs j hkz HT1.out.2
          have H1 : Hid (x < zs[j]?.getD 0 → pickR zs x0 = j) := fun h => HI.out.hit hkz h
          have H2 : Hid (¬ x < zs[j]?.getD 0 → PickInv zs x0 (j + 1) (x - zs[j]?.getD 0)) := fun h => HI.out.next hkz h
          generalize zs[j]?.getD 0 = y at *
          by_cases hxy : x < y
          · have E := Lib.hid (H1.out hxy)
            go_wp2
            go_ret2
            exact ⟨ret_iu (by rw [E1.out, E.out]) (by rw [E2.out]), rfl⟩
          · have hyx : y ≤ x := by omega
            go_wp2
            go_round
            case rel => exact ⟨j + 1, x - y, by omega, rfl, by go_num, by omega, by omega, H2.out hxy⟩
            case measure => simp [intOf]; omega

theorem step0 : stepR 0 = 1442695040888963407 := by decide +kernel
theorem out0 : outR 1442695040888963407 = 2097107824 := by decide +kernel
theorem ch0 (s : Nat) : chV s [0, 5] = 1 := by
  have ht : totR [0, 5] = 5 := by decide
  have e := (belV_yes (s := s) (n := 5) (by omega) (by omega)).1
  have m1 := Int.emod_nonneg (outR (stepR s) : Int) (show (5 : Int) ≠ 0 by omega)
  have m2 := Int.emod_lt_of_pos (outR (stepR s) : Int) (show (0 : Int) < 5 by omega)
  unfold chV
  rw [ht, if_neg (by omega), e]
  generalize (outR (stepR s) : Int) % 5 = x at *
  simp [pickR, show ¬ x < 0 by omega, show x < 5 by omega]

theorem alive_any (w : World) :
    Calls Try.prog 13 #[] w fun e w' => e = .returned (.bool true) ∧ Below w.heap.size w w' := by
  have C1 := next_any 0
  rw [step0, out0] at C1
  have C1 := Lib.hid C1
  have C2 : Hid (∀ W, ReadsI W (some ⟨w.heap.size, 0, none⟩) [0, 5] → Calls Try.prog 16 #[.int .u64 1442695040888963407, .slice (some ⟨w.heap.size, 0, none⟩) 2 2] W fun e w' => ∃ n : Nat, e = .returned (.tuple #[.int .i64 1, .int .u64 n]) ∧ W = w') := by
    intro W hr
    have h := choose_any 1442695040888963407 (some ⟨w.heap.size, 0, none⟩) [0, 5] 2 W hr (by simp)
    rw [ch0] at h
    exact h.mono fun _ _ ⟨he, hw⟩ => ⟨_, he, hw⟩
  go_enter Try.func13, Try.ntmps13
  go_wp2_with fail
  refine (C1.out _).mono ?_
  rintro e w1 ⟨rfl, rfl⟩
  go_wp2_with fail
  refine (C2.out _ ?_).mono ?_
  · have hh := heap_alloc_new w (.cells #[.int .i64 0, .int .i64 5] 3)
    intro j hj
    refine ⟨_, _, rfl, ?_⟩
    have h := cell_of_row (w.alloc (.cells #[.int .i64 0, .int .i64 5] 3)) _ (0 + j) _ 3 (0, 0) hh
    rw [h]
    have : j = 0 ∨ j = 1 := by simp at hj; omega
    rcases this with rfl | rfl <;> rfl
  · rintro e w1 ⟨n, rfl, rfl⟩
    go_wp2
    go_ret
    exact ⟨rfl, (Below.refl _ _).alloc (Nat.le_refl _) _⟩
end Go.Proofs.Ytgdbnpnlejgfgaa
