/- The laws on visited subsets and on the operations on bits, walked. -/
import Derived.Test.YtmleoiepmmbckaaDoorO
namespace Go.Proofs.YtmleoiepmmbckaaDoor
open Go.RowKit Go.Shelf Go.Sort

set_option maxHeartbeats 4000000 in
set_option maxRecDepth 100000 in
theorem visits_law (b : Nat) (w : World) (hb : b < 18446744073709551616) (hT : Tab w) :
    Calls Tryd.prog 8 #[.int .u64 b] w (BoolPost w.heap.size w true) := by
  have hw0 := hT.2
  have L := Lib.hid (fun w hT => lives_any w hT)
  have C1 := Lib.hid (len_any b w hb)
  have CN : Hid (∀ s : Nat, s < 18446744073709551616 → ∀ w, Calls Tryd.prog 31 #[.int .u64 s, .int .u64 b] w fun e w' => e = .returned (.tuple #[.int .u64 (nextN s b : Int), .bool (nextB s b)]) ∧ w = w') := fun s hs w => next_any s b w hs hb
  have HStep : Hid (∀ j s, VisInv b j s → j + 1 < 2 ^ card b → VisInv b (j + 1) (nextV s b) ∧ s < nextV s b ∧ nextV s b &&& b = nextV s b ∧ nextN s b = nextV s b ∧ nextB s b = true) := fun j s h hj => by
    have h2 := h.ne hb hj
    obtain ⟨a1, a2, a3⟩ := h.step hb hj
    exact ⟨a1, a2, a3, by unfold nextN; rw [if_pos ⟨h.2.1, h2⟩], by unfold nextB; exact decide_eq_true ⟨h.2.1, h2⟩⟩
  have HEnd : Hid (∀ s, VisInv b (2 ^ card b - 1) s → s = b) := fun s h => h.end_ hb
  have HS0 := Lib.hid (VisInv.start hb)
  have HLast : Hid (nextN b b = 0 ∧ nextB b b = false) := ⟨by unfold nextN; rw [if_neg (fun h => h.2 rfl)], by unfold nextB; exact decide_eq_false (fun h => h.2 rfl)⟩
  have hc := card_le b
  have HT := Lib.hid hT
  clear hT
  have HP : Hid (∀ j, (2 : Nat) ^ (j + 1) = 2 ^ j * 2) := fun j => Nat.pow_succ ..
  have HP8 : Hid (card b ≤ 8 → 2 ^ card b ≤ 256 ∧ 1 ≤ 2 ^ card b) := fun h => ⟨by have := Nat.pow_le_pow_right (n := 2) (by omega) h; simpa using this, Nat.two_pow_pos _⟩
  have HPk : Hid (∀ j, j ≤ 8 → (2 : Nat) ^ j ≤ 256) := fun j h => by have := Nat.pow_le_pow_right (n := 2) (by omega) h; simpa using this
  generalize card b = kb at *
  go_enter Tryd.func8, Tryd.ntmps8
  go_wp2_with fail
  refine C1.out.mono ?_
  rintro e w1 ⟨rfl, rfl⟩
  go_wp2_with fail
  refine (L.out _ HT.out).mono ?_
  rintro e w1 ⟨rfl, B1⟩
  have B1 := Lib.hid B1
  have n1 : ¬ (kb : Int) < 0 := by omega
  by_cases h8 : (8 : Int) < (kb : Int)
  · go_wp2_with fail
    go_ret
    exact ⟨rfl, B1.out⟩
  obtain ⟨p1, p2⟩ := HP8.out (by omega)
  have hkb : kb ≤ 8 := by omega
  go_wp2_with fail
  go_loop [4, 5] (fun x q => ∃ k m : Nat, k ≤ kb ∧ m ≤ 256 ∧ q = .int .i64 k ∧ x = .int .i64 m ∧ Hid (m = 2 ^ k)) (fun _ q => kb - (intOf q).toNat)
  case atStart => exact ⟨0, 1, by omega, by omega, rfl, rfl, rfl⟩
  case round =>
    obtain ⟨k, m, hk, hm, rfl, rfl, HM⟩ := hrel
    by_cases hlt : k < kb
    · have HM2 : Hid (m * 2 = 2 ^ (k + 1)) := by show _ = _; rw [HP.out, HM.out]
      have hm2 : m * 2 ≤ 256 := by rw [HM2.out]; exact HPk.out _ (by omega)
      go_wp2
      go_round
      case rel => exact ⟨k + 1, m * 2, by omega, hm2, by go_num, by go_num, HM2⟩
      case measure => simp [intOf]; omega
    · obtain rfl : k = kb := by omega
      rw [← HM.out] at p1 p2
      have HE2 : Hid (∀ s, VisInv b (m - 1) s → s = b) := fun s h => HEnd.out s (by rw [← HM.out]; exact h)
      have HSt2 : Hid (∀ j s, VisInv b j s → j + 1 < m → VisInv b (j + 1) (nextV s b) ∧ s < nextV s b ∧ nextV s b &&& b = nextV s b ∧ nextN s b = nextV s b ∧ nextB s b = true) := fun j s h hj => HStep.out j s h (by rw [← HM.out]; exact hj)
      clear HEnd HStep HM HP HP8 HPk hlt hk
      go_wp2_with fail
      go_loop [6, 7] (fun x q => ∃ i s : Nat, i + 1 ≤ m ∧ q = .int .i64 ((i : Int) + 1) ∧ x = .int .u64 s ∧ s < 18446744073709551616 ∧ Hid (VisInv b i s)) (fun _ q => m + 1 - (intOf q).toNat)
      case atStart => exact ⟨0, 0, by omega, rfl, rfl, by decide, HS0⟩
      case round =>
        clear HS0
        obtain ⟨i, s, hi, rfl, rfl, hs, HV⟩ := hrel
        by_cases hlt : i + 1 < m
        · obtain ⟨a1, a2, a3, a4, a5⟩ := HSt2.out i s HV.out hlt
          have C := CN.out s hs w1
          rw [a4, a5] at C
          have hn := a1.1
          have HA := Lib.hid a1
          have hand : bits .and .u64 (nextV s b : Int) (b : Int) = (nextV s b : Int) := by rw [bits_and_u64_nat _ _ hn hb, a3]
          clear a1 a3 a4 a5
          generalize nextV s b = t at *
          have C := Lib.hid C
          have hlt' : (i : Int) + 1 < (m : Int) := by omega
          have hst : ¬ (t : Int) ≤ (s : Int) := by omega
          go_wp2_with fail
          refine C.out.mono ?_
          rintro e w2 ⟨rfl, rfl⟩
          go_wp2
          go_round
          case rel => exact ⟨i + 1, t, by omega, by go_num, rfl, hn, HA⟩
          case measure => simp [intOf]; omega
        · have him : i = m - 1 := by omega
          have hsb := HE2.out s (by rw [← him]; exact HV.out)
          have C := CN.out b hb w1
          rw [HLast.out.1, HLast.out.2] at C
          have C := Lib.hid C
          have hlt' : ¬ (i : Int) + 1 < (m : Int) := by omega
          clear HV HSt2 HE2 CN HLast him
          subst hsb
          go_wp2_with fail
          refine C.out.mono ?_
          rintro e w2 ⟨rfl, rfl⟩
          go_wp2
          go_ret
          exact ⟨rfl, B1.out⟩
set_option maxHeartbeats 4000000 in
set_option maxRecDepth 2000000 in
theorem orders_law (a b : Nat) (w : World) (ha : a < 18446744073709551616) (hb : b < 18446744073709551616) (hT : Tab w) :
    Calls Tryd.prog 10 #[.int .u64 a, .int .u64 b] w (BoolPost w.heap.size w true) := by
  have hw0 := hT.2
  have hu := or_lt ha hb
  have hm : a &&& b < 18446744073709551616 := and_lt ha
  have k1 := bits_or_u64_nat a b ha hb
  have k2 := bits_and_u64_nat a b ha hb
  have L := Lib.hid (fun w hT => lives_any w hT)
  have S1 : Hid (∀ w, Calls Tryd.prog 27 #[.int .u64 a, .int .u64 b] w fun e w' => e = .returned (.bool (((a &&& b : Nat) : Int) == (a : Int))) ∧ w = w') := fun w => by
    have h := subset_any a b w ha hb
    have e : subV a b = (((a &&& b : Nat) : Int) == (a : Int)) := by
      rw [sub_and a b ha hb, Bool.eq_iff_iff, decide_eq_true_iff, beq_iff_eq]
      omega
    rw [e] at h
    exact h
  have S2 : Hid (∀ w, Calls Tryd.prog 27 #[.int .u64 a, .int .u64 ((a ||| b : Nat) : Int)] w fun e w' => e = .returned (.bool true) ∧ w = w') := fun w => by
    have h := subset_any a (a ||| b) w ha hu
    rw [sub_or a b ha hb] at h
    exact h
  have S3 : Hid (∀ w, Calls Tryd.prog 27 #[.int .u64 ((a &&& b : Nat) : Int), .int .u64 b] w fun e w' => e = .returned (.bool true) ∧ w = w') := fun w => by
    have h := subset_any (a &&& b) b w hm hb
    rw [and_sub a b ha hb] at h
    exact h
  have N1 := Lib.hid (fun w => len_any (a ||| b) w hu)
  have N2 := Lib.hid (fun w => len_any (a &&& b) w hm)
  have N3 := Lib.hid (fun w => len_any a w ha)
  have N4 := Lib.hid (fun w => len_any b w hb)
  have hsum := card_sum a b
  have c1 := card_le (a ||| b)
  have c2 := card_le (a &&& b)
  have c3 := card_le a
  have c4 := card_le b
  have M1 := Lib.hid (fun w hT => least_any a ha w hT)
  have M2 := Lib.hid (fun w hT => least_any b hb w hT)
  have M3 := Lib.hid (fun w hT => least_any (a ||| b) hu w hT)
  have HZ := Lib.hid leastV_zero
  have HA := Lib.hid (fun h => least_spec (s := a) h ha)
  have HB := Lib.hid (fun h => least_spec (s := b) h hb)
  have HU : Hid (a ≠ 0 → ∃ n : Nat, leastV (a ||| b) = (n : Int) ∧ n ≤ 63 ∧ (a ||| b).testBit n = true ∧ ∀ j, j < n → (a ||| b).testBit j = false) := fun h => least_spec (fun e => by
    obtain ⟨n, _, _, h1, _⟩ := least_spec h ha
    have := congrArg (·.testBit n) e
    simp [Nat.testBit_or, h1] at this) hu
  have HO1 : Hid (a = 0 → leastV (a ||| b) = leastV b) := fun e => by rw [e, Nat.zero_or]
  have HO2 : Hid (b = 0 → leastV (a ||| b) = leastV a) := fun e => by rw [e, Nat.or_zero]
  have HLeast : Hid (∀ x y z : Nat, a.testBit x = true → (∀ j, j < x → a.testBit j = false) → b.testBit y = true → (∀ j, j < y → b.testBit j = false) → (a ||| b).testBit z = true → (∀ j, j < z → (a ||| b).testBit j = false) → z = min x y) := fun x y z h1 h2 h3 h4 h5 h6 => least_or h1 h2 h3 h4 h5 h6
  have D1 := Lib.hid (fun n (h : n ≤ 63) w => by have := has_any a ((n : Nat) : Int) w ha; rw [hasV_nat a n h] at this; exact this)
  have D2 := Lib.hid (fun n (h : n ≤ 63) w => by have := has_any b ((n : Nat) : Int) w hb; rw [hasV_nat b n h] at this; exact this)
  have HT := Lib.hid hT
  clear hT
  generalize a ||| b = u at *
  generalize a &&& b = m at *
  generalize card u = cu at *
  generalize card m = cm at *
  generalize card a = ca at *
  generalize card b = cb at *
  have hs1 : ((cu : Int) + (cm : Int) != (ca : Int) + (cb : Int)) = false := by simp; omega
  go_enter Tryd.func10, Tryd.ntmps10
  go_wp2_with fail
  refine (L.out _ HT.out).mono ?_
  rintro e w1 ⟨rfl, B1⟩
  have B1 := Lib.hid B1
  go_wp2_with fail
  refine (S1.out _).mono ?_
  rintro e w2 ⟨rfl, rfl⟩
  go_wp2_with fail
  refine (S2.out _).mono ?_
  rintro e w2 ⟨rfl, rfl⟩
  go_wp2_with fail
  refine (S3.out _).mono ?_
  rintro e w2 ⟨rfl, rfl⟩
  go_wp2_with fail
  refine (N1.out _).mono ?_
  rintro e w2 ⟨rfl, rfl⟩
  go_wp2_with fail
  refine (N2.out _).mono ?_
  rintro e w2 ⟨rfl, rfl⟩
  go_wp2_with fail
  refine (N3.out _).mono ?_
  rintro e w2 ⟨rfl, rfl⟩
  go_wp2_with fail
  refine (N4.out _).mono ?_
  rintro e w2 ⟨rfl, rfl⟩
  clear S1 S2 S3 N1 N2 N3 N4 k1 k2
  go_wp2_with fail
  refine (M1.out _ (HT.out.below B1.out hw0)).mono ?_
  rintro e w2 ⟨rfl, B2⟩
  have B2 : Hid (Below w.heap.size w w2) := B1.out.trans (B2.mono B1.out.size)
  go_wp2_with fail
  refine (M2.out _ (HT.out.below B2.out hw0)).mono ?_
  rintro e w3 ⟨rfl, B3⟩
  have B3 : Hid (Below w.heap.size w w3) := B2.out.trans (B3.mono B2.out.size)
  go_wp2_with fail
  refine (M3.out _ (HT.out.below B3.out hw0)).mono ?_
  rintro e w4 ⟨rfl, B4⟩
  have B4 : Hid (Below w.heap.size w w4) := B3.out.trans (B4.mono B3.out.size)
  clear M1 M2 M3 B1 B2 B3 hsum c1 c2 c3 c4 hs1
  by_cases z1 : a = 0
  · have e1 := HO1.out z1
    rw [e1]
    subst z1
    rw [HZ.out]
    generalize leastV b = lb at *
    go_wp2
    go_ret
    exact ⟨rfl, B4.out⟩
  have g1 : ((a : Int) == 0) = false := by simp; omega
  by_cases z2 : b = 0
  · have e1 := HO2.out z2
    rw [e1]
    subst z2
    rw [HZ.out]
    generalize leastV a = lb at *
    go_wp2
    go_ret
    exact ⟨rfl, B4.out⟩
  have g2 : ((b : Int) == 0) = false := by simp; omega
  obtain ⟨x, ex, hx63, hxb, hxm⟩ := HA.out z1
  obtain ⟨y, ey, hy63, hyb, hym⟩ := HB.out z2
  obtain ⟨z, ez, hz63, hzb, hzm⟩ := HU.out z1
  have hmin := HLeast.out x y z hxb hxm hyb hym hzb hzm
  rw [ex, ey, ez]
  replace D1 := D1.out x hx63
  replace D2 := D2.out y hy63
  rw [hxb] at D1
  rw [hyb] at D2
  replace D1 := Lib.hid D1
  replace D2 := Lib.hid D2
  clear HA HB HU HO1 HO2 HZ HLeast hxm hym hzm hxb hyb hzb ex ey ez
  rcases Nat.le_total x y with hxy | hxy
  · obtain rfl : z = x := by omega
    have hmn : min (z : Int) (y : Int) = (z : Int) := by omega
    clear hmin hxy z1 z2 hu hm ha hb
    go_wp2_with fail
    refine (D1.out _).mono ?_
    rintro e w5 ⟨rfl, rfl⟩
    go_wp2_with fail
    refine (D2.out _).mono ?_
    rintro e w5 ⟨rfl, rfl⟩
    go_wp2
    go_ret
    exact ⟨rfl, B4.out⟩
  · obtain rfl : z = y := by omega
    have hmn : min (x : Int) (z : Int) = (z : Int) := by omega
    clear hmin hxy z1 z2 hu hm ha hb
    go_wp2_with fail
    refine (D1.out _).mono ?_
    rintro e w5 ⟨rfl, rfl⟩
    go_wp2_with fail
    refine (D2.out _).mono ?_
    rintro e w5 ⟨rfl, rfl⟩
    go_wp2
    go_ret
    exact ⟨rfl, B4.out⟩
end Go.Proofs.YtmleoiepmmbckaaDoor
