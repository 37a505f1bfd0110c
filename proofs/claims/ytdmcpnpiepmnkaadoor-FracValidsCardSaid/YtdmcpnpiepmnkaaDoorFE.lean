/- The normal form of any two numbers: the reference and the program. -/
import Derived.Test.YtdmcpnpiepmnkaaDoorFD
namespace Go.Proofs.YtdmcpnpiepmnkaaDoor
open Go.RowKit

/-- what Make answers -/
def makeV (a b : Int) : Value :=
  if b = 0 then .tuple #[.agg #[.int .i64 0, .int .i64 0], .int .i64 4]
  else normV (decide (a < 0) != decide (b < 0)) (a.natAbs / Nat.gcd a.natAbs b.natAbs) (b.natAbs / Nat.gcd a.natAbs b.natAbs)
theorem hI_small (n : Nat) (h : n < 18446744073709551616) : hI n = 0 := by unfold hI; omega
theorem lI_small (n : Nat) (h : n < 18446744073709551616) : lI n = (n : Int) := by unfold lI; omega
theorem normV_tuple (neg : Bool) (p q : Nat) : ∃ x y e : Int, normV neg p q = .tuple #[.agg #[.int .i64 x, .int .i64 y], .int .i64 e] := by
  unfold normV
  split
  · exact ⟨_, _, _, rfl⟩
  · exact ⟨_, _, _, rfl⟩
theorem makeV_at (a b k l : Int) (G : Nat) (hG : Nat.gcd a.natAbs b.natAbs = G) (h0 : 0 < G) (ha : a = G * k) (hb : b = G * l) (hl : l ≠ 0) : makeV a b = normV (decide (k < 0) != decide (l < 0)) k.natAbs l.natAbs := by
  have e1 : (decide (a < 0)) = decide (k < 0) := by
    rw [ha]
    by_cases h : k < 0
    · rw [decide_eq_true h, decide_eq_true (Int.mul_neg_of_pos_of_neg (by omega) h)]
    · rw [decide_eq_false h, decide_eq_false (Int.not_lt.2 (Int.mul_nonneg (by omega) (by omega)))]
  have e2 : (decide (b < 0)) = decide (l < 0) := by
    rw [hb]
    by_cases h : l < 0
    · rw [decide_eq_true h, decide_eq_true (Int.mul_neg_of_pos_of_neg (by omega) h)]
    · rw [decide_eq_false h, decide_eq_false (Int.not_lt.2 (Int.mul_nonneg (by omega) (by omega)))]
  have e3 : b ≠ 0 := by
    rw [hb]
    exact Int.mul_ne_zero (by omega) hl
  rw [makeV, if_neg e3, e1, e2, hG]
  have e4 : a.natAbs / G = k.natAbs := by rw [ha, Int.natAbs_mul, Int.natAbs_natCast, Nat.mul_div_cancel_left _ h0]
  have e5 : b.natAbs / G = l.natAbs := by rw [hb, Int.natAbs_mul, Int.natAbs_natCast, Nat.mul_div_cancel_left _ h0]
  rw [e4, e5]
theorem make_facts (a b : Int) (hb : b ≠ 0) : ∃ (k l : Int) (G : Nat), Nat.gcd a.natAbs b.natAbs = G ∧ 0 < G ∧ a = G * k ∧ b = G * l ∧ l ≠ 0 := by
  have h1 : ((Nat.gcd a.natAbs b.natAbs : Nat) : Int) ∣ a := Int.ofNat_dvd_left.2 (Nat.gcd_dvd_left _ _)
  have h2 : ((Nat.gcd a.natAbs b.natAbs : Nat) : Int) ∣ b := Int.ofNat_dvd_left.2 (Nat.gcd_dvd_right _ _)
  obtain ⟨k, hk⟩ := h1
  obtain ⟨l, hl⟩ := h2
  refine ⟨k, l, _, rfl, Nat.gcd_pos_of_pos_right _ (by omega), hk, hl, ?_⟩
  rintro rfl
  exact hb (by rw [hl, Int.mul_zero])
theorem abs_le (G : Nat) (k : Int) (h0 : 0 < G) (h1 : -9223372036854775808 ≤ (G : Int) * k) (h2 : (G : Int) * k ≤ 9223372036854775807) : -9223372036854775808 ≤ k ∧ k ≤ 9223372036854775807 := by
  have g : (1 : Int) ≤ G := by omega
  constructor
  · by_cases h : k < 0
    · have := Int.mul_le_mul_of_nonpos_right g (by omega : k ≤ 0)
      omega
    · omega
  · by_cases h : 0 < k
    · have := Int.mul_le_mul_of_nonneg_right g (by omega : 0 ≤ k)
      omega
    · omega
set_option maxHeartbeats 4000000 in
set_option maxRecDepth 1000000 in
theorem fMake_any (a b : Int) (w : World) (h1 : -9223372036854775808 ≤ a) (h2 : a ≤ 9223372036854775807) (h3 : -9223372036854775808 ≤ b) (h4 : b ≤ 9223372036854775807) :
    Calls Tryd.prog 12 #[.int .i64 a, .int .i64 b] w fun e w' => e = .returned (makeV a b) ∧ Below w.heap.size w w' := by
  have HA := Lib.hid (And.intro h1 h2)
  have HB := Lib.hid (And.intro h3 h4)
  clear h1 h2 h3 h4
  by_cases h0 : b = 0
  · subst h0
    clear HB
    go_enter Tryd.func12, Tryd.ntmps12
    go_wp2_with fail
    refine bodyPost_ret (v := .tuple #[.agg #[.int .i64 0, .int .i64 0], .int .i64 4]) (by simp [results, Tryd.results12, go_sem, *]) rfl ⟨rfl, ?_⟩
    first | exact (Below.refl _ _).alloc (Nat.le_refl _) _ | exact (((Below.refl _ _).alloc (Nat.le_refl _) _).setCell (by simp) _).setCell (by simp) _ | (trace_state; sorry)
  · obtain ⟨k, l, G, hG, hG0, ha, hb, hl⟩ := make_facts a b h0
    have HV := Lib.hid (makeV_at a b k l G hG hG0 ha hb hl)
    have HK := Lib.hid (abs_le G k hG0 (ha ▸ HA.out.1) (ha ▸ HA.out.2))
    have HL := Lib.hid (abs_le G l hG0 (hb ▸ HB.out.1) (hb ▸ HB.out.2))
    have HC := Lib.hid (gcd_any a b HA.out.1 HA.out.2 HB.out.1 HB.out.2)
    rw [hG] at HC
    have R2 := Lib.hid (Rl.new' w rfl)
    have K2 := Lib.hid ((Below.refl w.heap.size w).alloc (Nat.le_refl _) (.cells #[.int .i64 0, .int .i64 0] 23))
    have HZ := Lib.hid h0
    have HLZ := Lib.hid hl
    have HGs := Lib.hid (And.intro hG0 (And.intro ha hb))
    generalize eV : makeV a b = V at *
    clear eV
    by_cases hf : (G : Int) ≤ 9223372036854775807
    · rw [fitV_yes (by omega) hf, fits_yes (by omega) hf] at HC
      have g0 : ¬ (G : Int) = 0 := by omega
      have t1 : a.tdiv (G : Int) = k := by rw [ha]; exact Int.mul_tdiv_cancel_left _ g0
      have t2 : b.tdiv (G : Int) = l := by rw [hb]; exact Int.mul_tdiv_cancel_left _ g0
      have w1 : IntKind.i64.wrap k = k := IntWalk.i64_in _ HK.out
      have w2 : IntKind.i64.wrap l = l := IntWalk.i64_in _ HL.out
      clear hG hG0 ha hb hl hf
      go_enter Tryd.func12, Tryd.ntmps12
      go_wp2_with fail
      go_at_call 17
      refine (HC.out _).mono ?_
      rintro _ _ ⟨rfl, n1, rfl⟩
      go_wp2_with fail
      have C1 := R2.out.c0
      have C2 := R2.out.c1
      have C3 := R2.out.f0
      have C4 := R2.out.f1
      by_cases k0 : k = -9223372036854775808
      · have HO : Hid (9223372036854775807 < k.natAbs) := by show _ < _; omega
        go_region
        all_goals
          go_wp2_with fail
          refine bodyPost_ret (v := .tuple #[.agg #[.int .i64 0, .int .i64 0], .int .i64 3]) (by simp [results, Tryd.results12, go_sem, *]) rfl ⟨by rw [HV.out]; exact congrArg Ending.returned (normV_over (.inl HO.out)), ?_⟩
          exact ((below_drewN K2.out _).setCell (Nat.le_refl _) _).setCell (Nat.le_refl _) _
      · have bk : (k == -9223372036854775808) = false := by simp; exact k0
        by_cases l0 : l = -9223372036854775808
        · have HO : Hid (9223372036854775807 < l.natAbs) := by show _ < _; omega
          go_region
          all_goals
            go_wp2_with fail
            refine bodyPost_ret (v := .tuple #[.agg #[.int .i64 0, .int .i64 0], .int .i64 3]) (by simp [results, Tryd.results12, go_sem, *]) rfl ⟨by rw [HV.out]; exact congrArg Ending.returned (normV_over (.inr HO.out)), ?_⟩
            exact ((below_drewN K2.out _).setCell (Nat.le_refl _) _).setCell (Nat.le_refl _) _
        · have bl : (l == -9223372036854775808) = false := by simp; exact l0
          have hk : ¬ 9223372036854775807 < k.natAbs := by have := HK.out; omega
          have hl : ¬ 9223372036854775807 < l.natAbs := by have := HL.out; omega
          by_cases l1 : l < 0
          · have HO : Hid (V = .tuple #[.agg #[.int .i64 (-k), .int .i64 (-l)], .int .i64 0]) := by
              show _ = _
              rw [HV.out]
              refine (normV_ok hk hl ?_ (by omega)).symm
              rw [decide_eq_true l1]
              by_cases k1 : k < 0
              · rw [decide_eq_true k1]; show -k = (k.natAbs : Int); omega
              · rw [decide_eq_false k1]; show -k = -(k.natAbs : Int); omega
            have w3 : IntKind.i64.wrap (-k) = -k := IntWalk.i64_in _ (by have := HK.out; omega)
            have w4 : IntKind.i64.wrap (-l) = -l := IntWalk.i64_in _ (by have := HL.out; omega)
            have w5 : wrap64 (-k) = -k := IntWalk.wrap64_in _ (by have := HK.out; omega)
            have w6 : wrap64 (-l) = -l := IntWalk.wrap64_in _ (by have := HL.out; omega)
            clear hk hl
            go_region
            all_goals
              go_wp2_with fail
              refine bodyPost_ret (v := .tuple #[.agg #[.int .i64 (-k), .int .i64 (-l)], .int .i64 0]) (by simp [results, Tryd.results12, go_sem, *]) rfl ⟨by rw [HO.out], ?_⟩
              exact ((below_drewN K2.out _).setCell (Nat.le_refl _) _).setCell (Nat.le_refl _) _
          · have HO : Hid (V = .tuple #[.agg #[.int .i64 k, .int .i64 l], .int .i64 0]) := by
              show _ = _
              rw [HV.out]
              refine (normV_ok hk hl ?_ (by omega)).symm
              rw [decide_eq_false l1]
              by_cases k1 : k < 0
              · rw [decide_eq_true k1]; show k = -(k.natAbs : Int); omega
              · rw [decide_eq_false k1]; show k = (k.natAbs : Int); omega
            clear hk hl
            go_region
            all_goals
              go_wp2_with fail
              refine bodyPost_ret (v := .tuple #[.agg #[.int .i64 k, .int .i64 l], .int .i64 0]) (by simp [results, Tryd.results12, go_sem, *]) rfl ⟨by rw [HO.out], ?_⟩
              exact ((below_drewN K2.out _).setCell (Nat.le_refl _) _).setCell (Nat.le_refl _) _
    · have hG2 : (G : Int) = 9223372036854775808 := by
        have : G ≤ b.natAbs := hG ▸ Nat.gcd_le_right _ (by omega)
        have := HB.out
        omega
      have hl1 : l = -1 := by
        have := HB.out
        rw [hb, hG2] at this
        omega
      have hk1 : k = 0 ∨ k = -1 := by
        have := HA.out
        rw [ha, hG2] at this
        omega
      subst hl1
      have hbb : b = -9223372036854775808 := by rw [hb, hG2]; rfl
      have HF : Hid (fits (G : Int) = false ∧ fitV (G : Int) = 0) := by
        have f : fits (G : Int) = false := by rw [hG2]; rfl
        exact ⟨f, by unfold fitV; rw [f]; rfl⟩
      rw [HF.out.1, HF.out.2] at HC
      have C1 := R2.out.c0
      have C2 := R2.out.c1
      have C3 := R2.out.f0
      have C4 := R2.out.f1
      rcases hk1 with rfl | rfl
      · have hav : a = 0 := by rw [ha, Int.mul_zero]
        have HO : Hid (V = .tuple #[.agg #[.int .i64 0, .int .i64 1], .int .i64 0]) := by
          show _ = _
          rw [HV.out]
          exact (normV_ok (by decide) (by decide) (by decide) (by decide)).symm
        clear hG hG0 ha hb hf hG2 HGs
        subst hav
        subst hbb
        go_enter Tryd.func12, Tryd.ntmps12
        go_wp2_with fail
        go_at_call 17
        refine (HC.out _).mono ?_
        rintro _ _ ⟨rfl, n1, rfl⟩
        go_wp2_with fail
        go_region
        all_goals
          go_wp2_with fail
          refine bodyPost_ret (v := .tuple #[.agg #[.int .i64 0, .int .i64 1], .int .i64 0]) (by simp [results, Tryd.results12, go_sem, *]) rfl ⟨by rw [HO.out], ?_⟩
          exact ((below_drewN K2.out _).setCell (Nat.le_refl _) _).setCell (Nat.le_refl _) _
      · have hav : a = -9223372036854775808 := by rw [ha, hG2]; rfl
        have HO : Hid (V = .tuple #[.agg #[.int .i64 1, .int .i64 1], .int .i64 0]) := by
          show _ = _
          rw [HV.out]
          exact (normV_ok (by decide) (by decide) (by decide) (by decide)).symm
        clear hG hG0 ha hb hf hG2 HGs
        subst hav
        subst hbb
        go_enter Tryd.func12, Tryd.ntmps12
        go_wp2_with fail
        go_at_call 17
        refine (HC.out _).mono ?_
        rintro _ _ ⟨rfl, n1, rfl⟩
        go_wp2_with fail
        go_region
        all_goals
          go_wp2_with fail
          refine bodyPost_ret (v := .tuple #[.agg #[.int .i64 1, .int .i64 1], .int .i64 0]) (by simp [results, Tryd.results12, go_sem, *]) rfl ⟨by rw [HO.out], ?_⟩
          exact ((below_drewN K2.out _).setCell (Nat.le_refl _) _).setCell (Nat.le_refl _) _
end Go.Proofs.YtdmcpnpiepmnkaaDoor
