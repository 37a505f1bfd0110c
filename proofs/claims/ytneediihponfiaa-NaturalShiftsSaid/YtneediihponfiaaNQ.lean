/- Bounded natural solutions: the reference's Check. -/
import Derived.Test.YtneediihponfiaaNP
namespace Go.Proofs.Ytneediihponfiaa
open Go.RowKit

theorem chk_two {L : List Row} {b u : List Int} (hg : ¬ (u.length < 1 ∨ 64 < u.length ∨ L.length ≠ b.length ∨ 64 < L.length)) {k : Nat} (hk : k < L.length) (h : (rA L k).zs.length ≠ u.length) : chkP L b u = 2 := by
  unfold chkP
  rw [if_neg hg, if_pos (anyB_yes hk (decide_eq_true h))]
theorem anyB_ok {f : Nat → Bool} {n : Nat} (h : anyB f n = true) : ∃ k, k < n ∧ f k = true := by
  unfold anyB at h
  rcases firstI_cases f n with ⟨e, _⟩ | ⟨m, hm, _, ht, _⟩
  · rw [e] at h; simp at h
  · exact ⟨m, hm, ht⟩
theorem withB_no {l : List Int} {lo hi : Int} {k : Nat} (hk : k < l.length) (h : at0 l k < lo ∨ hi < at0 l k) : withB l lo hi = false := by
  unfold withB
  rw [anyB_yes hk (by unfold badI; simpa using h)]
  rfl
theorem withB_yes {l : List Int} {lo hi : Int} (h : ∀ k, k < l.length → ¬ (at0 l k < lo ∨ hi < at0 l k)) : withB l lo hi = true := by
  unfold withB
  rw [anyB_no fun k hk => by
    have := h k hk
    unfold badI
    rw [Bool.or_eq_false_iff, decide_eq_false_iff_not, decide_eq_false_iff_not]
    omega]
  rfl
theorem r1_no {L : List Row} {m : Nat} (hl : ∀ k, k < L.length → (rA L k).zs.length = m) : anyB (badR1 m L) L.length = false := anyB_no fun k hk => by
  unfold badR1
  simpa using hl k hk
theorem chk_one {L : List Row} {b u : List Int} (hg : ¬ (u.length < 1 ∨ 64 < u.length ∨ L.length ≠ b.length ∨ 64 < L.length)) (hl : ∀ k, k < L.length → (rA L k).zs.length = u.length)
    (h : (withB b (-10000) 10000 = false ∨ withB u 0 1000 = false) ∨ anyB (badR2 L) L.length = true) : chkP L b u = 1 := by
  unfold chkP
  rw [if_neg hg, if_neg (by rw [r1_no hl]; decide)]
  by_cases h1 : withB b (-10000) 10000 = false ∨ withB u 0 1000 = false
  · rw [if_pos h1]
  · rw [if_neg h1, if_pos (h.resolve_left h1)]
theorem chk_end {L : List Row} {b u : List Int} (hg : ¬ (u.length < 1 ∨ 64 < u.length ∨ L.length ≠ b.length ∨ 64 < L.length)) (hl : ∀ k, k < L.length → (rA L k).zs.length = u.length)
    (h1 : withB b (-10000) 10000 = true) (h2 : withB u 0 1000 = true) (h3 : ∀ k, k < L.length → withB (rA L k).zs (-10000) 10000 = true) : chkP L b u = if anyB (limF u) u.length = true then 14 else 0 := by
  unfold chkP
  rw [if_neg hg, if_neg (by rw [r1_no hl]; decide), if_neg (by rw [h1, h2]; decide), if_neg (by rw [anyB_no fun k hk => by unfold badR2; rw [h3 k hk]; rfl]; decide)]

set_option maxHeartbeats 8000000 in
set_option maxRecDepth 100000 in
theorem rcheck_any (A : Option Addr) (L : List Row) (c : Nat) (B : Option Addr) (b : List Int) (cb : Nat) (U : Option Addr) (u : List Int) (cu : Nat) (w : World) (hr : ReadsL w A L) (hl : L.length ≤ 1000) (hb : ReadsV w B b) (hbl : b.length ≤ 1000) (hu : ReadsV w U u) (hul : u.length ≤ 1000) :
    Calls Try.prog 12 #[.slice A L.length c, .slice B b.length cb, .slice U u.length cu] w fun e w' => e = .returned (.int .i64 (chkP L b u)) ∧ w = w' := by
  have H2 := fun hg => @chk_two L b u hg
  have H1 := @chk_one L b u
  have HE := @chk_end L b u
  have hch : chkP L b u = chkP L b u := rfl
  generalize hS : chkP L b u = S at hch ⊢
  clear hch
  by_cases hg : u.length < 1 ∨ 64 < u.length ∨ L.length ≠ b.length ∨ 64 < L.length
  · have hS2 : chkP L b u = 2 := by unfold chkP; rw [if_pos hg]
    rw [hS2] at hS
    subst hS
    clear hS2
    clear hr hb hu H2 H1 HE
    generalize u.length = n at *
    generalize b.length = m at *
    generalize L.length = l at *
    rcases Classical.em (n < 1) with h1 | h1
    · have d1 : decide ((n : Int) < 1) = true := decide_eq_true (by omega)
      have d1' : (n : Int) < 1 := by omega
      clear hg
      go_enter Try.func12, Try.ntmps12
      go_wp2
      go_ret
      exact ⟨rfl, rfl⟩
    · have d1 : decide ((n : Int) < 1) = false := decide_eq_false (by omega)
      rcases Classical.em (64 < n) with h2 | h2
      · have d2 : decide ((64 : Int) < (n : Int)) = true := decide_eq_true (by omega)
        clear hg
        go_enter Try.func12, Try.ntmps12
        go_wp2
        go_ret
        exact ⟨rfl, rfl⟩
      · have d2 : decide ((64 : Int) < (n : Int)) = false := decide_eq_false (by omega)
        rcases Classical.em (l = m) with h3 | h3
        · have d3 : ((l : Int) != (m : Int)) = false := by simp; omega
          have d4 : decide ((64 : Int) < (l : Int)) = true := decide_eq_true (by omega)
          clear hg h3
          go_enter Try.func12, Try.ntmps12
          go_wp2
          go_ret
          exact ⟨rfl, rfl⟩
        · have d3 : ((l : Int) != (m : Int)) = true := by simp; omega
          clear hg h3
          go_enter Try.func12, Try.ntmps12
          go_wp2
          go_ret
          exact ⟨rfl, rfl⟩
  · have d1 : decide ((u.length : Int) < 1) = false := decide_eq_false (by omega)
    have d2 : decide ((64 : Int) < (u.length : Int)) = false := decide_eq_false (by omega)
    have d3 : ((L.length : Int) != (b.length : Int)) = false := by simp; omega
    have d4 : decide ((64 : Int) < (L.length : Int)) = false := decide_eq_false (by omega)
    rw [hS] at H2 H1 HE
    have H2 := Lib.hid (fun k => @H2 hg k)
    have H1 := Lib.hid (H1 hg)
    have HE := Lib.hid (HE hg)
    have HLB : Hid (L.length = b.length) := by
      have := hg
      show _ = _
      omega
    have hu64 : u.length ≤ 64 := by omega
    have hL64 : L.length ≤ 64 := by omega
    have HR := Lib.hid hr
    have HB := Lib.hid hb
    have HU := Lib.hid hu
    clear hg hS hr hb hu
    go_enter Try.func12, Try.ntmps12
    go_wp2_with fail
    go_loop [7] (fun p => ∃ k : Nat, k ≤ L.length ∧ p = .int .i64 k ∧ Hid (∀ j, j < k → (rA L j).zs.length = u.length)) (fun p => L.length - (intOf p).toNat)
    case atStart => exact ⟨0, by omega, rfl, fun j hj => absurd hj (by omega)⟩
    case round =>
      clear d1 d2 d3 d4
      obtain ⟨k, hk, rfl, HM⟩ := hrel
      by_cases hlt : k < L.length
      · obtain ⟨b0, off, e1, hc0⟩ := HR.out.1.at k hlt
        subst e1
        have HT := Lib.hid (H2.out k hlt)
        rcases Classical.em ((rA L k).zs.length = u.length) with h3 | h3
        · have HM2 : Hid (∀ j, j < k + 1 → (rA L j).zs.length = u.length) := fun j hj => by
            rcases Nat.lt_succ_iff_lt_or_eq.1 hj with h | h
            · exact HM.out j h
            · rw [h]; exact h3
          have d5 : (((rA L k).zs.length : Int) != (u.length : Int)) = false := by simp; omega
          clear HM HT h3
          generalize (rA L k).zs.length = rl at *
          go_wp2
          go_round
          case rel => exact ⟨k + 1, by omega, by go_num, HM2⟩
          case measure => simp [intOf]; omega
        · have R := Lib.hid (HT.out h3)
          have d5 : (((rA L k).zs.length : Int) != (u.length : Int)) = true := by simp; omega
          clear HM HT h3
          generalize (rA L k).zs.length = rl at *
          go_wp2
          go_ret
          first | exact ⟨ret_i R.out.symm, rfl⟩ | exact ⟨rfl, rfl⟩
      · have LEN : Hid (∀ j, j < L.length → (rA L j).zs.length = u.length) := fun j hj => HM.out j (by omega)
        clear HM H2
        have H1 := Lib.hid (H1.out LEN.out)
        have HE := Lib.hid (HE.out LEN.out)
        go_wp2_with fail
        clear hlt hk
        go_loop [8] (fun p => ∃ i : Nat, i ≤ L.length ∧ p = .int .i64 i ∧ Hid (∀ j, j < i → withB (rA L j).zs (-10000) 10000 = true ∧ ¬ (at0 b j < -10000 ∨ 10000 < at0 b j))) (fun p => L.length - (intOf p).toNat)
        case atStart => exact ⟨0, by omega, rfl, fun j hj => absurd hj (by omega)⟩
        case round =>
          obtain ⟨i, hi, rfl, HM⟩ := hrel
          by_cases hlt : i < L.length
          · obtain ⟨b0, off, e1, hc0⟩ := HR.out.1.at i hlt
            subst e1
            have RR := Lib.hid (HR.out.2 _ (rA_mem hlt)).1
            have hz := (HR.out.2 _ (rA_mem hlt)).2
            have RB : Hid (withB (rA L i).zs (-10000) 10000 = false → (1 : Int) = S) := fun h => (H1.out (.inr (anyB_yes hlt (by unfold badR2; rw [h]; rfl)))).symm
            have HM2 : Hid (withB (rA L i).zs (-10000) 10000 = true → ¬ (at0 b i < -10000 ∨ 10000 < at0 b i) → ∀ j, j < i + 1 → withB (rA L j).zs (-10000) 10000 = true ∧ ¬ (at0 b j < -10000 ∨ 10000 < at0 b j)) := fun h1 h2 j hj => by
              rcases Nat.lt_succ_iff_lt_or_eq.1 hj with h | h
              · exact HM.out j h
              · rw [h]; exact ⟨h1, h2⟩
            obtain ⟨bb, ob, e2, hcb⟩ := at_of_reads HB.out i (by rw [← HLB.out]; exact hlt)
            have hib : i < b.length := by rw [← HLB.out]; exact hlt
            have BB : Hid (at0 b i < -10000 ∨ 10000 < at0 b i → (1 : Int) = S) := fun h => (H1.out (.inl (.inl (withB_no hib h)))).symm
            clear HM
            generalize rA L i = row at *
            obtain ⟨rAa, zs, rc⟩ := row
            dsimp only at *
            go_wp2_with fail
            go_loop [9] (fun p => ∃ k : Nat, k ≤ zs.length ∧ p = .int .i64 k ∧ Hid (∀ j, j < k → ¬ (at0 zs j < -10000 ∨ 10000 < at0 zs j))) (fun p => zs.length - (intOf p).toNat)
            case atStart => exact ⟨0, by omega, rfl, fun j hj => absurd hj (by omega)⟩
            case round =>
              obtain ⟨k, hk, rfl, HN⟩ := hrel
              by_cases hkl : k < zs.length
              · obtain ⟨b3, o3, e3, hx⟩ := at_of_reads RR.out k hkl
                subst e3
                have RX : Hid (at0 zs k < -10000 ∨ 10000 < at0 zs k → (1 : Int) = S) := fun h => RB.out (withB_no hkl h)
                have HN2 : Hid (¬ (at0 zs k < -10000 ∨ 10000 < at0 zs k) → ∀ j, j < k + 1 → ¬ (at0 zs j < -10000 ∨ 10000 < at0 zs j)) := fun h j hj => by
                  rcases Nat.lt_succ_iff_lt_or_eq.1 hj with h' | h'
                  · exact HN.out j h'
                  · rw [h']; exact h
                clear HN
                generalize at0 zs k = x at *
                rcases Classical.em (x < -10000) with h1 | h1
                · have d5 : decide (x < -10000) = true := decide_eq_true h1
                  have R := Lib.hid (RX.out (.inl h1))
                  go_wp2
                  go_ret
                  first | exact ⟨ret_i R.out, rfl⟩ | exact ⟨rfl, rfl⟩
                · have d5 : decide (x < -10000) = false := decide_eq_false h1
                  rcases Classical.em (10000 < x) with h2 | h2
                  · have d6 : decide (10000 < x) = true := decide_eq_true h2
                    have R := Lib.hid (RX.out (.inr h2))
                    go_wp2
                    go_ret
                    first | exact ⟨ret_i R.out, rfl⟩ | exact ⟨rfl, rfl⟩
                  · have d6 : decide (10000 < x) = false := decide_eq_false h2
                    have R := Lib.hid (HN2.out (by omega))
                    go_wp2
                    go_round
                    case rel => exact ⟨k + 1, by omega, by go_num, R⟩
                    case measure => simp [intOf]; omega
              · have W1 := Lib.hid (withB_yes (l := zs) (lo := -10000) (hi := 10000) (fun j hj => HN.out j (by omega)))
                clear HN
                subst e2
                have HM3 := Lib.hid (HM2.out W1.out)
                clear HM2
                generalize at0 b i = x at *
                rcases Classical.em (x < -10000) with h1 | h1
                · have d5 : decide (x < -10000) = true := decide_eq_true h1
                  have R := Lib.hid (BB.out (.inl h1))
                  go_wp2
                  go_ret
                  first | exact ⟨ret_i R.out, rfl⟩ | exact ⟨rfl, rfl⟩
                · have d5 : decide (x < -10000) = false := decide_eq_false h1
                  rcases Classical.em (10000 < x) with h2 | h2
                  · have d6 : decide (10000 < x) = true := decide_eq_true h2
                    have R := Lib.hid (BB.out (.inr h2))
                    go_wp2
                    go_ret
                    first | exact ⟨ret_i R.out, rfl⟩ | exact ⟨rfl, rfl⟩
                  · have d6 : decide (10000 < x) = false := decide_eq_false h2
                    have R := Lib.hid (HM3.out (by omega))
                    go_wp2
                    go_round
                    case rel => exact ⟨i + 1, by omega, by go_num, R⟩
                    case measure => simp [intOf]; omega
          · have WB := Lib.hid (withB_yes (l := b) (lo := -10000) (hi := 10000) (fun j hj => (HM.out j (by have := HLB.out; omega)).2))
            have WR : Hid (∀ j, j < L.length → withB (rA L j).zs (-10000) 10000 = true) := fun j hj => (HM.out j (by omega)).1
            have HE := Lib.hid (fun h => HE.out WB.out h WR.out)
            clear HM
            go_wp2_with fail
            go_loop [10] (fun p => ∃ i : Nat, i ≤ u.length ∧ p = .int .i64 i ∧ Hid (∀ j, j < i → ¬ (at0 u j < 0 ∨ 1000 < at0 u j))) (fun p => u.length - (intOf p).toNat)
            case atStart => exact ⟨0, by omega, rfl, fun j hj => absurd hj (by omega)⟩
            case round =>
              obtain ⟨i, hi, rfl, HM⟩ := hrel
              by_cases hlt : i < u.length
              · obtain ⟨b0, off, e1, hc0⟩ := at_of_reads HU.out i hlt
                subst e1
                have RX : Hid (at0 u i < 0 ∨ 1000 < at0 u i → (1 : Int) = S) := fun h => (H1.out (.inl (.inr (withB_no hlt h)))).symm
                have HN2 : Hid (¬ (at0 u i < 0 ∨ 1000 < at0 u i) → ∀ j, j < i + 1 → ¬ (at0 u j < 0 ∨ 1000 < at0 u j)) := fun h j hj => by
                  rcases Nat.lt_succ_iff_lt_or_eq.1 hj with h' | h'
                  · exact HM.out j h'
                  · rw [h']; exact h
                clear HM HE
                generalize at0 u i = x at *
                rcases Classical.em (x < 0) with h1 | h1
                · have d5 : decide (x < 0) = true := decide_eq_true h1
                  have R := Lib.hid (RX.out (.inl h1))
                  go_wp2
                  go_ret
                  first | exact ⟨ret_i R.out, rfl⟩ | exact ⟨rfl, rfl⟩
                · have d5 : decide (x < 0) = false := decide_eq_false h1
                  rcases Classical.em (1000 < x) with h2 | h2
                  · have d6 : decide (1000 < x) = true := decide_eq_true h2
                    have R := Lib.hid (RX.out (.inr h2))
                    go_wp2
                    go_ret
                    first | exact ⟨ret_i R.out, rfl⟩ | exact ⟨rfl, rfl⟩
                  · have d6 : decide (1000 < x) = false := decide_eq_false h2
                    have R := Lib.hid (HN2.out (by omega))
                    go_wp2
                    go_round
                    case rel => exact ⟨i + 1, by omega, by go_num, R⟩
                    case measure => simp [intOf]; omega
              · have WU : Hid (∀ j, j < u.length → 0 ≤ at0 u j ∧ at0 u j ≤ 1000) := fun j hj => by
                  have := HM.out j (by omega)
                  omega
                have HE := Lib.hid (HE.out (withB_yes (fun j hj => HM.out j (by omega))))
                have HT : Hid (∀ k, k < u.length → limF u k = true → (14 : Int) = S) := fun k hk h => by have := HE.out; rw [if_pos (anyB_yes hk h)] at this; exact this.symm
                have HN : Hid ((∀ k, k < u.length → limF u k = false) → (0 : Int) = S) := fun h => by have := HE.out; rw [if_neg (by rw [anyB_no h]; decide)] at this; exact this.symm
                clear HM HE WB WR H1
                go_wp2_with fail
                go_loop [11, 12] (fun p q => ∃ k : Nat, k ≤ u.length ∧ q = .int .i64 k ∧ p = .int .i64 (prodTo u k) ∧ 1 ≤ prodTo u k ∧ prodTo u k ≤ 100000 ∧ Hid (∀ j, j < k → limF u j = false)) (fun _ q => u.length - (intOf q).toNat)
                case atStart => exact ⟨0, by omega, rfl, rfl, by simp [prodTo], by simp [prodTo], fun j hj => absurd hj (by omega)⟩
                case round =>
                  obtain ⟨k, hk, rfl, rfl, h1, h2, HM⟩ := hrel
                  by_cases hlt : k < u.length
                  · obtain ⟨b0, off, e1, hc0⟩ := at_of_reads HU.out k hlt
                    subst e1
                    obtain ⟨x1, x2⟩ := WU.out k hlt
                    have E : Hid (prodTo u (k + 1) = prodTo u k * (at0 u k + 1)) := rfl
                    have HT1 := HT.out k hlt
                    have HM1 := Lib.hid (fun h => upto_snoc (f := limF u) HM.out h)
                    have EL : Hid (limF u k = decide (100000 < prodTo u k * (at0 u k + 1))) := rfl
                    rw [EL.out] at HT1 HM1
                    have HT1 := Lib.hid HT1
                    clear HM EL
                    generalize at0 u k = x at *
                    generalize prodTo u k = y at *
                    have m1 : 1 ≤ y * (x + 1) := by
                      have := Int.mul_le_mul (a := 1) (b := 1) (c := y) (d := x + 1) h1 (by omega) (by omega) (by omega)
                      omega
                    have m2 : y * (x + 1) ≤ 100100000 := by
                      have := Int.mul_le_mul (a := y) (b := x + 1) (c := 100000) (d := 1001) h2 (by omega) (by omega) (by omega)
                      omega
                    generalize hz2 : y * (x + 1) = z at *
                    have b5 : wrap64 (y * (x + 1)) = z := by rw [hz2]; unfold wrap64; omega
                    have b6 : wrap64 (x + 1) = x + 1 := by unfold wrap64; omega
                    rcases Classical.em (100000 < z) with h3 | h3
                    · have d5 : decide (100000 < z) = true := decide_eq_true h3
                      have R := Lib.hid (HT1.out d5)
                      clear HT1 HM1
                      go_wp2
                      go_ret
                      first | exact ⟨ret_i R.out, rfl⟩ | exact ⟨rfl, rfl⟩
                    · have d5 : decide (100000 < z) = false := decide_eq_false h3
                      have R := Lib.hid (HM1.out d5)
                      clear HT1 HM1
                      go_wp2
                      go_round
                      case rel => exact ⟨k + 1, by omega, by go_num, by rw [E.out], by rw [E.out]; exact m1, by rw [E.out]; omega, R⟩
                      case measure => simp [intOf]; omega
                  · have R := Lib.hid (HN.out (fun j hj => HM.out j (by omega)))
                    go_wp2
                    go_ret
                    first | exact ⟨ret_i R.out, rfl⟩ | exact ⟨rfl, rfl⟩
end Go.Proofs.Ytneediihponfiaa
