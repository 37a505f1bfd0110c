/- The reference's product and validity, the two comparisons, and the law on the order. -/
import Derived.Test.YtfkdeboimabmpaaDoorFG
namespace Go.Proofs.YtfkdeboimabmpaaDoor
open Go.RowKit

/-- the three blocks of the product: the result, the sum, the step -/
def TimInv (g : Nat) (o s : Nat) (w : World) : Prop := Bl w g 0 ∧ Bl w (g + 1) o ∧ Bl w (g + 1 + 1) s
section
variable {g o s : Nat} {w w' : World}
theorem TimInv.below (h : TimInv g o s w) (hb : Below w.heap.size w w') : TimInv g o s w' := ⟨h.1.below hb h.1.lt, h.2.1.below hb h.2.1.lt, h.2.2.below hb h.2.2.lt⟩
theorem TimInv.size (h : TimInv g o s w) : g + 3 ≤ w.heap.size := h.2.2.lt
theorem TimInv.putO (h : TimInv g o s w) (m : Nat) : TimInv g m s ((w.setCell ⟨g + 1, 0, none⟩ (.int .u64 (hI m))).setCell ⟨g + 1, 1, none⟩ (.int .u64 (lI m))) :=
  ⟨(h.1.far (by simp) _).far (by simp) _, h.2.1.put m, (h.2.2.far (by simp) _).far (by simp) _⟩
theorem TimInv.putS (h : TimInv g o s w) (m : Nat) : TimInv g o m ((w.setCell ⟨g + 1 + 1, 0, none⟩ (.int .u64 (hI m))).setCell ⟨g + 1 + 1, 1, none⟩ (.int .u64 (lI m))) :=
  ⟨(h.1.far (by simp; omega) _).far (by simp; omega) _, (h.2.1.far (by simp) _).far (by simp) _, h.2.2.put m⟩
theorem TimInv.cells (h : TimInv g o s w) : (w.cell? ⟨g + 1, 0, none⟩ = some (.int .u64 (hI o)) ∧ w.cell? ⟨g + 1, 1, none⟩ = some (.int .u64 (lI o)) ∧ w.cell? ⟨g + 1 + 1, 0, none⟩ = some (.int .u64 (hI s)) ∧ w.cell? ⟨g + 1 + 1, 1, none⟩ = some (.int .u64 (lI s))) ∧
    (w.cell? ⟨g, 0, none⟩ = some (.int .u64 (hI 0)) ∧ w.cell? ⟨g, 1, none⟩ = some (.int .u64 (lI 0)) ∧ w.frozen? ⟨g, 0, none⟩ = false ∧ w.frozen? ⟨g, 1, none⟩ = false) ∧
    (w.frozen? ⟨g + 1, 0, none⟩ = false ∧ w.frozen? ⟨g + 1, 1, none⟩ = false ∧ w.frozen? ⟨g + 1 + 1, 0, none⟩ = false ∧ w.frozen? ⟨g + 1 + 1, 1, none⟩ = false) :=
  ⟨⟨h.2.1.c0, h.2.1.c1, h.2.2.c0, h.2.2.c1⟩, ⟨h.1.c0, h.1.c1, h.1.f0, h.1.f1⟩, h.2.1.f0, h.2.1.f1, h.2.2.f0, h.2.2.f1⟩
end
theorem tim_start (a : Nat) (w : World) (ha : a < 18446744073709551616) : TimInv w.heap.size 0 a (((w.alloc (.cells #[.int .u64 0, .int .u64 0] 42)).alloc (.cells #[.int .u64 0, .int .u64 0] 42)).alloc (.cells #[.int .u64 0, .int .u64 (a : Int)] 42)) := by
  have z : (Obj.cells #[.int .u64 0, .int .u64 0] 42) = .cells #[.int .u64 (hI 0), .int .u64 (lI 0)] 42 := rfl
  have z2 : (Obj.cells #[.int .u64 0, .int .u64 (a : Int)] 42) = .cells #[.int .u64 (hI a), .int .u64 (lI a)] 42 := by rw [hI_small a ha, lI_small a ha]
  rw [z, z2]
  exact ⟨((Bl.new' w 0 rfl).alloc _).alloc _, (Bl.new' _ 0 (by simp)).alloc _, Bl.new' _ a (by simp)⟩
/-- one round of the product -/
theorem tim_step (a b k : Nat) : a * (b % 2 ^ (k + 1)) = a * (b % 2 ^ k) + (if b / 2 ^ k % 2 = 1 then a * 2 ^ k else 0) := by
  rw [Nat.mod_pow_succ, Nat.mul_add]
  split
  · rename_i h; rw [h, Nat.mul_one]
  · rename_i h
    have : b / 2 ^ k % 2 = 0 := by omega
    rw [this, Nat.mul_zero, Nat.mul_zero]
theorem tim_le (a b k : Nat) (h : 0 < b / 2 ^ k) : a * 2 ^ k ≤ a * b := by
  refine Nat.mul_le_mul_left _ ?_
  rcases Nat.lt_or_ge b (2 ^ k) with h1 | h1
  · rw [Nat.div_eq_of_lt h1] at h; omega
  · exact h1
theorem tim_lt (a b : Nat) (ha : a < 18446744073709551616) (hb : b < 18446744073709551616) : a * b < 340282366920938463463374607431768211456 := by
  rcases Nat.eq_zero_or_pos b with h | h
  · subst h; omega
  · calc a * b < 18446744073709551616 * b := Nat.mul_lt_mul_of_pos_right ha h
      _ ≤ 18446744073709551616 * 18446744073709551616 := Nat.mul_le_mul_left _ (Nat.le_of_lt hb)
      _ = _ := by decide
set_option maxHeartbeats 4000000 in
set_option maxRecDepth 1000000 in
theorem times_w (a b : Nat) (w : World) (ha : a < 18446744073709551616) (hb : b < 18446744073709551616) :
    Calls Tryd.prog 26 #[.int .u64 (a : Int), .int .u64 (b : Int)] w fun e w' => e = .returned (.agg #[.int .u64 (hI (a * b)), .int .u64 (lI (a * b))]) ∧ Below w.heap.size w w' := by
  have HA := Lib.hid ha
  have HB := Lib.hid hb
  have HAB := Lib.hid (tim_lt a b ha hb)
  clear ha hb
  go_enter Tryd.func26, Tryd.ntmps26
  go_wp2_with fail
  go_loopg [1, 7] 64 (fun n y q wr => ∃ k r s : Nat, k + n = 64 ∧ q = .int .i64 (k : Int) ∧ y = .int .u64 (r : Int) ∧ Hid (r = b / 2 ^ k) ∧ Hid (0 < r → s = a * 2 ^ k) ∧ Hid (TimInv w.heap.size (a * (b % 2 ^ k)) s wr) ∧ Hid (Below w.heap.size w wr))
  case atStart =>
    refine ⟨0, b, a, rfl, rfl, rfl, ?_, fun _ => ?_, ?_, ?_⟩
    · show b = b / 2 ^ 0; rw [Nat.pow_zero, Nat.div_one]
    · rw [Nat.pow_zero, Nat.mul_one]
    · rw [Nat.pow_zero, Nat.mod_one, Nat.mul_zero]; exact tim_start a w HA.out
    · exact (((Below.refl _ _).alloc (Nat.le_refl _) _).alloc (by first | (simp; done) | (simp; omega)) _).alloc (by first | (simp; done) | (simp; omega)) _
  case round =>
    obtain ⟨k, r, s, hk, hq, hy, HR, HS, HI, HBw⟩ := hrel
    subst hq hy
    obtain ⟨C1, C2, C3⟩ := HI.out.cells
    have HG := Lib.hid HI.out.size
    by_cases h64 : k = 64
    · have HK := Lib.hid h64
      have t : ¬ (k : Int) < 64 := by omega
      have HE : Hid (a * (b % 2 ^ k) = a * b) := by
        show _ = _
        rw [h64, show (2 : Nat) ^ 64 = 18446744073709551616 by decide, Nat.mod_eq_of_lt HB.out]
      generalize a * (b % 2 ^ k) = m at *
      clear h64 hk
      go_wp2_with fail
      refine bodyPost_ret (v := .agg #[.int .u64 (hI m), .int .u64 (lI m)]) (by simp [results, Tryd.results26, go_sem, *]) rfl ⟨by rw [HE.out], ?_⟩
      exact (HBw.out.setCell (Nat.le_refl _) _).setCell (Nat.le_refl _) _
    · have HK : Hid (k < 64) := by show _ < _; omega
      have t : (k : Int) < 64 := by have := HK.out; omega
      have HN : Hid (k + gk = 64) := hk
      clear h64 hk
      have hn : gk ≠ 0 := by have := HK.out; have := HN.out; omega
      obtain ⟨n, rfl⟩ : ∃ n, gk = n + 1 := ⟨gk - 1, by omega⟩
      clear hn
      have hw1 : IntKind.i64.wrap ((k : Int) + 1) = (k : Int) + 1 := IntWalk.i64_in _ (by have := HK.out; omega)
      have hw2 : wrap64 ((k : Int) + 1) = (k : Int) + 1 := IntWalk.wrap64_in _ (by have := HK.out; omega)
      have HW := Lib.hid hw2
      have eq2 : (r : Int).tdiv 2 = ((r / 2 : Nat) : Int) := Int.ofNat_tdiv r 2
      have HR2 : Hid (r / 2 = b / 2 ^ (k + 1)) := by show _ = _; rw [HR.out, Nat.div_div_eq_div_mul, ← Nat.pow_succ]
      have HST := Lib.hid (tim_step a b k)
      rw [← HR.out] at HST
      have HL1 : Hid (0 < r → a * 2 ^ k ≤ a * b) := by rw [HR.out]; exact tim_le a b k
      have HL2 : Hid (0 < r / 2 → a * 2 ^ (k + 1) ≤ a * b) := by rw [HR2.out]; exact tim_le a b (k + 1)
      have HMO : Hid (a * (b % 2 ^ (k + 1)) ≤ a * b) := Nat.mul_le_mul_left _ (Nat.mod_le _ _)
      have HP2 : Hid (a * 2 ^ (k + 1) = 2 * (a * 2 ^ k)) := by show _ = _; rw [Nat.pow_succ, ← Nat.mul_assoc, Nat.mul_comm]
      have HR3 : Hid (r / 2 ≤ r ∧ (r % 2 = 1 → 0 < r)) := ⟨by omega, by omega⟩
      have er : r % 2 = 1 ∨ r % 2 = 0 := by omega
      have em : (r : Int).tmod 2 = ((r % 2 : Nat) : Int) := Int.ofNat_tmod r 2
      have HM := Lib.hid em
      clear em
      have hr2 : IntKind.u64.wrap ((r / 2 : Nat) : Int) = ((r / 2 : Nat) : Int) := by
        have h1 : r ≤ b := by rw [HR.out]; exact Nat.div_le_self _ _
        have := HB.out
        rw [IntKind.wrap_u64]; omega
      generalize eO : a * (b % 2 ^ (k + 1)) = o2 at *
      have EO := Lib.hid eO
      clear eO
      generalize a * (b % 2 ^ k) = o at *
      generalize eS : a * 2 ^ (k + 1) = s2 at *
      have ES := Lib.hid eS
      clear eS
      generalize a * 2 ^ k = s1 at *
      generalize a * b = m at *
      generalize eR2 : r / 2 = r2 at *
      clear eR2
      have h2 : (0 < r2) ∨ r2 = 0 := by omega
      rcases er with er | er
      · have em : (r : Int).tmod 2 = 1 := by rw [HM.out, er]; rfl
        have HSE : Hid (s = s1) := HS.out (HR3.out.2 er)
        rw [if_pos er] at HST
        clear er
        go_wp2_with fail
        go_at_call 35
        refine (plus_w o s o2 _ (by have := HST.out; have := HSE.out; omega) (Nat.lt_of_le_of_lt HMO.out HAB.out)).mono ?_
        rintro _ w1 ⟨rfl, hb⟩
        clear C1 C2 C3
        have HI1 := Lib.hid ((HI.out.below hb).putO o2)
        have HB1 := Lib.hid (((HBw.out.trans (hb.mono (by have := HG.out; omega))).setCell (p := ⟨w.heap.size + 1, 0, none⟩) (Nat.le_succ _) (.int .u64 (hI o2))).setCell (p := ⟨w.heap.size + 1, 1, none⟩) (Nat.le_succ _) (.int .u64 (lI o2)))
        obtain ⟨C1, C2, C3⟩ := (HI.out.below hb).cells
        obtain ⟨D1, D2, D3⟩ := HI1.out.cells
        clear hb HI HBw HG
        rcases h2 with h2 | h2
        · have HH := Lib.hid h2
          have t2 : (0 : Int) < (r2 : Int) := by omega
          clear h2
          go_wp2_with fail
          clear D1 D2 D3
          generalize (w1.setCell ⟨w.heap.size + 1, 0, none⟩ (.int .u64 (hI o2))).setCell ⟨w.heap.size + 1, 1, none⟩ (.int .u64 (lI o2)) = w3 at *
          go_at_call 35
          refine (plus_w s s s2 _ (by have := HP2.out; have := HSE.out; omega) (Nat.lt_of_le_of_lt (HL2.out HH.out) HAB.out)).mono ?_
          rintro _ w2 ⟨rfl, hb⟩
          have HI2 := Lib.hid ((HI1.out.below hb).putS s2)
          have HB2 := Lib.hid (((HB1.out.trans (hb.mono (by have := HI1.out.size; omega))).setCell (p := ⟨w.heap.size + 1 + 1, 0, none⟩) (by simp; omega) (.int .u64 (hI s2))).setCell (p := ⟨w.heap.size + 1 + 1, 1, none⟩) (by simp; omega) (.int .u64 (lI s2)))
          clear C1 C2 C3
          obtain ⟨C1, C2, C3⟩ := (HI1.out.below hb).cells
          clear hb
          go_wp2_with fail
          go_roundg n
          case measure => exact Nat.lt_succ_self n
          case rel => exact ⟨k + 1, r2, s2, by have := HN.out; omega, congrArg (Value.int .i64) (by omega), rfl, HR2, fun _ => ES.out.symm, by rw [EO.out]; exact HI2, HB2⟩
        · have HH : Hid (¬ 0 < r2) := by show ¬ _; omega
          have t2 : ¬ (0 : Int) < (r2 : Int) := by omega
          clear h2
          go_wp2_with fail
          go_roundg n
          case measure => exact Nat.lt_succ_self n
          case rel => exact ⟨k + 1, r2, s, by have := HN.out; omega, congrArg (Value.int .i64) (by omega), rfl, HR2, fun h => absurd h HH.out, by rw [EO.out]; exact HI1, HB1⟩
      · have em : (r : Int).tmod 2 = 0 := by rw [HM.out, er]; rfl
        have HSE : Hid (0 < r → s = s1) := HS
        rw [if_neg (by omega)] at HST
        have ho : o2 = o := by have := HST.out; omega
        subst ho
        clear er
        rcases h2 with h2 | h2
        · have HH := Lib.hid h2
          replace HSE : Hid (s = s1) := HS.out (Nat.lt_of_lt_of_le h2 HR3.out.1)
          have t2 : (0 : Int) < (r2 : Int) := by omega
          clear h2
          go_wp2_with fail
          go_at_call 35
          refine (plus_w s s s2 _ (by have := HP2.out; have := HSE.out; omega) (Nat.lt_of_le_of_lt (HL2.out HH.out) HAB.out)).mono ?_
          rintro _ w2 ⟨rfl, hb⟩
          have HI2 := Lib.hid ((HI.out.below hb).putS s2)
          have HB2 := Lib.hid (((HBw.out.trans (hb.mono (by have := HI.out.size; omega))).setCell (p := ⟨w.heap.size + 1 + 1, 0, none⟩) (by simp; omega) (.int .u64 (hI s2))).setCell (p := ⟨w.heap.size + 1 + 1, 1, none⟩) (by simp; omega) (.int .u64 (lI s2)))
          clear C1 C2 C3
          obtain ⟨C1, C2, C3⟩ := (HI.out.below hb).cells
          clear hb
          go_wp2_with fail
          go_roundg n
          case measure => exact Nat.lt_succ_self n
          case rel => exact ⟨k + 1, r2, s2, by have := HN.out; omega, congrArg (Value.int .i64) (by omega), rfl, HR2, fun _ => ES.out.symm, by rw [EO.out]; exact HI2, HB2⟩
        · have HH : Hid (¬ 0 < r2) := by show ¬ _; omega
          have t2 : ¬ (0 : Int) < (r2 : Int) := by omega
          clear h2
          go_wp2_with fail
          go_roundg n
          case measure => exact Nat.lt_succ_self n
          case rel => exact ⟨k + 1, r2, s, by have := HN.out; omega, congrArg (Value.int .i64) (by omega), rfl, HR2, fun h => absurd h HH.out, by rw [EO.out]; exact HI, HBw⟩
end Go.Proofs.YtfkdeboimabmpaaDoor
