/- The reference's digits, text and floor. -/
import Derived.Test.YtdmcpnpiepmnkaaDoorFL
import Derived.Laws.IdiomStrings
namespace Go.Proofs.YtdmcpnpiepmnkaaDoor
open Go.RowKit

theorem ref_floor (x y : Int) (h1 : -9223372036854775808 ≤ x) (h2 : x ≤ 9223372036854775807) (hy : 1 ≤ y) :
    (x < wrap64 (x.tdiv y * y) → x.tdiv y - 1 = x / y) ∧ (¬ x < wrap64 (x.tdiv y * y) → x.tdiv y = x / y) := by
  have e1 := Int.mul_tdiv_add_tmod x y
  rw [Int.mul_comm] at e1
  have e2 := Int.emod_nonneg x (show y ≠ 0 by omega)
  have e3 := Int.emod_lt_of_pos x (show 0 < y by omega)
  have e5 : x.tmod y < y := Int.tmod_lt_of_pos x (by omega)
  have e6 : -y < x.tmod y := by
    have := Int.tmod_lt_of_pos (-x) (show 0 < y by omega)
    rw [Int.neg_tmod] at this; omega
  by_cases h : x.tmod y < 0
  · obtain ⟨d1, d2⟩ := tdiv_neg x y hy h
    have hx : x < 0 := by
      rcases Int.lt_or_le x 0 with hx | hx
      · exact hx
      · have := Int.tmod_nonneg y hx; omega
    have hw : wrap64 (x.tdiv y * y) = x.tdiv y * y := by
      have : x.tdiv y * y ≤ 0 := by
        have hd : x.tdiv y ≤ 0 := by
          have e9 := Int.tdiv_nonneg (show 0 ≤ -x by omega) (show 0 ≤ y by omega)
          rw [Int.neg_tdiv] at e9
          omega
        have := Int.mul_le_mul_of_nonneg_right hd (show 0 ≤ y by omega)
        omega
      unfold wrap64
      omega
    rw [hw]
    exact ⟨fun _ => by omega, fun e => by omega⟩
  · obtain ⟨d1, d2⟩ := tdiv_pos x y hy (by omega)
    have hw : wrap64 (x.tdiv y * y) = x.tdiv y * y ∨ 0 = 0 := .inr rfl
    by_cases hx : 0 ≤ x
    · have hq := Int.tdiv_nonneg hx (show 0 ≤ y by omega)
      have h0 : 0 ≤ x.tdiv y * y := Int.mul_nonneg hq (by omega)
      have hw : wrap64 (x.tdiv y * y) = x.tdiv y * y := by unfold wrap64; omega
      rw [hw]
      exact ⟨fun e => by omega, fun _ => d1⟩
    · have hm : x.tmod y ≤ 0 := by
        have := Int.tmod_nonneg y (show 0 ≤ -x by omega)
        rw [Int.neg_tmod] at this; omega
      have hz : x.tmod y = 0 := by omega
      have hw : wrap64 (x.tdiv y * y) = x.tdiv y * y := by unfold wrap64; omega
      rw [hw]
      exact ⟨fun e => by omega, fun _ => d1⟩
theorem ref_floor2 (x y : Int) (h1 : -9223372036854775808 ≤ x) (h2 : x ≤ 9223372036854775807) (hy : 1 ≤ y) :
    (x < wrap64 (wrap64 (x.tdiv y) * y) → wrap64 (wrap64 (x.tdiv y) - 1) = x / y) ∧ (¬ x < wrap64 (wrap64 (x.tdiv y) * y) → wrap64 (x.tdiv y) = x / y) := by
  have hb := ediv_bounds x y h1 h2 hy
  have hm : x.tdiv y = x / y ∨ x.tdiv y = x / y + 1 ∧ x < 0 := by
    by_cases h : x.tmod y < 0
    · refine .inr ⟨(tdiv_neg x y hy h).1, ?_⟩
      rcases Int.lt_or_le x 0 with hx | hx
      · exact hx
      · have := Int.tmod_nonneg y hx; omega
    · exact .inl (tdiv_pos x y hy (by omega)).1
  have hn : x < 0 → x / y < 0 := fun hx => Int.ediv_neg_of_neg_of_pos hx (by omega)
  have hw : wrap64 (x.tdiv y) = x.tdiv y := by unfold wrap64; omega
  have hf := ref_floor x y h1 h2 hy
  rw [hw]
  refine ⟨fun h => ?_, hf.2⟩
  have := hf.1 h
  rw [this]
  unfold wrap64
  omega
theorem dec_small {u : Nat} (h : u < 10) : Lib.decDigits u = [UInt8.ofNat (48 + u)] := by rw [Lib.decDigits, dif_pos h]
theorem dec_big {u : Nat} (h : ¬ u < 10) : Lib.decDigits u = Lib.decDigits (u / 10) ++ [UInt8.ofNat (48 + u % 10)] := by rw [Lib.decDigits, dif_neg h]
theorem dec_len : ∀ (k u : Nat), u < 10 ^ (k + 1) → (Lib.decDigits u).length ≤ k + 1
  | 0, u, h => by rw [dec_small (by simpa using h)]; simp
  | k + 1, u, h => by
    by_cases h' : u < 10
    · rw [dec_small h']; simp
    · rw [dec_big h']
      have := dec_len k (u / 10) (by rw [Nat.div_lt_iff_lt_mul (by decide)]; rw [Nat.pow_succ] at h; exact h)
      simp; omega
theorem dec_len20 {u : Nat} (h : u < 18446744073709551616) : (Lib.decDigits u).length ≤ 30 := by
  have h7 : (10 : Nat) ^ (19 + 1) = 100000000000000000000 := by decide +kernel
  have := dec_len 19 u (by omega)
  omega
theorem conv_one (w : World) (b : UInt8) (z : Int) (hz : z = (b.toNat : Int)) :
    (convert 43 9 (.slice (some ⟨w.heap.size, 0, none⟩) 1 1)).run Tryd.prog (w.alloc (.cells #[.int .u8 z] 5)) = .ok (.string ⟨#[b]⟩) (w.alloc (.cells #[.int .u8 z] 5)) := by
  subst hz
  refine run_convert_bytes_back (P := Tryd.prog) _ 43 9 5 ⟨w.heap.size, 0, none⟩ 1 [b] Tryd.underlying43 Tryd.underlying5 Tryd.underlying9 ?_
  intro j hj
  obtain rfl : j = 0 := by simp at hj; omega
  simp [go_sem]
set_option maxHeartbeats 4000000 in
set_option maxRecDepth 1000000 in
theorem digit_any (u : Nat) (h : u < 10) (w : World) :
    Calls Tryd.prog 16 #[.int .u64 u] w fun e w' => e = .returned (.string ⟨(Lib.decDigits u).toArray⟩) ∧ Below w.heap.size w w' := by
  rw [dec_small h]
  have hc : u = 0 ∨ u = 1 ∨ u = 2 ∨ u = 3 ∨ u = 4 ∨ u = 5 ∨ u = 6 ∨ u = 7 ∨ u = 8 ∨ u = 9 := by omega
  clear h
  rcases hc with rfl | rfl | rfl | rfl | rfl | rfl | rfl | rfl | rfl | rfl
  · have hcv := conv_one w 48 48 rfl
    go_enter Tryd.func16, Tryd.ntmps16
    go_wp2_with fail
    go_ret
    exact ⟨rfl, (Below.refl _ _).alloc (Nat.le_refl _) _⟩
  · have hcv := conv_one w 49 49 rfl
    go_enter Tryd.func16, Tryd.ntmps16
    go_wp2_with fail
    go_ret
    exact ⟨rfl, (Below.refl _ _).alloc (Nat.le_refl _) _⟩
  · have hcv := conv_one w 50 50 rfl
    go_enter Tryd.func16, Tryd.ntmps16
    go_wp2_with fail
    go_ret
    exact ⟨rfl, (Below.refl _ _).alloc (Nat.le_refl _) _⟩
  · have hcv := conv_one w 51 51 rfl
    go_enter Tryd.func16, Tryd.ntmps16
    go_wp2_with fail
    go_ret
    exact ⟨rfl, (Below.refl _ _).alloc (Nat.le_refl _) _⟩
  · have hcv := conv_one w 52 52 rfl
    go_enter Tryd.func16, Tryd.ntmps16
    go_wp2_with fail
    go_ret
    exact ⟨rfl, (Below.refl _ _).alloc (Nat.le_refl _) _⟩
  · have hcv := conv_one w 53 53 rfl
    go_enter Tryd.func16, Tryd.ntmps16
    go_wp2_with fail
    go_ret
    exact ⟨rfl, (Below.refl _ _).alloc (Nat.le_refl _) _⟩
  · have hcv := conv_one w 54 54 rfl
    go_enter Tryd.func16, Tryd.ntmps16
    go_wp2_with fail
    go_ret
    exact ⟨rfl, (Below.refl _ _).alloc (Nat.le_refl _) _⟩
  · have hcv := conv_one w 55 55 rfl
    go_enter Tryd.func16, Tryd.ntmps16
    go_wp2_with fail
    go_ret
    exact ⟨rfl, (Below.refl _ _).alloc (Nat.le_refl _) _⟩
  · have hcv := conv_one w 56 56 rfl
    go_enter Tryd.func16, Tryd.ntmps16
    go_wp2_with fail
    go_ret
    exact ⟨rfl, (Below.refl _ _).alloc (Nat.le_refl _) _⟩
  · have hcv := conv_one w 57 57 rfl
    go_enter Tryd.func16, Tryd.ntmps16
    go_wp2_with fail
    go_ret
    exact ⟨rfl, (Below.refl _ _).alloc (Nat.le_refl _) _⟩
set_option maxHeartbeats 4000000 in
set_option maxRecDepth 1000000 in
theorem digits_any : ∀ (u : Nat) (h : u < 18446744073709551616) (w : World),
    Calls Tryd.prog 16 #[.int .u64 u] w fun e w' => e = .returned (.string ⟨(Lib.decDigits u).toArray⟩) ∧ Below w.heap.size w w' := by
  intro u
  induction u using Nat.strongRecOn with
  | _ u ih =>
    intro h w
    by_cases h' : u < 10
    · exact digit_any u h' w
    · have C1 := Lib.hid (fun W => ih (u / 10) (by omega) (by omega) W)
      have C2 := Lib.hid (fun W => digit_any (u % 10) (by omega) W)
      rw [show ((u / 10 : Nat) : Int) = IntKind.u64.wrap ((u : Int) / 10) by simp only [IntKind.wrap_u64]; omega] at C1
      rw [show ((u % 10 : Nat) : Int) = (u : Int) % 10 by omega] at C2
      have L1 := Lib.hid (dec_len20 (u := u / 10) (by omega))
      have L2 := Lib.hid (dec_len20 (u := u % 10) (by omega))
      have HE := Lib.hid (dec_big h')
      rw [← dec_small (u := u % 10) (by omega)] at HE
      rw [HE.out]
      have h2 : ¬ (u : Int) < 10 := by omega
      clear ih h h' HE
      generalize Lib.decDigits (u / 10) = X at *
      generalize Lib.decDigits (u % 10) = Y at *
      have HC := Lib.hid (cat_bytes X Y)
      go_enter Tryd.func16, Tryd.ntmps16
      go_wp2_with fail
      refine (C1.out _).mono ?_
      rintro _ w1 ⟨rfl, K1⟩
      replace K1 := Lib.hid K1
      go_wp2_with fail
      refine (C2.out _).mono ?_
      rintro _ w2 ⟨rfl, K2⟩
      have K2 := Lib.hid (K1.out.trans (K2.mono K1.out.size))
      go_wp2_with fail
      · exfalso
        have := L1.out
        have := L2.out
        omega
      go_ret
      exact ⟨congrArg (fun s => Ending.returned (Value.string s)) HC.out, K2.out⟩
set_option maxHeartbeats 4000000 in
set_option maxRecDepth 1000000 in
theorem rFloor_any (x y : Int) (w : World) (h1 : -9223372036854775808 ≤ x) (h2 : x ≤ 9223372036854775807) (h3 : -9223372036854775808 ≤ y) (h4 : y ≤ 9223372036854775807) :
    Calls Tryd.prog 5 #[.agg #[.int .i64 x, .int .i64 y]] w fun e w' => e = .returned (floorT x y) ∧ Below w.heap.size w w' := by
  have HV := Lib.hid (fun w => refValid_any x y w h1 h2 h3 h4)
  by_cases hv : validB x y = true
  · have hy := validB_pos hv
    have FT : Hid (floorT x y = .tuple #[.int .i64 (x / y), .int .i64 0]) := if_pos hv
    rw [hv] at HV
    rw [FT.out]
    have T1 := ref_floor2 x y h1 h2 hy
    have hy0 : ¬ y = 0 := by omega
    clear FT hv h1 h2 h3 h4 hy
    obtain ⟨hq1, hq2⟩ := T1
    by_cases hc : x < wrap64 (wrap64 (x.tdiv y) * y)
    · have e1 := Lib.hid (hq1 hc)
      clear hq1 hq2
      go_enter Tryd.func5, Tryd.ntmps5
      go_wp2_with fail
      go_at_call 7
      refine (HV.out _).mono ?_
      rintro _ w1 ⟨rfl, hb⟩
      have C1 : w1.cell? ⟨w.heap.size, 0, none⟩ = some (.int .i64 x) := by rw [hb.cell (by simp)]; simp [go_sem]
      have C2 : w1.cell? ⟨w.heap.size, 1, none⟩ = some (.int .i64 y) := by rw [hb.cell (by simp)]; simp [go_sem]
      have K1 := Lib.hid (((Below.refl w.heap.size w).alloc (Nat.le_refl _) (.cells #[.int .i64 x, .int .i64 y] 23)).trans (hb.mono (by simp)))
      clear hb
      go_wp2_with fail
      go_ret2
      exact ⟨by rw [← e1.out]; rfl, K1.out⟩
    · have e1 := Lib.hid (hq2 hc)
      clear hq1 hq2
      go_enter Tryd.func5, Tryd.ntmps5
      go_wp2_with fail
      go_at_call 7
      refine (HV.out _).mono ?_
      rintro _ w1 ⟨rfl, hb⟩
      have C1 : w1.cell? ⟨w.heap.size, 0, none⟩ = some (.int .i64 x) := by rw [hb.cell (by simp)]; simp [go_sem]
      have C2 : w1.cell? ⟨w.heap.size, 1, none⟩ = some (.int .i64 y) := by rw [hb.cell (by simp)]; simp [go_sem]
      have K1 := Lib.hid (((Below.refl w.heap.size w).alloc (Nat.le_refl _) (.cells #[.int .i64 x, .int .i64 y] 23)).trans (hb.mono (by simp)))
      clear hb
      go_wp2_with fail
      go_ret2
      exact ⟨by rw [← e1.out]; rfl, K1.out⟩
  · replace hv : validB x y = false := by simpa using hv
    have FF : Hid (floorT x y = .tuple #[.int .i64 0, .int .i64 1]) := by show _ = _; unfold floorT; rw [hv]; rfl
    rw [hv] at HV
    rw [FF.out]
    clear FF hv h1 h2 h3 h4
    go_enter Tryd.func5, Tryd.ntmps5
    go_wp2_with fail
    go_at_call 7
    refine (HV.out _).mono ?_
    rintro _ w1 ⟨rfl, hb⟩
    have K1 := Lib.hid (((Below.refl w.heap.size w).alloc (Nat.le_refl _) (.cells #[.int .i64 x, .int .i64 y] 23)).trans (hb.mono (by simp)))
    clear hb
    go_wp2_with fail
    go_ret2
    exact ⟨rfl, K1.out⟩
end Go.Proofs.YtdmcpnpiepmnkaaDoor
