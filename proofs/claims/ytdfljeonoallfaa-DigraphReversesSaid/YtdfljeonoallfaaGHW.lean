/- heap.down on digraph's queue. -/
import Derived.Test.YtdfljeonoallfaaGHU
import Derived.Test.YtdfljeonoallfaaGW
namespace Go.Proofs.Ytdfljeonoallfaa
open Go.RowKit Go.Deep

set_option maxHeartbeats 8000000 in
set_option maxRecDepth 100000 in
theorem hdown_any (Q base g m c i0 n : Nat) (q : Nat → Int) (w : World) (H : HeapS w Q base g m c q) (hD : hDn q n i0) (hi0 : i0 < m) (hnm : n ≤ m) :
    Calls Try.prog 46 #[.iface 47 (.pointer (some ⟨Q, 0, none⟩)), .int .i64 (i0 : Nat), .int .i64 (n : Nat)] w fun e w' => (∃ z, e = .returned z) ∧ ∃ q', HeapS w' Q base g m c q' ∧ hOk q' n ∧ SameH q q' n ∧ (∀ k, n ≤ k → q' k = q k) ∧ KeepOn (fun k => k ≠ g) w w' := by
  have hm := H.hm
  have H0 : Hid (HeapS w Q base g m c q) := H
  have U0 : Hid (hDn q n i0) := hD
  have S0 : Hid (SameH q q n) := SameH.refl q n
  have F0 : Hid (∀ k, n ≤ k → q k = q k) := fun _ _ => rfl
  have B0 : Hid (KeepOn (fun k => k ≠ g) w w) := KeepOn.refl _ _
  clear H hD
  go_enter Try.func46, Try.ntmps46
  go_wp2_with fail
  go_loopw [7] (fun jv wr => ∃ (i : Nat) (q' : Nat → Int), i < m ∧ jv = .int .i64 (i : Nat) ∧ Hid (HeapS wr Q base g m c q') ∧ Hid (hDn q' n i) ∧ Hid (SameH q q' n) ∧ Hid (∀ k, n ≤ k → q' k = q k) ∧ Hid (KeepOn (fun k => k ≠ g) w wr)) (fun jv _ => m - (intOf jv).toNat)
  case atStart => exact ⟨i0, q, hi0, rfl, H0, U0, S0, Lib.hid fun _ _ => rfl, B0⟩
  case round =>
    clear H0 U0 S0 B0 F0
    obtain ⟨wo, rfl⟩ : ∃ wo, wo = wr := ⟨_, rfl⟩
    obtain ⟨i, q', hi, rfl, HH, HU, HS, HF, BB⟩ := hrel
    have M1 := meth_less Q _ wo HH.out.cell
    obtain ⟨a, ha⟩ : ∃ a, a = 2 * i + 1 := ⟨_, rfl⟩
    obtain ⟨b, hb⟩ : ∃ b, b = 2 * i + 2 := ⟨_, rfl⟩
    have hai : 2 * (i : Int) + 1 = (a : Int) := by omega
    have hbi : (a : Int) + 1 = (b : Int) := by omega
    have HPA : Hid ((a - 1) / 2 = i) := by show _ = _; omega
    have HPB : Hid ((b - 1) / 2 = i) := by show _ = _; omega
    have HKAB : Hid (∀ k, 0 < k → (k - 1) / 2 = i → k = a ∨ k = b) := fun k h1 h2 => by omega
    have h0a : 0 < a := by omega
    have h0b : 0 < b := by omega
    have hab : b ≤ 300000 := by omega
    have hab2 : a < b := by omega
    have hia : i < a := by omega
    clear ha hb
    by_cases han : a < n
    · have hd1 : decide (n ≤ a) = false := decide_eq_false (by omega)
      have hd1i : decide ((n : Int) ≤ (a : Int)) = false := decide_eq_false (by omega)
      by_cases hbn : b < n
      · have hd2 : decide (b < n) = true := decide_eq_true hbn
        have hd2i : decide ((b : Int) < (n : Int)) = true := decide_eq_true (by omega)
        have CL := Lib.hid (HH.out.less (show b < m by omega) (show a < m by omega))
        go_wp2_with fail
        refine CL.out.mono ?_
        rintro e w1 ⟨rfl, K⟩
        have H1 := Lib.hid (HH.out.below K)
        have M2 := meth_less Q _ w1 H1.out.cell
        have B1 := Lib.hid (BB.out.trans (KeepOn.of_below _ K))
        clear K CL M1
        by_cases hba : q' b < q' a
        · have hd3 : decide (q' b < q' a) = true := decide_eq_true hba
          have hmin : ∀ k, 0 < k → k < n → (k - 1) / 2 = i → q' b ≤ q' k := fun k h1 h2 h3 => by
            rcases HKAB.out k h1 h3 with rfl | rfl
            · omega
            · omega
          have CL2 := Lib.hid (H1.out.less (show b < m by omega) hi)
          clear HH BB
          go_wp2_with fail
          refine CL2.out.mono ?_
          rintro e w5 ⟨rfl, K5⟩
          have H5 := Lib.hid (H1.out.below K5)
          have M5 := meth_swap Q _ w5 H5.out.cell
          have B5 := Lib.hid (B1.out.trans (KeepOn.of_below _ K5))
          clear K5 CL2
          by_cases hlt : q' b < q' i
          · have hd5 : decide (q' b < q' i) = true := decide_eq_true hlt
            have U2 := Lib.hid (hDn_step h0b HPB.out hmin (by omega) hlt HU.out)
            have S2 := Lib.hid (HS.out.swap (i := i) (j := b) (by omega) (by omega))
            have F2 : Hid (∀ k, n ≤ k → swpH q' i b k = q k) := fun k hk => by
              rw [swpH_o q' (by omega) (by omega)]
              exact HF.out k hk
            have G1 := H5.out.get hi
            have G2 := H5.out.get (show b < m by omega)
            have CW := Lib.hid (qswap_any g m c i b (q' i) (q' b) w5 hi (by omega) (by omega) G1.1 G2.1 G1.2 G2.2)
            have H2 := Lib.hid (H5.out.swap i b)
            have B2 : Hid (KeepOn (fun k => k ≠ g) w ((w5.setCell ⟨g, i, none⟩ (.int .i64 (q' b))).setCell ⟨g, b, none⟩ (.int .i64 (q' i))).drew) := ((B5.out.trans (KeepOn.set _ _ _ fun h => h rfl)).trans (KeepOn.set _ _ _ fun h => h rfl)).trans (KeepOn.drew _)
            clear G1 G2 HU HS HF H5 B5
            go_wp2_with fail
            refine CW.out.mono ?_
            rintro e w6 ⟨⟨z, rfl⟩, rfl⟩
            go_wp2
            go_roundw
            case rel => exact ⟨b, _, by omega, by go_num, H2, U2, S2, F2, B2⟩
            case measure => simp [intOf]; omega
          · have hd5 : decide (q' b < q' i) = false := decide_eq_false hlt
            have OK := Lib.hid (hDn_end HU.out fun k h1 h2 h3 => Int.le_trans (by omega) (hmin k h1 h2 h3))
            clear HU
            go_wp2_with fail
            go_ret
            exact ⟨⟨_, rfl⟩, q', H5.out, OK.out, HS.out, HF.out, B5.out⟩
        · have hd3 : decide (q' b < q' a) = false := decide_eq_false hba
          have hmin : ∀ k, 0 < k → k < n → (k - 1) / 2 = i → q' a ≤ q' k := fun k h1 h2 h3 => by
            rcases HKAB.out k h1 h3 with rfl | rfl
            · omega
            · omega
          have CL2 := Lib.hid (H1.out.less (show a < m by omega) hi)
          clear HH BB
          go_wp2_with fail
          refine CL2.out.mono ?_
          rintro e w5 ⟨rfl, K5⟩
          have H5 := Lib.hid (H1.out.below K5)
          have M5 := meth_swap Q _ w5 H5.out.cell
          have B5 := Lib.hid (B1.out.trans (KeepOn.of_below _ K5))
          clear K5 CL2
          by_cases hlt : q' a < q' i
          · have hd5 : decide (q' a < q' i) = true := decide_eq_true hlt
            have U2 := Lib.hid (hDn_step h0a HPA.out hmin (by omega) hlt HU.out)
            have S2 := Lib.hid (HS.out.swap (i := i) (j := a) (by omega) (by omega))
            have F2 : Hid (∀ k, n ≤ k → swpH q' i a k = q k) := fun k hk => by
              rw [swpH_o q' (by omega) (by omega)]
              exact HF.out k hk
            have G1 := H5.out.get hi
            have G2 := H5.out.get (show a < m by omega)
            have CW := Lib.hid (qswap_any g m c i a (q' i) (q' a) w5 hi (by omega) (by omega) G1.1 G2.1 G1.2 G2.2)
            have H2 := Lib.hid (H5.out.swap i a)
            have B2 : Hid (KeepOn (fun k => k ≠ g) w ((w5.setCell ⟨g, i, none⟩ (.int .i64 (q' a))).setCell ⟨g, a, none⟩ (.int .i64 (q' i))).drew) := ((B5.out.trans (KeepOn.set _ _ _ fun h => h rfl)).trans (KeepOn.set _ _ _ fun h => h rfl)).trans (KeepOn.drew _)
            clear G1 G2 HU HS HF H5 B5
            go_wp2_with fail
            refine CW.out.mono ?_
            rintro e w6 ⟨⟨z, rfl⟩, rfl⟩
            go_wp2
            go_roundw
            case rel => exact ⟨a, _, by omega, by go_num, H2, U2, S2, F2, B2⟩
            case measure => simp [intOf]; omega
          · have hd5 : decide (q' a < q' i) = false := decide_eq_false hlt
            have OK := Lib.hid (hDn_end HU.out fun k h1 h2 h3 => Int.le_trans (by omega) (hmin k h1 h2 h3))
            clear HU
            go_wp2_with fail
            go_ret
            exact ⟨⟨_, rfl⟩, q', H5.out, OK.out, HS.out, HF.out, B5.out⟩
      · have hd2 : decide (b < n) = false := decide_eq_false hbn
        have hd2i : decide ((b : Int) < (n : Int)) = false := decide_eq_false (by omega)
        have hmin : ∀ k, 0 < k → k < n → (k - 1) / 2 = i → q' a ≤ q' k := fun k h1 h2 h3 => by
          rcases HKAB.out k h1 h3 with rfl | rfl
          · exact Int.le_refl _
          · omega
        have H1 := HH
        have B1 := BB
        have CL2 := Lib.hid (H1.out.less (show a < m by omega) hi)
        clear HH BB
        go_wp2_with fail
        refine CL2.out.mono ?_
        rintro e w5 ⟨rfl, K5⟩
        have H5 := Lib.hid (H1.out.below K5)
        have M5 := meth_swap Q _ w5 H5.out.cell
        have B5 := Lib.hid (B1.out.trans (KeepOn.of_below _ K5))
        clear K5 CL2
        by_cases hlt : q' a < q' i
        · have hd5 : decide (q' a < q' i) = true := decide_eq_true hlt
          have U2 := Lib.hid (hDn_step h0a HPA.out hmin (by omega) hlt HU.out)
          have S2 := Lib.hid (HS.out.swap (i := i) (j := a) (by omega) (by omega))
          have F2 : Hid (∀ k, n ≤ k → swpH q' i a k = q k) := fun k hk => by
            rw [swpH_o q' (by omega) (by omega)]
            exact HF.out k hk
          have G1 := H5.out.get hi
          have G2 := H5.out.get (show a < m by omega)
          have CW := Lib.hid (qswap_any g m c i a (q' i) (q' a) w5 hi (by omega) (by omega) G1.1 G2.1 G1.2 G2.2)
          have H2 := Lib.hid (H5.out.swap i a)
          have B2 : Hid (KeepOn (fun k => k ≠ g) w ((w5.setCell ⟨g, i, none⟩ (.int .i64 (q' a))).setCell ⟨g, a, none⟩ (.int .i64 (q' i))).drew) := ((B5.out.trans (KeepOn.set _ _ _ fun h => h rfl)).trans (KeepOn.set _ _ _ fun h => h rfl)).trans (KeepOn.drew _)
          clear G1 G2 HU HS HF H5 B5
          go_wp2_with fail
          refine CW.out.mono ?_
          rintro e w6 ⟨⟨z, rfl⟩, rfl⟩
          go_wp2
          go_roundw
          case rel => exact ⟨a, _, by omega, by go_num, H2, U2, S2, F2, B2⟩
          case measure => simp [intOf]; omega
        · have hd5 : decide (q' a < q' i) = false := decide_eq_false hlt
          have OK := Lib.hid (hDn_end HU.out fun k h1 h2 h3 => Int.le_trans (by omega) (hmin k h1 h2 h3))
          clear HU
          go_wp2_with fail
          go_ret
          exact ⟨⟨_, rfl⟩, q', H5.out, OK.out, HS.out, HF.out, B5.out⟩
    · have hd1 : decide (n ≤ a) = true := decide_eq_true (by omega)
      have hd1i : decide ((n : Int) ≤ (a : Int)) = true := decide_eq_true (by omega)
      have OK := Lib.hid (hDn_end HU.out fun k h1 h2 h3 => absurd h2 (by omega))
      clear HU M1
      go_wp2_with fail
      go_ret
      exact ⟨⟨_, rfl⟩, q', HH.out, OK.out, HS.out, HF.out, BB.out⟩
end Go.Proofs.Ytdfljeonoallfaa
