/- heap.up on digraph's queue. -/
import Derived.Test.YtdfljeonoallfaaGHU
import Derived.Test.YtdfljeonoallfaaGW
namespace Go.Proofs.Ytdfljeonoallfaa
open Go.RowKit Go.Deep

set_option maxHeartbeats 4000000 in
set_option maxRecDepth 100000 in
theorem hup_any (Q base g m c j : Nat) (q : Nat → Int) (w : World) (H : HeapS w Q base g m c q) (hU : hUp q m j) (hj : j < m) :
    Calls Try.prog 45 #[.iface 47 (.pointer (some ⟨Q, 0, none⟩)), .int .i64 (j : Nat)] w fun e w' => (∃ z, e = .returned z) ∧ ∃ q', HeapS w' Q base g m c q' ∧ hOk q' m ∧ SameH q q' m ∧ KeepOn (fun k => k ≠ g) w w' := by
  have hm := H.hm
  have H0 : Hid (HeapS w Q base g m c q) := H
  have U0 : Hid (hUp q m j) := hU
  have S0 : Hid (SameH q q m) := SameH.refl q m
  have B0 : Hid (KeepOn (fun k => k ≠ g) w w) := KeepOn.refl _ _
  clear H hU
  go_enter Try.func45, Try.ntmps45
  go_wp2_with fail
  go_loopw [1] (fun jv wr => ∃ (i : Nat) (q' : Nat → Int), i < m ∧ jv = .int .i64 (i : Nat) ∧ Hid (HeapS wr Q base g m c q') ∧ Hid (hUp q' m i) ∧ Hid (SameH q q' m) ∧ Hid (KeepOn (fun k => k ≠ g) w wr)) (fun jv _ => (intOf jv).toNat)
  case atStart => exact ⟨j, q, hj, rfl, H0, U0, S0, B0⟩
  case round =>
    clear H0 U0 S0 B0
    obtain ⟨wo, rfl⟩ : ∃ wo, wo = wr := ⟨_, rfl⟩
    obtain ⟨i, q', hi, rfl, HH, HU, HS, BB⟩ := hrel
    have M1 := meth_less Q _ wo HH.out.cell
    have M2 := meth_swap Q _ wo HH.out.cell
    by_cases h0 : i = 0
    · subst h0
      have OK := Lib.hid (hUp_end HU.out (Or.inl rfl))
      clear HU
      go_wp2_with fail
      go_end0
      exact ⟨⟨_, rfl⟩, q', HH.out, OK.out, HS.out, BB.out⟩
    · obtain ⟨p, hp⟩ : ∃ p, (i - 1) / 2 = p := ⟨_, rfl⟩
      have hpi : ((i : Int) - 1) / 2 = (p : Int) := by omega
      have hpl : p < i := by omega
      have heq : ((p : Int) == (i : Int)) = false := by simp; omega
      have CL := Lib.hid (HH.out.less hi (show p < m by omega))
      have hgb := (HH.out.own.lt g rfl).1
      have hgs := (HH.out.own.lt g rfl).2
      clear M2
      go_wp2_with fail
      refine CL.out.mono ?_
      rintro e w1 ⟨rfl, K⟩
      have H1 := Lib.hid (HH.out.below K)
      have M2 := meth_swap Q _ w1 H1.out.cell
      have B1 := Lib.hid (BB.out.trans (KeepOn.of_below _ K))
      clear K CL M1
      by_cases hlt : q' i < q' p
      · have hd : decide (q' i < q' p) = true := decide_eq_true hlt
        have U2 := Lib.hid (hUp_step (by omega) hp hlt HU.out)
        have S2 := Lib.hid (HS.out.swap (i := p) (j := i) (by omega) hi)
        have G1 := H1.out.get (show p < m by omega)
        have G2 := H1.out.get hi
        have CW := Lib.hid (qswap_any g m c p i (q' p) (q' i) w1 (by omega) hi (by omega) G1.1 G2.1 G1.2 G2.2)
        have H2 := Lib.hid (H1.out.swap p i)
        have B2 : Hid (KeepOn (fun k => k ≠ g) w ((w1.setCell ⟨g, p, none⟩ (.int .i64 (q' i))).setCell ⟨g, i, none⟩ (.int .i64 (q' p))).drew) := ((B1.out.trans (KeepOn.set _ _ _ fun h => h rfl)).trans (KeepOn.set _ _ _ fun h => h rfl)).trans (KeepOn.drew _)
        clear G1 G2 HU HS HH BB H1 B1
        go_wp2_with fail
        refine CW.out.mono ?_
        rintro e w2 ⟨⟨z, rfl⟩, rfl⟩
        go_wp2
        go_roundw
        case rel => exact ⟨p, _, by omega, by go_num, H2, U2, S2, B2⟩
        case measure => simp [intOf]; omega
      · have hd : decide (q' i < q' p) = false := decide_eq_false hlt
        have OK := Lib.hid (hUp_end HU.out (Or.inr (by rw [hp]; omega)))
        clear HU HH BB
        go_wp2_with fail
        go_end0
        exact ⟨⟨_, rfl⟩, q', H1.out, OK.out, HS.out, B1.out⟩
end Go.Proofs.Ytdfljeonoallfaa
