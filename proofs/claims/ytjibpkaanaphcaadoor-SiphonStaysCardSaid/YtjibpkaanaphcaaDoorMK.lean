/- Whether a set has a token: the program and the reference; the laws on marks. -/
import Derived.Test.YtjibpkaanaphcaaDoorSX
import Derived.Test.YtjibpkaanaphcaaDoorZS
import Derived.Test.YtjibpkaanaphcaaDoorZE
namespace Go.Proofs.YtjibpkaanaphcaaDoor
open Go.RowKit

theorem at_len {m : List Int} {p : Nat} (h : ¬ p < m.length) : at0 m p = 0 := by
  unfold at0
  rw [List.getElem?_eq_none (by omega)]
  rfl
theorem tab_keep {w w' : World} (h : Bt.Tab w) (hb : Below w.heap.size w w') : Bt.Tab w' := h.below hb h.2

set_option maxHeartbeats 4000000 in
set_option maxRecDepth 100000 in
theorem marked_any (s : Nat) (A : Option Addr) (m : List Int) (c : Nat) (w : World) (hm : ReadsV w A m) (hl : m.length ≤ 9223372036854775807) (hs : s < 18446744073709551616) (hT : Bt.Tab w) :
    Calls Tryd.prog 5 #[.int .u64 (s : Nat), .slice A m.length c] w (VPost w.heap.size w (.bool (markB s m))) := by
  have CL : Hid (Calls Tryd.prog 16 #[.int .u64 (s : Nat)] w (Bt.ListPost w.heap.size w (Bt.vN (Bt.lst s)))) := Bt.list_any s hs w hT
  have QY : Hid (∀ k p, (Bt.lst s)[k]? = some p → 1 ≤ at0 m p → markB s m = true) := fun k p hk h => anyB_yes (k := p) ((Bt.mem_lst s p).1 (List.mem_of_getElem? hk)).1 (by rw [((Bt.mem_lst s p).1 (List.mem_of_getElem? hk)).2, decide_eq_true h]; rfl)
  have QN : Hid ((∀ k p, k < (Bt.lst s).length → (Bt.lst s)[k]? = some p → at0 m p < 1) → markB s m = false) := fun h => anyB_no fun i hi => by
    cases e : s.testBit i
    · rfl
    · obtain ⟨k, hk, ek⟩ := List.mem_iff_getElem.1 ((Bt.mem_lst s i).2 ⟨hi, e⟩)
      have := h k i hk (by rw [List.getElem?_eq_getElem hk, ek])
      rw [decide_eq_false (by omega)]; rfl
  have HM := Lib.hid hm
  have hcard : (Bt.lst s).length ≤ 64 := Bt.card_le s
  clear hm hs hT
  generalize markB s m = S at *
  generalize Bt.lst s = L at *
  go_enter Tryd.func5, Tryd.ntmps5
  go_wp2_with fail
  refine (CL.out).mono ?_
  rintro e x1 ⟨A2, c2, rfl, R2, K⟩
  have R2 := Lib.hid R2
  have D1 := Lib.hid K
  clear K
  rw [Bt.vN_len]
  go_wp2_with fail
  go_loopw [10] (fun q wr => ∃ k : Nat, k ≤ L.length ∧ q = .int .i64 k ∧ Hid (Below x1.heap.size x1 wr) ∧ Hid (∀ j p, j < k → L[j]? = some p → at0 m p < 1)) (fun q _ => L.length - (intOf q).toNat)
  case atStart => exact ⟨0, by omega, rfl, Below.refl _ _, fun j p hj => absurd hj (by omega)⟩
  case round =>
    obtain ⟨k, hk, rfl, BJ, HX⟩ := hrel
    have BG := Lib.hid (D1.out.trans (BJ.out.mono D1.out.size))
    by_cases hlt : k < L.length
    · obtain ⟨p, hp⟩ := Bt.get_of_lt hlt
      obtain ⟨b2, o2, e2, hb2, hc2⟩ := (R2.out.below BJ.out (Nat.le_refl _)) k _ (Bt.vN_at hp)
      subst e2
      have QYk := Lib.hid (QY.out k p hp)
      have HF : Hid (at0 m p < 1 → ∀ j q, j < k + 1 → L[j]? = some q → at0 m q < 1) := fun h j q hj e => by
        by_cases e2 : j = k
        · subst e2
          rw [hp] at e
          injection e with e
          subst e
          exact h
        · exact HX.out j q (by omega) e
      clear HX QY
      by_cases hpm : p < m.length
      · obtain ⟨ba, oa, e1, hx⟩ := at_of_reads (HM.out.below BG.out (Nat.le_refl _)) p hpm
        subst e1
        generalize at0 m p = x at *
        by_cases h1 : 1 ≤ x
        · have E := Lib.hid (QYk.out h1)
          clear HF QYk
          go_wp2
          go_ret
          exact ⟨by rw [E.out]; rfl, BG.out⟩
        · have HF2 := Lib.hid (HF.out (by omega))
          clear HF QYk
          go_wp2
          go_roundw
          case rel => exact ⟨k + 1, by omega, by go_num, by first | exact BJ | exact below_drewN BJ.out _, HF2⟩
          case measure => simp [intOf]; omega
      · have HF2 := Lib.hid (HF.out (by rw [at_len hpm]; decide))
        clear HF QYk
        go_wp2
        go_roundw
        case rel => exact ⟨k + 1, by omega, by go_num, by first | exact BJ | exact below_drewN BJ.out _, HF2⟩
        case measure => simp [intOf]; omega
    · have E := Lib.hid (QN.out fun j p hj e => HX.out j p (by omega) e)
      clear HX QY QN
      go_wp2
      go_ret
      exact ⟨by rw [E.out]; rfl, BG.out⟩

set_option maxHeartbeats 4000000 in
set_option maxRecDepth 100000 in
theorem rmarked_any (s : Nat) (A : Option Addr) (m : List Int) (c : Nat) (w : World) (hm : ReadsV w A m) (hl : m.length ≤ 9223372036854775807) (hs : s < 18446744073709551616) :
    Calls Tryd.prog 6 #[.int .u64 (s : Nat), .slice A m.length c] w (VPost w.heap.size w (.bool (markB s m))) := by
  have CH : Hid (∀ W (k : Nat), k < 64 → Calls Tryd.prog 17 #[.int .u64 (s : Nat), .int .i64 k] W (fun e w' => e = .returned (.bool (s.testBit k)) ∧ W = w')) := fun W k hk => by
    have h := Bt.rhas_any s (k : Int) W hs
    have e : Bt.hasV s (k : Int) = s.testBit k := by
      unfold Bt.hasV
      rw [decide_eq_true (by omega)]
      simp
    rw [e] at h
    exact h
  have QY : Hid (∀ k, k < 64 → s.testBit k = true → 1 ≤ at0 m k → markB s m = true) := fun k hk h1 h2 => anyB_yes hk (by rw [h1, decide_eq_true h2]; rfl)
  have QN : Hid ((∀ k, k < 64 → s.testBit k = true → at0 m k < 1) → markB s m = false) := fun h => anyB_no fun i hi => by
    cases e : s.testBit i
    · rfl
    · have := h i hi e
      rw [decide_eq_false (by omega)]; rfl
  have HM := Lib.hid hm
  clear hm
  generalize markB s m = S at *
  generalize hbit : s.testBit = bit at *
  clear hbit
  go_enter Tryd.func6, Tryd.ntmps6
  go_wp2_with fail
  go_loopw [5] (fun q wr => ∃ k : Nat, k ≤ m.length ∧ k ≤ 64 ∧ q = .int .i64 k ∧ Hid (Below w.heap.size w wr) ∧ Hid (∀ j, j < k → bit j = true → at0 m j < 1)) (fun q _ => m.length - (intOf q).toNat)
  case atStart => exact ⟨0, by omega, by omega, rfl, Below.refl _ _, fun j hj => absurd hj (by omega)⟩
  case round =>
    obtain ⟨k, hk, hk2, rfl, BJ, HX⟩ := hrel
    by_cases hlt : k < m.length
    · by_cases h64 : k < 64
      · obtain ⟨ba, oa, e1, hx⟩ := at_of_reads (HM.out.below BJ.out (Nat.le_refl _)) k hlt
        subst e1
        have QYk := Lib.hid (QY.out k h64)
        have CHk := Lib.hid (fun W => CH.out W k h64)
        have HF : Hid ((bit k = true → at0 m k < 1) → ∀ j, j < k + 1 → bit j = true → at0 m j < 1) := fun h j hj e => by
          by_cases e2 : j = k
          · subst e2
            exact h e
          · exact HX.out j (by omega) e
        clear HX QY CH
        generalize at0 m k = x at *
        generalize bit k = bk at *
        cases bk
        · have HF2 := Lib.hid (HF.out (fun h => by cases h))
          clear HF QYk
          go_wp2_with fail
          refine (CHk.out _).mono ?_
          rintro e x1 ⟨rfl, rfl⟩
          go_wp2
          go_roundw
          case rel => exact ⟨k + 1, by omega, by omega, by go_num, by first | exact BJ | exact below_drewN BJ.out _, HF2⟩
          case measure => simp [intOf]; omega
        · by_cases h1 : 1 ≤ x
          · have E := Lib.hid (QYk.out rfl h1)
            clear HF QYk
            go_wp2_with fail
            refine (CHk.out _).mono ?_
            rintro e x1 ⟨rfl, rfl⟩
            go_wp2
            go_ret
            exact ⟨by rw [E.out]; rfl, BJ.out⟩
          · have HF2 := Lib.hid (HF.out (fun _ => by omega))
            clear HF QYk
            go_wp2_with fail
            refine (CHk.out _).mono ?_
            rintro e x1 ⟨rfl, rfl⟩
            go_wp2
            go_roundw
            case rel => exact ⟨k + 1, by omega, by omega, by go_num, by first | exact BJ | exact below_drewN BJ.out _, HF2⟩
            case measure => simp [intOf]; omega
      · obtain rfl : k = 64 := by omega
        have E := Lib.hid (QN.out fun j hj e => HX.out j hj e)
        clear HX QY QN
        go_wp2
        go_ret
        exact ⟨by rw [E.out]; rfl, BJ.out⟩
    · have E := Lib.hid (QN.out fun j hj e => by
        by_cases h : j < k
        · exact HX.out j h e
        · rw [at_len (by omega)]; decide)
      clear HX QY QN
      go_wp2
      go_ret
      exact ⟨by rw [E.out]; rfl, BJ.out⟩

set_option maxHeartbeats 4000000 in
set_option maxRecDepth 100000 in
theorem marks_law (s : Nat) (A : Option Addr) (m : List Int) (c : Nat) (w : World) (hm : ReadsV w A m) (hl : m.length ≤ 9223372036854775807) (hs : s < 18446744073709551616) (hT : Bt.Tab w) :
    Calls Tryd.prog 3 #[.int .u64 (s : Nat), .slice A m.length c] w fun e w' => e = .returned (.bool true) ∧ Below w.heap.size w w' := by
  have C1 : Hid (Calls Tryd.prog 5 #[.int .u64 (s : Nat), .slice A m.length c] w (VPost w.heap.size w (.bool (markB s m)))) := marked_any s A m c w hm hl hs hT
  have C2 : Hid (∀ W, Below w.heap.size w W → Calls Tryd.prog 6 #[.int .u64 (s : Nat), .slice A m.length c] W (VPost W.heap.size W (.bool (markB s m)))) := fun W hW => rmarked_any s A m c W (hm.below hW (Nat.le_refl _)) hl hs
  have CX : Hid (∀ W, Calls Tryd.prog 7 #[] W (VPost W.heap.size W (.bool true))) := example_any
  clear hm hl hs hT
  generalize markB s m = v at *
  have z1 : (v == v) = true := by simp
  go_enter Tryd.func3, Tryd.ntmps3
  go_wp2_with fail
  refine (C1.out).mono ?_
  rintro e x1 ⟨rfl, K⟩
  have Dx1 := Lib.hid K
  clear K
  go_wp2_with fail
  refine (C2.out _ Dx1.out).mono ?_
  rintro e x2 ⟨rfl, K⟩
  have Dx2 := Lib.hid (Dx1.out.trans (K.mono Dx1.out.size))
  clear K
  go_wp2_with fail
  refine (CX.out _).mono ?_
  rintro e x3 ⟨rfl, K⟩
  have Dx3 := Lib.hid (Dx2.out.trans (K.mono Dx2.out.size))
  clear K
  go_wp2
  go_ret
  exact ⟨rfl, Dx3.out⟩
end Go.Proofs.YtjibpkaanaphcaaDoor
