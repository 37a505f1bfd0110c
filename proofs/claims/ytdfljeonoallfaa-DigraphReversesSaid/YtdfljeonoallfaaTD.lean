/- Graphs: the reference's table of the paths. -/
import Derived.Test.YtdfljeonoallfaaTC
namespace Go.Proofs.Ytdfljeonoallfaa
open Go.RowKit Go.Deep

/-- row u of round k is done up to column j -/
def mixW (T : Nat → Nat → Bool) (k u j a b : Nat) : Bool := if a < u ∨ (a = u ∧ b < j) then stW T k a b else T a b
theorem st_col (T : Nat → Nat → Bool) (k a : Nat) : stW T k a k = T a k := by unfold stW; cases T a k <;> simp
theorem st_row (T : Nat → Nat → Bool) (k b : Nat) : stW T k k b = T k b := by unfold stW; cases T k b <;> simp
theorem mix_col (T : Nat → Nat → Bool) (k u j a : Nat) : mixW T k u j a k = T a k := by unfold mixW; split; exact st_col T k a; rfl
theorem mix_row (T : Nat → Nat → Bool) (k u j b : Nat) : mixW T k u j k b = T k b := by unfold mixW; split; exact st_row T k b; rfl
theorem mix_at (T : Nat → Nat → Bool) (k u j : Nat) : mixW T k u j u j = T u j := by unfold mixW; rw [if_neg (by omega)]
theorem mix_step (T : Nat → Nat → Bool) (k u j a b : Nat) : (if a = u ∧ b = j then stW T k u j else mixW T k u j a b) = mixW T k u (j + 1) a b := by
  unfold mixW
  by_cases h : a = u ∧ b = j
  · obtain ⟨rfl, rfl⟩ := h
    rw [if_pos ⟨rfl, rfl⟩, if_pos (by omega)]
  · rw [if_neg h]
    by_cases h2 : a < u ∨ (a = u ∧ b < j)
    · rw [if_pos h2, if_pos (by omega)]
    · rw [if_neg h2, if_neg (by omega)]
theorem mix_start (T : Nat → Nat → Bool) (k a b : Nat) : mixW T k 0 0 a b = T a b := by unfold mixW; rw [if_neg (by omega)]
theorem mix_next (T : Nat → Nat → Bool) {k u n a b : Nat} (hb : b < n) : mixW T k u n a b = mixW T k (u + 1) 0 a b := by
  unfold mixW
  by_cases h2 : a < u ∨ (a = u ∧ b < n)
  · rw [if_pos h2, if_pos (by omega)]
  · rw [if_neg h2, if_neg (by omega)]
theorem mix_end (T : Nat → Nat → Bool) {k n a b : Nat} (ha : a < n) : mixW T k n 0 a b = stW T k a b := by unfold mixW; rw [if_pos (by omega)]
set_option maxHeartbeats 8000000 in
set_option maxRecDepth 100000 in
theorem paths_any (gA : Option Addr) (n gc : Nat) (RA : Nat → Option Addr) (RL : Nat → List Int) (RK : Nat → Nat) (w : World) (GR : GraphR w gA n RA RL RK) :
    Calls Try.prog 34 #[.slice gA n gc] w fun e w' => ∃ v ad, e = .returned v ∧ MatB w' w.heap.size v n n ad (warN (tabB RL) n) ∧ Below w.heap.size w w' := by
  have CT := Lib.hid (table_any gA n gc RA RL RK w GR)
  have hn := GR.hn
  have HW0 : Hid (warN (tabB RL) 0 = tabB RL) := rfl
  have HWS : Hid (∀ k, warN (tabB RL) (k + 1) = stW (warN (tabB RL) k) k) := fun _ => rfl
  clear GR
  generalize tabB RL = T at *
  generalize warN T = WN at *
  go_enter Try.func34, Try.ntmps34
  go_wp2_with fail
  refine CT.out.mono ?_
  rintro e w1 ⟨v, ad, rfl, M1, B1⟩
  have M0 : Hid (MatB w1 w.heap.size v n n ad (WN 0)) := by show MatB _ _ _ _ _ _ _; rw [HW0.out]; exact M1
  have B1 := Lib.hid B1
  clear M1 CT HW0
  go_wp2_with fail
  go_loopw [4] (fun q wr => ∃ k : Nat, k ≤ n ∧ q = .int .i64 k ∧ Hid (MatB wr w.heap.size v n n ad (WN k)) ∧ Hid (Below w.heap.size w wr)) (fun q _ => n - (intOf q).toNat)
  case atStart => exact ⟨0, by omega, rfl, M0, B1⟩
  case round =>
    clear M0 B1
    obtain ⟨wo, rfl⟩ : ∃ wo, wo = wr := ⟨_, rfl⟩
    obtain ⟨k, hk, rfl, MR, BB⟩ := hrel
    by_cases hlt : k < n
    · have HWk := Lib.hid (HWS.out k)
      obtain ⟨R, hR⟩ : ∃ R, R = WN k := ⟨_, rfl⟩
      rw [← hR] at MR HWk
      clear hR
      have MS : Hid (MatB wo w.heap.size v n n ad (mixW R k 0 0)) := MR.out.congr fun i j _ _ => (mix_start R k i j).symm
      clear MR
      go_wp2_with fail
      go_loopw [5] (fun q wr => ∃ u : Nat, u ≤ n ∧ q = .int .i64 u ∧ Hid (MatB wr w.heap.size v n n ad (mixW R k u 0)) ∧ Hid (Below w.heap.size w wr)) (fun q _ => n - (intOf q).toNat)
      case atStart => exact ⟨0, by omega, rfl, MS, BB⟩
      case round =>
        clear MS BB
        obtain ⟨wp, rfl⟩ : ∃ wp, wp = wr := ⟨_, rfl⟩
        obtain ⟨u, hu, rfl, MR, BB⟩ := hrel
        by_cases hlu : u < n
        · go_wp2_with fail
          go_loopw [6] (fun q wr => ∃ j : Nat, j ≤ n ∧ q = .int .i64 j ∧ Hid (MatB wr w.heap.size v n n ad (mixW R k u j)) ∧ Hid (Below w.heap.size w wr)) (fun q _ => n - (intOf q).toNat)
          case atStart => exact ⟨0, by omega, rfl, MR, BB⟩
          case round =>
            clear MR BB
            obtain ⟨j, hj, rfl, MR, BB⟩ := hrel
            by_cases hlj : j < n
            · obtain ⟨g, c, rfl, c1⟩ := MR.out.cell hlu
              obtain ⟨g', c', e', c2⟩ := MR.out.cell hlt
              simp only [Value.slice.injEq, Option.some.injEq, Addr.mk.injEq, and_true, true_and] at e'
              obtain ⟨rfl, rfl⟩ := e'
              have c3 := MR.out.get hlu hlj
              have c4 := MR.out.get hlu hlt
              have c5 := MR.out.get hlt hlj
              rw [mix_at] at c3
              rw [mix_col] at c4
              rw [mix_row] at c5
              have hfz := MR.out.frz hlu j
              have hb := (MR.out.row u hlu).1
              have HN : Hid (∀ z, stW R k u j = z → MatB (wr.setCell ⟨ad u, j, none⟩ (.bool z)) w.heap.size (.slice (some ⟨g, 0, none⟩) n c) n n ad (mixW R k u (j + 1)) ∧ Below w.heap.size w (wr.setCell ⟨ad u, j, none⟩ (.bool z))) := fun z hz => ⟨(MR.out.set hlu j z).congr fun a b _ _ => by rw [← hz]; exact mix_step R k u j a b, BB.out.setCell hb _⟩
              have HV : Hid (stW R k u j = (R u j || (R u k && R k j))) := rfl
              clear hb MR BB
              generalize stW R k u j = sv at *
              generalize R u j = z1 at *
              generalize R u k = z2 at *
              generalize R k j = z3 at *
              generalize ad u = au at *
              generalize ad k = ak at *
              cases z1
              · cases z2
                · obtain ⟨r1, r2⟩ := HN.out false HV.out
                  have r1 := Lib.hid r1.drew
                  have r2 := Lib.hid r2.drew
                  clear HN HV
                  go_wp2
                  go_region
                  go_wp2
                  go_roundw
                  case rel => exact ⟨j + 1, by omega, by go_num, r1, r2⟩
                  case measure => simp [intOf]; omega
                · obtain ⟨r1, r2⟩ := HN.out z3 (by rw [HV.out]; simp)
                  have r1 := Lib.hid r1.drew
                  have r2 := Lib.hid r2.drew
                  clear HN HV
                  go_wp2
                  go_region
                  go_wp2
                  go_roundw
                  case rel => exact ⟨j + 1, by omega, by go_num, r1, r2⟩
                  case measure => simp [intOf]; omega
              · obtain ⟨r1, r2⟩ := HN.out true (by rw [HV.out]; rfl)
                have r1 := Lib.hid r1.drew
                have r2 := Lib.hid r2.drew
                clear HN HV
                go_wp2
                go_region
                go_wp2
                go_roundw
                case rel => exact ⟨j + 1, by omega, by go_num, r1, r2⟩
                case measure => simp [intOf]; omega
            · obtain rfl : j = n := by omega
              have M2 : Hid (MatB wr w.heap.size v j j ad (mixW R k (u + 1) 0)) := MR.out.congr fun a b _ hb => mix_next R hb
              go_wp2
              go_roundw
              case rel => exact ⟨u + 1, by omega, by go_num, M2, BB⟩
              case measure => simp [intOf]; omega
        · obtain rfl : u = n := by omega
          have M2 : Hid (MatB wp w.heap.size v u u ad (WN (k + 1))) := MR.out.congr fun a b ha _ => by rw [HWk.out]; exact mix_end R ha
          go_wp2
          go_roundw
          case rel => exact ⟨k + 1, by omega, by go_num, M2, BB⟩
          case measure => simp [intOf]; omega
    · obtain rfl : k = n := by omega
      go_wp2
      go_ret
      exact ⟨_, _, rfl, MR.out, BB.out⟩
end Go.Proofs.Ytdfljeonoallfaa
