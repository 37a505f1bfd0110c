/- Lists of arcs are checked. -/
import Derived.Test.YtlbcdnobpnllkaaGreatD
namespace Go.Proofs.YtlbcdnobpnllkaaGreat
open Go.RowKit

set_option maxHeartbeats 1000000 in
theorem checkArcs_any (A : Option Addr) (l : List (Int × Int)) (c m : Nat) (w : World) (hr : ReadsA w A l) (hl : l.length ≤ maxLen) :
    Calls Tryz.prog 113 #[.slice A l.length c, .int .i64 m] w fun e w' => e = .returned (.int .i64 (arcsE m l)) ∧ Below w.heap.size w w' := by
  unfold maxLen at hl
  generalize hS : arcsE m l = S
  have HS := Lib.hid hS
  clear hS
  have HR := Lib.hid hr
  clear hr
  generalize hg : w.heap.size = g at *
  have HG := Lib.hid hg
  clear hg
  generalize hn : l.length = n at *
  have HN := Lib.hid hn
  clear hn
  go_enter Tryz.func113, Tryz.ntmps113
  go_wp2
  go_loopw [5, 10] (fun pv q wr => ∃ k : Nat, k ≤ n ∧ pv = .int .i64 (prevP l k) ∧ q = .int .i64 k ∧ Hid (Below g w wr) ∧ Hid (∀ j, j < k → arcE m l j = 0)) (fun _ q _ => n - (intOf q).toNat)
  case atStart => exact ⟨0, by omega, rfl, rfl, Below.refl _ _, fun j hj => absurd hj (by omega)⟩
  case round =>
    obtain ⟨k, hk, rfl, rfl, HB, HM⟩ := hrel
    by_cases hlt : k < n
    · obtain ⟨b0, off, rfl, hb0, hc0, hc1⟩ := (HR.out.below HB.out (by rw [HG.out]; exact Nat.le_refl _)) k (by rw [HN.out]; exact hlt)
      have hE : arcE m l k = if aP l k < 0 ∨ m ≤ aP l k then 7 else if aP l k ≤ prevP l k then 8 else if aW l k < 1 ∨ 99 < aW l k then 9 else 0 := rfl
      have HP : Hid (prevP l (k + 1) = aP l k) := rfl
      have HV : Hid (∀ v, arcE m l k = v → v ≠ 0 → v = S) := fun v h1 h2 => by
        rw [← HS.out]
        unfold arcsE
        rw [HN.out]
        exact (firstV_at hlt HM.out h1 h2).symm
      have HB2 : Hid (∀ o, Below g w (wr.alloc o)) := fun o => HB.out.alloc (by have := HB.out.size; rw [HG.out] at this; exact this) o
      generalize hp : aP l k = p at *
      generalize hpv : prevP l k = pv at *
      generalize hw : aW l k = u at *
      have H7 : Hid (p < 0 ∨ (m : Int) ≤ p → 7 = S) := fun h => HV.out 7 (by rw [hE, if_pos h]) (by omega)
      have H8 : Hid (¬ (p < 0 ∨ (m : Int) ≤ p) → p ≤ pv → 8 = S) := fun h h2 => HV.out 8 (by rw [hE, if_neg h, if_pos h2]) (by omega)
      have H9 : Hid (¬ (p < 0 ∨ (m : Int) ≤ p) → ¬ p ≤ pv → (u < 1 ∨ 99 < u) → 9 = S) := fun h h2 h3 => HV.out 9 (by rw [hE, if_neg h, if_neg h2, if_pos h3]) (by omega)
      have H0 : Hid (¬ (p < 0 ∨ (m : Int) ≤ p) → ¬ p ≤ pv → ¬ (u < 1 ∨ 99 < u) → ∀ j, j < k + 1 → arcE m l j = 0) := fun h h2 h3 => upto_snoc HM.out (by rw [hE, if_neg h, if_neg h2, if_neg h3])
      clear hE hp hpv hw HV HM
      go_wp2
      all_goals first
        | (go_ret; exact ⟨ret_i (H7.out (by omega)), HB2.out _⟩)
        | (go_ret; exact ⟨ret_i (H8.out (by omega) (by omega)), HB2.out _⟩)
        | (go_ret; exact ⟨ret_i (H9.out (by omega) (by omega) (by omega)), HB2.out _⟩)
        | (have G := Lib.hid (H0.out (by omega) (by omega) (by omega))
           go_roundw
           case rel => exact ⟨k + 1, by omega, by rw [HP.out], by go_num, HB2.out _, G⟩
           case measure => simp [intOf]; omega)
    · have E : Hid (0 = S) := by
        show _ = _
        rw [← HS.out]
        unfold arcsE
        rw [HN.out]
        refine (firstV_none fun j hj => HM.out j (by omega)).symm
      go_wp2
      go_ret
      exact ⟨ret_i E.out, HB.out⟩
end Go.Proofs.YtlbcdnobpnllkaaGreat
