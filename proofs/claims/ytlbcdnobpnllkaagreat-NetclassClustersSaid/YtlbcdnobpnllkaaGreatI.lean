/- The reference checks a list of arcs. -/
import Derived.Test.YtlbcdnobpnllkaaGreatH
import Derived.IntWalk
namespace Go.Proofs.YtlbcdnobpnllkaaGreat
open Go.RowKit

theorem below_drewN {B : Nat} {a w : World} (h : Below B a w) (n : Nat) : Below B a (w.drewN n) := ⟨h.os, h.tape, h.output, h.size, h.block⟩

set_option maxHeartbeats 4000000 in
set_option maxRecDepth 100000 in
theorem rarcs_any (nm : ByteArray) (PA TA A : Option Addr) (l : List (Int × Int)) (m pc nt tc c : Nat) (w : World) (hr : ReadsA w A l) (hl : l.length ≤ maxLen) :
    Calls Tryz.prog 128 #[.agg #[.string nm, .slice PA m pc, .slice TA nt tc], .slice A l.length c] w fun e w' => e = .returned (.int .i64 (arcsE m l)) ∧ Below w.heap.size w w' := by
  unfold maxLen at hl
  generalize hS : arcsE m l = S
  have HS := Lib.hid hS
  clear hS
  have HR := Lib.hid hr
  clear hr
  generalize hg : w.heap.size = g at *
  have HG := Lib.hid hg
  clear hg
  generalize hn : l.length = n at *
  have HN := Lib.hid hn
  clear hn
  have B0 : Hid (Below g w (w.alloc (.cells #[.string nm, .slice PA m pc, .slice TA nt tc] 25))) := (Below.refl _ _).alloc (by rw [HG.out]; exact Nat.le_refl _) _
  go_enter Tryz.func128, Tryz.ntmps128
  go_wp2
  go_loopw [5] (fun q wr => ∃ k : Nat, k ≤ n ∧ q = .int .i64 k ∧ Hid (Below (g + 1) (w.alloc (.cells #[.string nm, .slice PA m pc, .slice TA nt tc] 25)) wr) ∧ Hid (∀ j, j < k → arcE m l j = 0)) (fun q _ => n - (intOf q).toNat)
  case atStart => exact ⟨0, by omega, rfl, Below.refl _ _, fun j hj => absurd hj (by omega)⟩
  case round =>
    obtain ⟨k, hk, rfl, HB0, HM⟩ := hrel
    have HB : Hid (Below g w wr) := B0.out.trans (HB0.out.mono (Nat.le_succ _))
    have n1 : wr.cell? ⟨w.heap.size, 1, none⟩ = some (.slice PA m pc) := by rw [HB0.out.cell (by rw [← HG.out]; simp)]; simp
    by_cases hlt : k < n
    · have HRw : Hid (ReadsA wr A l) := HR.out.below HB.out (by rw [HG.out]; exact Nat.le_refl _)
      obtain ⟨b0, off, rfl, hb0, hc0, hc1⟩ := HRw.out k (by rw [HN.out]; exact hlt)
      have hE : arcE m l k = if aP l k < 0 ∨ m ≤ aP l k then 7 else if aP l k ≤ prevP l k then 8 else if aW l k < 1 ∨ 99 < aW l k then 9 else 0 := rfl
      have HV : Hid (∀ v, arcE m l k = v → v ≠ 0 → v = S) := fun v h1 h2 => by
        rw [← HS.out]
        unfold arcsE
        rw [HN.out]
        exact (firstV_at hlt HM.out h1 h2).symm
      have HPV : Hid (∀ k', k = k' + 1 → wr.cell? ⟨b0, off + k' * 2, none⟩ = some (.int .i64 (prevP l k))) := fun k' e => by
        subst e
        obtain ⟨b1, off1, e1, _, h1, _⟩ := HRw.out k' (by rw [HN.out]; omega)
        cases e1
        exact h1
      have HP0 : Hid (k = 0 → prevP l k = -1) := fun e => by subst e; rfl
      generalize hp : aP l k = p at *
      generalize hpv : prevP l k = pv at *
      generalize hw : aW l k = u at *
      have H7 : Hid (p < 0 ∨ (m : Int) ≤ p → 7 = S) := fun h => HV.out 7 (by rw [hE, if_pos h]) (by omega)
      have H8 : Hid (¬ (p < 0 ∨ (m : Int) ≤ p) → p ≤ pv → 8 = S) := fun h h2 => HV.out 8 (by rw [hE, if_neg h, if_pos h2]) (by omega)
      have H9 : Hid (¬ (p < 0 ∨ (m : Int) ≤ p) → ¬ p ≤ pv → (u < 1 ∨ 99 < u) → 9 = S) := fun h h2 h3 => HV.out 9 (by rw [hE, if_neg h, if_neg h2, if_pos h3]) (by omega)
      have H0 : Hid (¬ (p < 0 ∨ (m : Int) ≤ p) → ¬ p ≤ pv → ¬ (u < 1 ∨ 99 < u) → ∀ j, j < k + 1 → arcE m l j = 0) := fun h h2 h3 => upto_snoc HM.out (by rw [hE, if_neg h, if_neg h2, if_neg h3])
      clear hE hp hpv hw HV HM
      by_cases q1 : p < 0
      · have E := Lib.hid (H7.out (.inl q1))
        have q1b : decide (p < 0) = true := by simpa using q1
        clear H7 H8 H9 H0
        go_wp2
        go_quiet (fail)
        go_wp2
        go_ret
        exact ⟨ret_i E.out, by first | exact below_drewN HB.out _ | exact below_drewN (below_drewN HB.out _) _⟩
      · have q1b : decide (p < 0) = false := by simpa using q1
        by_cases q2 : (m : Int) ≤ p
        · have E := Lib.hid (H7.out (.inr q2))
          clear H7 H8 H9 H0
          go_wp2
          go_quiet (fail)
          go_wp2
          go_ret
          exact ⟨ret_i E.out, by first | exact below_drewN HB.out _ | exact below_drewN (below_drewN HB.out _) _⟩
        · have q2b : decide ((m : Int) ≤ p) = false := by simpa using q2
          go_wp2
          go_quiet (fail)
          go_wp2
          by_cases k0 : k = 0
          · have q3 := HP0.out k0
            have k0b : decide (0 < k) = false := by simp; omega
            clear HPV HP0 k0
            go_quiet (fail)
            go_wp2
            all_goals first
              | (go_ret; exact ⟨ret_i (H9.out (by omega) (by omega) (by omega)), by first | exact below_drewN HB.out _ | exact below_drewN (below_drewN HB.out _) _⟩)
              | (have G := Lib.hid (H0.out (by omega) (by omega) (by omega))
                 clear H7 H8 H9 H0
                 go_roundw
                 case rel => exact ⟨k + 1, by omega, by go_num, by first | exact below_drewN HB0.out _ | exact below_drewN (below_drewN HB0.out _) _, G⟩
                 case measure => simp [intOf]; omega)
          · obtain ⟨k', rfl⟩ : ∃ k', k = k' + 1 := ⟨k - 1, by omega⟩
            have hcp := HPV.out k' rfl
            clear HPV HP0 k0
            have kb : decide (0 < k' + 1) = true := by simp
            have kw : IntKind.i64.wrap ((k' + 1 : Nat) - 1 : Int) = (k' : Int) := by rw [IntWalk.i64_in _ (by omega)]; omega
            by_cases q3 : p ≤ pv
            · have E := Lib.hid (H8.out (by omega) q3)
              have q3b : decide (p ≤ pv) = true := by simpa using q3
              clear H7 H8 H9 H0
              go_quiet (fail)
              go_wp2
              go_ret
              exact ⟨ret_i E.out, by first | exact below_drewN HB.out _ | exact below_drewN (below_drewN HB.out _) _⟩
            · have q3b : decide (p ≤ pv) = false := by simpa using q3
              go_quiet (fail)
              go_wp2
              all_goals first
                | (go_ret; exact ⟨ret_i (H9.out (by omega) (by omega) (by omega)), by first | exact below_drewN HB.out _ | exact below_drewN (below_drewN HB.out _) _⟩)
                | (have G := Lib.hid (H0.out (by omega) (by omega) (by omega))
                   clear H7 H8 H9 H0
                   go_roundw
                   case rel => exact ⟨k' + 1 + 1, by omega, by go_num, by first | exact below_drewN HB0.out _ | exact below_drewN (below_drewN HB0.out _) _, G⟩
                   case measure => simp [intOf]; omega)
    · have E : Hid (0 = S) := by
        show _ = _
        rw [← HS.out]
        unfold arcsE
        rw [HN.out]
        refine (firstV_none fun j hj => HM.out j (by omega)).symm
      go_wp2
      go_ret
      exact ⟨ret_i E.out, HB.out⟩
end Go.Proofs.YtlbcdnobpnllkaaGreat
