/- The reference checks a place. -/
import Derived.Test.YtlbcdnobpnllkaaGreatI
namespace Go.Proofs.YtlbcdnobpnllkaaGreat
open Go.RowKit

set_option maxHeartbeats 4000000 in
set_option maxRecDepth 100000 in
theorem rplace_any (nm : ByteArray) (PA TA : Option Addr) (ps : List PlaceV) (pc nt tc i : Nat) (w : World) (hr : ReadsP w PA ps) (hok : OkP ps) (hi : i < ps.length) :
    Calls Tryz.prog 115 #[.agg #[.string nm, .slice PA ps.length pc, .slice TA nt tc], .int .i64 i] w fun e w' => e = .returned (.int .i64 (placeE ps i)) ∧ Below w.heap.size w w' := by
  obtain ⟨hl, hz⟩ := hok
  have hE : placeE ps i = if nameB (bytesI (pA ps i).nm) = false then 5 else if 0 ≤ placeI ps i (pA ps i).nm then 6 else if (pA ps i).cap < 0 ∨ 1048576 < (pA ps i).cap then 1
    else if (pA ps i).ini < 0 ∨ 1048576 < (pA ps i).ini ∨ (pA ps i).cap ≠ 0 ∧ (pA ps i).cap < (pA ps i).ini then 10 else 0 := rfl
  obtain ⟨b0, off, rfl, hb0, hc0, hc1, hc2⟩ := hr i hi
  have CN := fun W => rname_any (pA ps i).nm W (hz i)
  have HPI : Hid (∀ k, k < i → (∀ j, j < k → eqS (pA ps j).nm (pA ps i).nm = false) → eqS (pA ps k).nm (pA ps i).nm = true → 0 ≤ placeI ps i (pA ps i).nm) := fun k h1 h2 h3 => by
    have := firstI_at (f := fun j => eqS (pA ps j).nm (pA ps i).nm) h1 h2 h3
    unfold placeI
    omega
  have HPN : Hid ((∀ j, j < i → eqS (pA ps j).nm (pA ps i).nm = false) → ¬ 0 ≤ placeI ps i (pA ps i).nm) := fun h => by
    have := firstI_none (f := fun j => eqS (pA ps j).nm (pA ps i).nm) h
    unfold placeI
    omega
  generalize placeE ps i = S at *
  generalize placeI ps i (pA ps i).nm = F at *
  generalize nameB (bytesI (pA ps i).nm) = nb at *
  generalize (pA ps i).nm = pn at *
  generalize (pA ps i).ini = ini at *
  generalize (pA ps i).cap = cap at *
  have HZ := Lib.hid hz
  have HR := Lib.hid hr
  clear hz hr
  generalize hn : ps.length = n at *
  have HN := Lib.hid hn
  clear hn
  generalize hg : w.heap.size = g at *
  have HG := Lib.hid hg
  clear hg
  have hbw : b0 < w.heap.size := by rw [HG.out]; exact hb0
  have B0 : Hid (Below g w ((w.alloc (.cells #[.string nm, .slice (some ⟨b0, off, none⟩) n pc, .slice TA nt tc] 25)).alloc (.cells #[.string pn, .int .i64 ini, .int .i64 cap] 40))) :=
    ((Below.refl _ _).alloc (by rw [HG.out]; exact Nat.le_refl _) _).alloc (by simp [HG.out]) _
  replace CN := Lib.hid CN
  cases nb
  · have E : Hid (5 = S) := by show _ = _; rw [hE]; rfl
    clear hE
    go_enter Tryz.func115, Tryz.ntmps115
    go_wp2_with fail
    refine (CN.out _).mono ?_
    rintro e w1 ⟨rfl, rfl⟩
    go_wp2
    go_ret
    exact ⟨ret_i E.out, B0.out⟩
  · have hE2 : S = if 0 ≤ F then 6 else if cap < 0 ∨ 1048576 < cap then 1
      else if ini < 0 ∨ 1048576 < ini ∨ cap ≠ 0 ∧ cap < ini then 10 else 0 := hE
    clear hE
    have E6 : Hid (0 ≤ F → 6 = S) := fun h => by rw [hE2, if_pos h]
    have E1 : Hid (¬ 0 ≤ F → (cap < 0 ∨ 1048576 < cap) → 1 = S) := fun h h2 => by rw [hE2, if_neg h, if_pos h2]
    have E10 : Hid (¬ 0 ≤ F → ¬ (cap < 0 ∨ 1048576 < cap) → (ini < 0 ∨ 1048576 < ini ∨ cap ≠ 0 ∧ cap < ini) → 10 = S) := fun h h2 h3 => by rw [hE2, if_neg h, if_neg h2, if_pos h3]
    have E0 : Hid (¬ 0 ≤ F → ¬ (cap < 0 ∨ 1048576 < cap) → ¬ (ini < 0 ∨ 1048576 < ini ∨ cap ≠ 0 ∧ cap < ini) → 0 = S) := fun h h2 h3 => by rw [hE2, if_neg h, if_neg h2, if_neg h3]
    clear hE2
    go_enter Tryz.func115, Tryz.ntmps115
    go_wp2_with fail
    refine (CN.out _).mono ?_
    rintro e w1 ⟨rfl, rfl⟩
    go_wp2
    go_loopw [6] (fun q wr => ∃ k : Nat, k ≤ i ∧ q = .int .i64 k ∧ Hid (Below (g + 2) ((w.alloc (.cells #[.string nm, .slice (some ⟨b0, off, none⟩) n pc, .slice TA nt tc] 25)).alloc (.cells #[.string pn, .int .i64 ini, .int .i64 cap] 40)) wr) ∧ Hid (∀ j, j < k → eqS (pA ps j).nm pn = false)) (fun q _ => i - (intOf q).toNat)
    case atStart => exact ⟨0, by omega, rfl, Below.refl _ _, fun j hj => absurd hj (by omega)⟩
    case round =>
      obtain ⟨k, hk, rfl, HB0, HM⟩ := hrel
      have HB : Hid (Below g w wr) := B0.out.trans (HB0.out.mono (by omega))
      have n1 : wr.cell? ⟨w.heap.size, 1, none⟩ = some (.slice (some ⟨b0, off, none⟩) n pc) := by rw [HB0.out.cell (by rw [← HG.out]; simp)]; simp
      have p0 : wr.cell? ⟨w.heap.size + 1, 0, none⟩ = some (.string pn) := by rw [HB0.out.cell (by rw [← HG.out]; simp)]; simp
      have p1 : wr.cell? ⟨w.heap.size + 1, 1, none⟩ = some (.int .i64 ini) := by rw [HB0.out.cell (by rw [← HG.out]; simp)]; simp
      have p2 : wr.cell? ⟨w.heap.size + 1, 2, none⟩ = some (.int .i64 cap) := by rw [HB0.out.cell (by rw [← HG.out]; simp)]; simp
      by_cases hlt : k < i
      · have hltn : k < n := by omega
        obtain ⟨b1, off1, e1, hb1, hd0, hd1, hd2⟩ := (HR.out.below HB.out (by rw [HG.out]; exact Nat.le_refl _)) k (by rw [HN.out]; exact hltn)
        cases e1
        have HT := Lib.hid (HPI.out k hlt HM.out)
        have HF : Hid (eqS (pA ps k).nm pn = false → ∀ j, j < k + 1 → eqS (pA ps j).nm pn = false) := upto_snoc HM.out
        clear HM
        have hQ : Hid (eqS (pA ps k).nm pn = ((pA ps k).nm.toList == pn.toList)) := rfl
        generalize (pA ps k).nm = kn at *
        by_cases q : (kn.toList == pn.toList) = true
        · have E := Lib.hid (E6.out (HT.out (hQ.out.trans q)))
          clear HF HT E6 E1 E10 E0
          go_wp2
          go_quiet (fail)
          go_wp2
          go_ret
          exact ⟨ret_i E.out, below_drewN HB.out _⟩
        · have q2 : (kn.toList == pn.toList) = false := by simpa using q
          have G := Lib.hid (HF.out (hQ.out.trans q2))
          clear HF HT E6 E1 E10 E0 q
          go_wp2
          go_quiet (fail)
          go_wp2
          go_roundw
          case rel => exact ⟨k + 1, by omega, by go_num, below_drewN HB0.out _, G⟩
          case measure => simp [intOf]; omega
      · have hNF := HPN.out (fun j hj => HM.out j (by omega))
        clear HM HPI HPN
        go_wp2
        all_goals first
          | (go_ret; exact ⟨ret_i (E1.out hNF (by omega)), HB.out⟩)
          | (go_ret; exact ⟨ret_i (E10.out (by omega) (by omega) (by clear E6 E1 E10 E0; simp at * <;> omega)), HB.out⟩)
          | (go_ret; exact ⟨ret_i (E0.out (by omega) (by omega) (by clear E6 E1 E10 E0; simp at * <;> omega)), HB.out⟩)
end Go.Proofs.YtlbcdnobpnllkaaGreat
