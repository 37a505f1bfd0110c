/- Plain and ordinary nets: the functions themselves. -/
import Derived.Test.YtlbcdnobpnllkaaT
import Derived.Laws.EntriesVeiled
namespace Go.Proofs.Ytlbcdnobpnllkaa
open Go.RowKit


set_option maxHeartbeats 4000000 in
set_option maxRecDepth 100000 in
theorem plainN_any (n : NetV)  (w : World) (hr : NetR w n)  :
    Calls Try.prog 22 #[.agg #[.string n.nm, .slice n.PA n.ps.length n.pc, .slice n.TA n.ts.length n.tc]] w (VPost w.heap.size w (.bool (plainN n))) := by
  have CV := fun W (hW : Below w.heap.size w W) => validN_any n W (hr.below hW (Nat.le_refl _))
  have RP := fun W (hW : Below w.heap.size w W) => (hr.below hW (Nat.le_refl _)).rp
  have RT := fun W (hW : Below w.heap.size w W) => (hr.below hW (Nat.le_refl _)).rt
  have hD : plainN n = (okN n && (!anyB (spF n.ts) n.ts.length && !anyB (limF n.ps) n.ps.length)) := rfl
  generalize plainN n = S at *
  obtain ⟨nm, PA, ps, pc, TA, ts, tc⟩ := n
  obtain ⟨hnm, ⟨hlp, hzp⟩, ⟨hlt, hzt⟩, hpc, htc, _, _⟩ := hr
  dsimp only at hnm hlp hzp hlt hzt hpc htc RP RT
  dsimp only at hD CV
  replace RP := Lib.hid RP
  replace RT := Lib.hid RT
  have HZT := Lib.hid hzt
  have HZP := Lib.hid hzp
  clear hzt hzp
  have B0 : Hid (Below w.heap.size w (w.alloc (.cells #[.string nm, .slice PA ps.length pc, .slice TA ts.length tc] 25))) := (Below.refl _ _).alloc (Nat.le_refl _) _
  cases hv : okN ⟨nm, PA, ps, pc, TA, ts, tc⟩
  · rw [hv] at CV
    have E : Hid (false = S) := by show _ = _; rw [hD, hv]; rfl
    clear hD hv
    replace CV := Lib.hid CV
    go_enter Try.func22, Try.ntmps22
    go_wp2_with fail
    refine (CV.out _ B0.out).mono ?_
    rintro e w1 ⟨rfl, K⟩
    have K2 := Lib.hid (B0.out.trans (K.mono (by rw [World.size_alloc]; omega)))
    clear K
    go_wp2
    go_ret
    exact ⟨ret_b E.out, K2.out⟩
  · rw [hv] at CV
    rw [hv, Bool.true_and] at hD
    clear hv
    replace CV := Lib.hid CV
    have C1 := fun W (hW : Below w.heap.size w W) => spT_contains TA ts tc W (RT.out W hW) hlt
    have C2 := fun W (hW : Below w.heap.size w W) => limP_contains PA ps pc W (RP.out W hW) hlp
    generalize anyB (spF ts) ts.length = t1 at *
    generalize anyB (limF ps) ps.length = t2 at *
    replace C1 := Lib.hid C1
    replace C2 := Lib.hid C2
    cases t1
    · have E : Hid ((!t2) = S) := by show _ = _; rw [hD]; rfl
      clear hD
      go_enter Try.func22, Try.ntmps22
      go_wp2_with fail
      refine (CV.out _ B0.out).mono ?_
      rintro e w1 ⟨rfl, K⟩
      have c0w1 : w1.cell? ⟨w.heap.size, 0, none⟩ = some (.string nm) := by rw [K.cell (by simp)]; simp
      have c1w1 : w1.cell? ⟨w.heap.size, 1, none⟩ = some (.slice PA ps.length pc) := by rw [K.cell (by simp)]; simp
      have c2w1 : w1.cell? ⟨w.heap.size, 2, none⟩ = some (.slice TA ts.length tc) := by rw [K.cell (by simp)]; simp
      have K2 := Lib.hid (B0.out.trans (K.mono (by rw [World.size_alloc]; omega)))
      clear K
      go_wp2_with fail
      refine (C1.out _ K2.out).mono ?_
      rintro e w2 ⟨rfl, K⟩
      have d1 : w2.cell? ⟨w.heap.size, 1, none⟩ = some (.slice PA ps.length pc) := (K.cell (World.block_lt_of_cell? w1 ⟨w.heap.size, 1, none⟩ c1w1)).trans c1w1
      have K3 := Lib.hid (K2.out.trans (K.mono K2.out.size))
      clear K c0w1 c1w1 c2w1
      go_wp2_with fail
      refine (C2.out _ K3.out).mono ?_
      rintro e w3 ⟨rfl, K⟩
      have K4 := Lib.hid (K3.out.trans (K.mono K3.out.size))
      clear K
      go_wp2
      go_ret
      exact ⟨ret_b E.out, K4.out⟩
    · have E : Hid (false = S) := by show _ = _; rw [hD]; rfl
      clear hD
      go_enter Try.func22, Try.ntmps22
      go_wp2_with fail
      refine (CV.out _ B0.out).mono ?_
      rintro e w1 ⟨rfl, K⟩
      have c0w1 : w1.cell? ⟨w.heap.size, 0, none⟩ = some (.string nm) := by rw [K.cell (by simp)]; simp
      have c1w1 : w1.cell? ⟨w.heap.size, 1, none⟩ = some (.slice PA ps.length pc) := by rw [K.cell (by simp)]; simp
      have c2w1 : w1.cell? ⟨w.heap.size, 2, none⟩ = some (.slice TA ts.length tc) := by rw [K.cell (by simp)]; simp
      have K2 := Lib.hid (B0.out.trans (K.mono (by rw [World.size_alloc]; omega)))
      clear K
      go_wp2_with fail
      refine (C1.out _ K2.out).mono ?_
      rintro e w2 ⟨rfl, K⟩
      have K3 := Lib.hid (K2.out.trans (K.mono K2.out.size))
      clear K c0w1 c1w1 c2w1
      go_wp2
      go_ret
      exact ⟨ret_b E.out, K3.out⟩

set_option maxHeartbeats 4000000 in
set_option maxRecDepth 100000 in
theorem ordinaryN_any (n : NetV)  (w : World) (hr : NetR w n)  :
    Calls Try.prog 23 #[.agg #[.string n.nm, .slice n.PA n.ps.length n.pc, .slice n.TA n.ts.length n.tc]] w (VPost w.heap.size w (.bool (ordinaryN n))) := by
  have CV := fun W (hW : Below w.heap.size w W) => validN_any n W (hr.below hW (Nat.le_refl _))
  have RP := fun W (hW : Below w.heap.size w W) => (hr.below hW (Nat.le_refl _)).rp
  have RT := fun W (hW : Below w.heap.size w W) => (hr.below hW (Nat.le_refl _)).rt
  have hD : ordinaryN n = (okN n && !anyB (hvF n.ts) n.ts.length) := rfl
  generalize ordinaryN n = S at *
  obtain ⟨nm, PA, ps, pc, TA, ts, tc⟩ := n
  obtain ⟨hnm, ⟨hlp, hzp⟩, ⟨hlt, hzt⟩, hpc, htc, _, _⟩ := hr
  dsimp only at hnm hlp hzp hlt hzt hpc htc RP RT
  dsimp only at hD CV
  replace RP := Lib.hid RP
  replace RT := Lib.hid RT
  have HZT := Lib.hid hzt
  have HZP := Lib.hid hzp
  clear hzt hzp
  have B0 : Hid (Below w.heap.size w (w.alloc (.cells #[.string nm, .slice PA ps.length pc, .slice TA ts.length tc] 25))) := (Below.refl _ _).alloc (Nat.le_refl _) _
  cases hv : okN ⟨nm, PA, ps, pc, TA, ts, tc⟩
  · rw [hv] at CV
    have E : Hid (false = S) := by show _ = _; rw [hD, hv]; rfl
    clear hD hv
    replace CV := Lib.hid CV
    go_enter Try.func23, Try.ntmps23
    go_wp2_with fail
    refine (CV.out _ B0.out).mono ?_
    rintro e w1 ⟨rfl, K⟩
    have K2 := Lib.hid (B0.out.trans (K.mono (by rw [World.size_alloc]; omega)))
    clear K
    go_wp2
    go_ret
    exact ⟨ret_b E.out, K2.out⟩
  · rw [hv] at CV
    rw [hv, Bool.true_and] at hD
    clear hv
    have hmf : ∀ (fn : Fn) (first cap : Array Value) (w : World), (Instr.makeFunc fn first cap).run Try.prog w = .ok (.func fn first cap) w := fun _ _ _ _ => rfl
    replace CV := Lib.hid CV
    have C1 := fun W (hW : Below w.heap.size w W) b hc => ordT_contains TA ts tc b W (RT.out W hW) hlt hc (fun j => tA_ok HZT.out)
    generalize anyB (hvF ts) ts.length = t1 at *
    replace C1 := Lib.hid C1
    have E : Hid ((!t1) = S) := by show _ = _; rw [hD]
    clear hD
    go_enter Try.func23, Try.ntmps23
    go_wp2_with fail
    refine (CV.out _ B0.out).mono ?_
    rintro e w1 ⟨rfl, K⟩
    have c0w1 : w1.cell? ⟨w.heap.size, 0, none⟩ = some (.string nm) := by rw [K.cell (by simp)]; simp
    have c1w1 : w1.cell? ⟨w.heap.size, 1, none⟩ = some (.slice PA ps.length pc) := by rw [K.cell (by simp)]; simp
    have c2w1 : w1.cell? ⟨w.heap.size, 2, none⟩ = some (.slice TA ts.length tc) := by rw [K.cell (by simp)]; simp
    have K2 := Lib.hid (B0.out.trans (K.mono (by rw [World.size_alloc]; omega)))
    clear K
    have lw : w.heap.size < w1.heap.size := World.block_lt_of_cell? w1 ⟨w.heap.size, 0, none⟩ c0w1
    have K3 : Hid (Below w.heap.size w (w1.alloc (.cells #[.func (.func 56) #[] #[]] 68))) := K2.out.alloc K2.out.size _
    go_wp2_with fail
    refine (C1.out _ K3.out w1.heap.size (by simp)).mono ?_
    rintro e w2 ⟨rfl, K⟩
    have K4 := Lib.hid (K3.out.trans (K.mono K3.out.size))
    clear K c0w1 c1w1 c2w1
    go_wp2
    go_ret
    exact ⟨ret_b E.out, K4.out⟩

end Go.Proofs.Ytlbcdnobpnllkaa
