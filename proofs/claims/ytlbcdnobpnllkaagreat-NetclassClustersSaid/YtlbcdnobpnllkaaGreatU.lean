/- Plain and ordinary nets: the functions themselves. -/
import Derived.Test.YtlbcdnobpnllkaaGreatT
import Derived.Laws.EntriesVeiled
namespace Go.Proofs.YtlbcdnobpnllkaaGreat
open Go.RowKit


set_option maxHeartbeats 4000000 in
set_option maxRecDepth 100000 in
theorem plainN_any (n : NetV)  (w : World) (hr : NetR w n)  :
    Calls Tryz.prog 50 #[.agg #[.string n.nm, .slice n.PA n.ps.length n.pc, .slice n.TA n.ts.length n.tc]] w (VPost w.heap.size w (.bool (plainN n))) := by
  have CV := fun W (hW : Below w.heap.size w W) => validN_any n W (hr.below hW (Nat.le_refl _))
  have RP := fun W (hW : Below w.heap.size w W) => (hr.below hW (Nat.le_refl _)).rp
  have RT := fun W (hW : Below w.heap.size w W) => (hr.below hW (Nat.le_refl _)).rt
  have hD : plainN n = (okN n && (!anyB (spF n.ts) n.ts.length && !anyB (limF n.ps) n.ps.length)) := rfl
  generalize plainN n = S at *
  obtain ⟨nm, PA, ps, pc, TA, ts, tc⟩ := n
  obtain ⟨hnm, ⟨hlp, hzp⟩, ⟨hlt, hzt⟩, hpc, htc, _, _⟩ := hr
  dsimp only at hnm hlp hzp hlt hzt hpc htc RP RT
  dsimp only at hD CV
  replace RP := Lib.hid RP
  replace RT := Lib.hid RT
  have HZT := Lib.hid hzt
  have HZP := Lib.hid hzp
  clear hzt hzp
  have B0 : Hid (Below w.heap.size w (w.alloc (.cells #[.string nm, .slice PA ps.length pc, .slice TA ts.length tc] 25))) := (Below.refl _ _).alloc (Nat.le_refl _) _
  cases hv : okN ⟨nm, PA, ps, pc, TA, ts, tc⟩
  · rw [hv] at CV
    have E : Hid (false = S) := by show _ = _; rw [hD, hv]; rfl
    clear hD hv
    replace CV := Lib.hid CV
    go_enter Tryz.func50, Tryz.ntmps50
    go_wp2_with fail
    refine (CV.out _ B0.out).mono ?_
    rintro e w1 ⟨rfl, K⟩
    have K2 := Lib.hid (B0.out.trans (K.mono (by rw [World.size_alloc]; omega)))
    clear K
    go_wp2
    go_ret
    exact ⟨ret_b E.out, K2.out⟩
  · rw [hv] at CV
    rw [hv, Bool.true_and] at hD
    clear hv
    replace CV := Lib.hid CV
    have C1 := fun W (hW : Below w.heap.size w W) => spT_contains TA ts tc W (RT.out W hW) hlt
    have C2 := fun W (hW : Below w.heap.size w W) => limP_contains PA ps pc W (RP.out W hW) hlp
    generalize anyB (spF ts) ts.length = t1 at *
    generalize anyB (limF ps) ps.length = t2 at *
    replace C1 := Lib.hid C1
    replace C2 := Lib.hid C2
    cases t1
    · have E : Hid ((!t2) = S) := by show _ = _; rw [hD]; rfl
      clear hD
      go_enter Tryz.func50, Tryz.ntmps50
      go_wp2_with fail
      refine (CV.out _ B0.out).mono ?_
      rintro e w1 ⟨rfl, K⟩
      have c0w1 : w1.cell? ⟨w.heap.size, 0, none⟩ = some (.string nm) := by rw [K.cell (by simp)]; simp
      have c1w1 : w1.cell? ⟨w.heap.size, 1, none⟩ = some (.slice PA ps.length pc) := by rw [K.cell (by simp)]; simp
      have c2w1 : w1.cell? ⟨w.heap.size, 2, none⟩ = some (.slice TA ts.length tc) := by rw [K.cell (by simp)]; simp
      have K2 := Lib.hid (B0.out.trans (K.mono (by rw [World.size_alloc]; omega)))
      clear K
      go_wp2_with fail
      refine (C1.out _ K2.out).mono ?_
      rintro e w2 ⟨rfl, K⟩
      have d1 : w2.cell? ⟨w.heap.size, 1, none⟩ = some (.slice PA ps.length pc) := (K.cell (World.block_lt_of_cell? w1 ⟨w.heap.size, 1, none⟩ c1w1)).trans c1w1
      have K3 := Lib.hid (K2.out.trans (K.mono K2.out.size))
      clear K c0w1 c1w1 c2w1
      go_wp2_with fail
      refine (C2.out _ K3.out).mono ?_
      rintro e w3 ⟨rfl, K⟩
      have K4 := Lib.hid (K3.out.trans (K.mono K3.out.size))
      clear K
      go_wp2
      go_ret
      exact ⟨ret_b E.out, K4.out⟩
    · have E : Hid (false = S) := by show _ = _; rw [hD]; rfl
      clear hD
      go_enter Tryz.func50, Tryz.ntmps50
      go_wp2_with fail
      refine (CV.out _ B0.out).mono ?_
      rintro e w1 ⟨rfl, K⟩
      have c0w1 : w1.cell? ⟨w.heap.size, 0, none⟩ = some (.string nm) := by rw [K.cell (by simp)]; simp
      have c1w1 : w1.cell? ⟨w.heap.size, 1, none⟩ = some (.slice PA ps.length pc) := by rw [K.cell (by simp)]; simp
      have c2w1 : w1.cell? ⟨w.heap.size, 2, none⟩ = some (.slice TA ts.length tc) := by rw [K.cell (by simp)]; simp
      have K2 := Lib.hid (B0.out.trans (K.mono (by rw [World.size_alloc]; omega)))
      clear K
      go_wp2_with fail
      refine (C1.out _ K2.out).mono ?_
      rintro e w2 ⟨rfl, K⟩
      have K3 := Lib.hid (K2.out.trans (K.mono K2.out.size))
      clear K c0w1 c1w1 c2w1
      go_wp2
      go_ret
      exact ⟨ret_b E.out, K3.out⟩

set_option maxHeartbeats 4000000 in
set_option maxRecDepth 100000 in
theorem ordinaryN_any (n : NetV)  (w : World) (hr : NetR w n)  :
    Calls Tryz.prog 51 #[.agg #[.string n.nm, .slice n.PA n.ps.length n.pc, .slice n.TA n.ts.length n.tc]] w (VPost w.heap.size w (.bool (ordinaryN n))) := by
  have CV := fun W (hW : Below w.heap.size w W) => validN_any n W (hr.below hW (Nat.le_refl _))
  have RP := fun W (hW : Below w.heap.size w W) => (hr.below hW (Nat.le_refl _)).rp
  have RT := fun W (hW : Below w.heap.size w W) => (hr.below hW (Nat.le_refl _)).rt
  have hD : ordinaryN n = (okN n && !anyB (hvF n.ts) n.ts.length) := rfl
  generalize ordinaryN n = S at *
  obtain ⟨nm, PA, ps, pc, TA, ts, tc⟩ := n
  obtain ⟨hnm, ⟨hlp, hzp⟩, ⟨hlt, hzt⟩, hpc, htc, _, _⟩ := hr
  dsimp only at hnm hlp hzp hlt hzt hpc htc RP RT
  dsimp only at hD CV
  replace RP := Lib.hid RP
  replace RT := Lib.hid RT
  have HZT := Lib.hid hzt
  have HZP := Lib.hid hzp
  clear hzt hzp
  have B0 : Hid (Below w.heap.size w (w.alloc (.cells #[.string nm, .slice PA ps.length pc, .slice TA ts.length tc] 25))) := (Below.refl _ _).alloc (Nat.le_refl _) _
  cases hv : okN ⟨nm, PA, ps, pc, TA, ts, tc⟩
  · rw [hv] at CV
    have E : Hid (false = S) := by show _ = _; rw [hD, hv]; rfl
    clear hD hv
    replace CV := Lib.hid CV
    go_enter Tryz.func51, Tryz.ntmps51
    go_wp2_with fail
    refine (CV.out _ B0.out).mono ?_
    rintro e w1 ⟨rfl, K⟩
    have K2 := Lib.hid (B0.out.trans (K.mono (by rw [World.size_alloc]; omega)))
    clear K
    go_wp2
    go_ret
    exact ⟨ret_b E.out, K2.out⟩
  · rw [hv] at CV
    rw [hv, Bool.true_and] at hD
    clear hv
    have hmf : ∀ (fn : Fn) (first cap : Array Value) (w : World), (Instr.makeFunc fn first cap).run Tryz.prog w = .ok (.func fn first cap) w := fun _ _ _ _ => rfl
    replace CV := Lib.hid CV
    have C1 := fun W (hW : Below w.heap.size w W) b hc => ordT_contains TA ts tc b W (RT.out W hW) hlt hc (fun j => tA_ok HZT.out)
    generalize anyB (hvF ts) ts.length = t1 at *
    replace C1 := Lib.hid C1
    have E : Hid ((!t1) = S) := by show _ = _; rw [hD]
    clear hD
    go_enter Tryz.func51, Tryz.ntmps51
    go_wp2_with fail
    refine (CV.out _ B0.out).mono ?_
    rintro e w1 ⟨rfl, K⟩
    have c0w1 : w1.cell? ⟨w.heap.size, 0, none⟩ = some (.string nm) := by rw [K.cell (by simp)]; simp
    have c1w1 : w1.cell? ⟨w.heap.size, 1, none⟩ = some (.slice PA ps.length pc) := by rw [K.cell (by simp)]; simp
    have c2w1 : w1.cell? ⟨w.heap.size, 2, none⟩ = some (.slice TA ts.length tc) := by rw [K.cell (by simp)]; simp
    have K2 := Lib.hid (B0.out.trans (K.mono (by rw [World.size_alloc]; omega)))
    clear K
    have lw : w.heap.size < w1.heap.size := World.block_lt_of_cell? w1 ⟨w.heap.size, 0, none⟩ c0w1
    have K3 : Hid (Below w.heap.size w (w1.alloc (.cells #[.func (.func 96) #[] #[]] 84))) := K2.out.alloc K2.out.size _
    go_wp2_with fail
    refine (C1.out _ K3.out w1.heap.size (by simp)).mono ?_
    rintro e w2 ⟨rfl, K⟩
    have K4 := Lib.hid (K3.out.trans (K.mono K3.out.size))
    clear K c0w1 c1w1 c2w1
    go_wp2
    go_ret
    exact ⟨ret_b E.out, K4.out⟩

set_option maxHeartbeats 1000000 in
theorem ones_any (A : Option Addr) (l : List (Int × Int)) (c : Nat) (w : World) (hr : ReadsA w A l) (hl : l.length ≤ 1000) :
    Calls Tryz.prog 109 #[.slice A l.length c] w fun e w' => e = .returned (.bool (!heavyV l)) ∧ w = w' := by
  have hY : ∀ k, k < l.length → oneF l k = true → false = !heavyV l := fun k h1 h2 => by unfold heavyV; rw [anyB_yes h1 h2]; rfl
  have hN : (∀ j, j < l.length → oneF l j = false) → true = !heavyV l := fun h => by unfold heavyV; rw [anyB_no h]; rfl
  generalize (!heavyV l) = S at *
  have HY := Lib.hid hY
  have HNo := Lib.hid hN
  have HR := Lib.hid hr
  clear hr hY hN
  generalize hn : l.length = n at *
  have HN := Lib.hid hn
  clear hn
  go_enter Tryz.func109, Tryz.ntmps109
  go_wp2
  go_loop [3] (fun q => ∃ k : Nat, k ≤ n ∧ q = .int .i64 k ∧ Hid (∀ j, j < k → oneF l j = false)) (fun q => n - (intOf q).toNat)
  case atStart => exact ⟨0, by omega, rfl, fun j hj => absurd hj (by omega)⟩
  case round =>
    obtain ⟨k, hk, rfl, HM⟩ := hrel
    by_cases hlt : k < n
    · obtain ⟨b0, off, rfl, hb0, hc0, hc1⟩ := HR.out k (by rw [HN.out]; exact hlt)
      have HT := Lib.hid (HY.out k hlt)
      have HF : Hid (oneF l k = false → ∀ j, j < k + 1 → oneF l j = false) := upto_snoc HM.out
      have HQ : Hid (oneF l k = decide (aW l k ≠ 1)) := rfl
      clear HM
      generalize aP l k = x at *
      generalize aW l k = u at *
      by_cases q : u = 1
      · have G := Lib.hid (HF.out (HQ.out.trans (by simpa using q)))
        clear HF HT HQ
        subst q
        go_wp2
        go_round
        case rel => exact ⟨k + 1, by omega, by go_num, G⟩
        case measure => simp [intOf]; omega
      · have E := Lib.hid (HT.out (HQ.out.trans (by simpa using q)))
        have q2 : (u != 1) = true := by simpa using q
        clear HF HT HQ q
        go_wp2
        go_ret
        exact ⟨ret_b E.out, rfl⟩
    · have E := Lib.hid (HNo.out (fun j hj => HM.out j (by omega)))
      clear HM
      go_wp2
      go_ret
      exact ⟨ret_b E.out, rfl⟩

set_option maxHeartbeats 4000000 in
set_option maxRecDepth 100000 in
theorem rplainN_any (n : NetV)  (w : World) (hr : NetR w n)  :
    Calls Tryz.prog 75 #[.agg #[.string n.nm, .slice n.PA n.ps.length n.pc, .slice n.TA n.ts.length n.tc]] w (VPost w.heap.size w (.bool (plainN n))) := by
  have CV := fun W (hW : Below w.heap.size w W) => rvalidN_any n W (hr.below hW (Nat.le_refl _))
  have RP := fun W (hW : Below w.heap.size w W) => (hr.below hW (Nat.le_refl _)).rp
  have RT := fun W (hW : Below w.heap.size w W) => (hr.below hW (Nat.le_refl _)).rt
  have hD : plainN n = (okN n && (!anyB (spF n.ts) n.ts.length && !anyB (limF n.ps) n.ps.length)) := rfl
  generalize plainN n = S at *
  obtain ⟨nm, PA, ps, pc, TA, ts, tc⟩ := n
  obtain ⟨hnm, ⟨hlp, hzp⟩, ⟨hlt, hzt⟩, hpc, htc, _, _⟩ := hr
  dsimp only at hnm hlp hzp hlt hzt hpc htc RP RT
  dsimp only at hD CV
  replace RP := Lib.hid RP
  replace RT := Lib.hid RT
  have HZT := Lib.hid hzt
  have HZP := Lib.hid hzp
  clear hzt hzp
  have B0 : Hid (Below w.heap.size w (w.alloc (.cells #[.string nm, .slice PA ps.length pc, .slice TA ts.length tc] 25))) := (Below.refl _ _).alloc (Nat.le_refl _) _
  cases hv : okN ⟨nm, PA, ps, pc, TA, ts, tc⟩
  · rw [hv] at CV
    have E : Hid (false = S) := by show _ = _; rw [hD, hv]; rfl
    clear hD hv
    replace CV := Lib.hid CV
    go_enter Tryz.func75, Tryz.ntmps75
    go_wp2_with fail
    refine (CV.out _ B0.out).mono ?_
    rintro e w1 ⟨rfl, K⟩
    have K2 := Lib.hid (B0.out.trans (K.mono (by rw [World.size_alloc]; omega)))
    clear K
    go_wp2
    go_ret
    exact ⟨ret_b E.out, K2.out⟩
  · rw [hv] at CV
    rw [hv, Bool.true_and] at hD
    clear hv
    replace CV := Lib.hid CV
    have H1 : Hid (∀ k, k < ps.length → limF ps k = true → false = S) := fun k h1 h2 => by rw [hD, anyB_yes h1 h2]; simp
    have H2 : Hid (∀ k, k < ts.length → spF ts k = true → false = S) := fun k h1 h2 => by rw [hD, anyB_yes h1 h2]; rfl
    have H3 : Hid ((∀ k, k < ps.length → limF ps k = false) → (∀ k, k < ts.length → spF ts k = false) → true = S) := fun h1 h2 => by rw [hD, anyB_no h1, anyB_no h2]; rfl
    clear hD
    go_enter Tryz.func75, Tryz.ntmps75
    go_wp2_with fail
    refine (CV.out _ B0.out).mono ?_
    rintro e w1 ⟨rfl, K⟩
    have c0w1 : w1.cell? ⟨w.heap.size, 0, none⟩ = some (.string nm) := by rw [K.cell (by simp)]; simp
    have c1w1 : w1.cell? ⟨w.heap.size, 1, none⟩ = some (.slice PA ps.length pc) := by rw [K.cell (by simp)]; simp
    have c2w1 : w1.cell? ⟨w.heap.size, 2, none⟩ = some (.slice TA ts.length tc) := by rw [K.cell (by simp)]; simp
    have K2 := Lib.hid (B0.out.trans (K.mono (by rw [World.size_alloc]; omega)))
    clear K
    go_wp2
    go_loop [3] (fun q => ∃ k : Nat, k ≤ ps.length ∧ q = .int .i64 k ∧ Hid (∀ j, j < k → limF ps j = false)) (fun q => ps.length - (intOf q).toNat)
    case atStart => exact ⟨0, by omega, rfl, fun j hj => absurd hj (by omega)⟩
    case round =>
      obtain ⟨k, hk, rfl, HM⟩ := hrel
      by_cases hlt2 : k < ps.length
      · obtain ⟨b0, off, rfl, hb0, d0, d1, d2⟩ := RP.out w1 K2.out k hlt2
        have HT := Lib.hid (H1.out k hlt2)
        have HF : Hid (limF ps k = false → ∀ j, j < k + 1 → limF ps j = false) := upto_snoc HM.out
        have HQ : Hid (limF ps k = decide ((pA ps k).cap ≠ 0)) := rfl
        clear HM
        generalize (pA ps k).cap = u at *
        by_cases q : u = 0
        · have G := Lib.hid (HF.out (HQ.out.trans (by simpa using q)))
          clear HF HT HQ
          subst q
          go_wp2
          go_round
          case rel => exact ⟨k + 1, by omega, by go_num, G⟩
          case measure => simp [intOf]; omega
        · have E := Lib.hid (HT.out (HQ.out.trans (by simpa using q)))
          have q2 : (u != 0) = true := by simpa using q
          clear HF HT HQ q
          go_wp2
          go_ret
          exact ⟨ret_b E.out, K2.out⟩
      · have HMA : Hid (∀ j, j < ps.length → limF ps j = false) := fun j hj => HM.out j (by omega)
        clear HM
        go_wp2
        go_loop [4] (fun q => ∃ k : Nat, k ≤ ts.length ∧ q = .int .i64 k ∧ Hid (∀ j, j < k → spF ts j = false)) (fun q => ts.length - (intOf q).toNat)
        case atStart => exact ⟨0, by omega, rfl, fun j hj => absurd hj (by omega)⟩
        case round =>
          obtain ⟨k2, hk2, rfl, HM⟩ := hrel
          by_cases hlt3 : k2 < ts.length
          · obtain ⟨b0, off, rfl, hb0, d0, d1, d2, d3, d4, r1, r2, r3⟩ := RT.out w1 K2.out k2 hlt3
            have HT := Lib.hid (H2.out k2 hlt3)
            have HF : Hid (spF ts k2 = false → ∀ j, j < k2 + 1 → spF ts j = false) := upto_snoc HM.out
            have HQ : Hid (spF ts k2 = decide (0 < (tA ts k2).inh.l.length ∨ (tA ts k2).prio ≠ 0)) := rfl
            clear HM r1 r2 r3
            generalize (tA ts k2).inh.l.length = m at *
            generalize (tA ts k2).prio = u at *
            by_cases q1 : 0 < m
            · have q1b : decide (0 < m) = true := by simpa using q1
              have E := Lib.hid (HT.out (HQ.out.trans (by simp [q1])))
              clear HF HT HQ
              go_wp2
              go_ret
              exact ⟨ret_b E.out, K2.out⟩
            · obtain rfl : m = 0 := by omega
              by_cases q : u = 0
              · have G := Lib.hid (HF.out (HQ.out.trans (by simpa using q)))
                clear HF HT HQ
                subst q
                go_wp2
                go_round
                case rel => exact ⟨k2 + 1, by omega, by go_num, G⟩
                case measure => simp [intOf]; omega
              · have E := Lib.hid (HT.out (HQ.out.trans (by simpa using q)))
                have q2 : (u != 0) = true := by simpa using q
                clear HF HT HQ q
                go_wp2
                go_ret
                exact ⟨ret_b E.out, K2.out⟩
          · have E := Lib.hid (H3.out HMA.out (fun j hj => HM.out j (by omega)))
            clear HM
            go_wp2
            go_ret
            exact ⟨ret_b E.out, K2.out⟩

set_option maxHeartbeats 4000000 in
set_option maxRecDepth 100000 in
theorem rordinaryN_any (n : NetV)  (w : World) (hr : NetR w n)  :
    Calls Tryz.prog 76 #[.agg #[.string n.nm, .slice n.PA n.ps.length n.pc, .slice n.TA n.ts.length n.tc]] w (VPost w.heap.size w (.bool (ordinaryN n))) := by
  have CV := fun W (hW : Below w.heap.size w W) => rvalidN_any n W (hr.below hW (Nat.le_refl _))
  have RP := fun W (hW : Below w.heap.size w W) => (hr.below hW (Nat.le_refl _)).rp
  have RT := fun W (hW : Below w.heap.size w W) => (hr.below hW (Nat.le_refl _)).rt
  have hD : ordinaryN n = (okN n && !anyB (hvF n.ts) n.ts.length) := rfl
  generalize ordinaryN n = S at *
  obtain ⟨nm, PA, ps, pc, TA, ts, tc⟩ := n
  obtain ⟨hnm, ⟨hlp, hzp⟩, ⟨hlt, hzt⟩, hpc, htc, _, _⟩ := hr
  dsimp only at hnm hlp hzp hlt hzt hpc htc RP RT
  dsimp only at hD CV
  replace RP := Lib.hid RP
  replace RT := Lib.hid RT
  have HZT := Lib.hid hzt
  have HZP := Lib.hid hzp
  clear hzt hzp
  have B0 : Hid (Below w.heap.size w (w.alloc (.cells #[.string nm, .slice PA ps.length pc, .slice TA ts.length tc] 25))) := (Below.refl _ _).alloc (Nat.le_refl _) _
  cases hv : okN ⟨nm, PA, ps, pc, TA, ts, tc⟩
  · rw [hv] at CV
    have E : Hid (false = S) := by show _ = _; rw [hD, hv]; rfl
    clear hD hv
    replace CV := Lib.hid CV
    go_enter Tryz.func76, Tryz.ntmps76
    go_wp2_with fail
    refine (CV.out _ B0.out).mono ?_
    rintro e w1 ⟨rfl, K⟩
    have K2 := Lib.hid (B0.out.trans (K.mono (by rw [World.size_alloc]; omega)))
    clear K
    go_wp2
    go_ret
    exact ⟨ret_b E.out, K2.out⟩
  · rw [hv] at CV
    rw [hv, Bool.true_and] at hD
    clear hv
    replace CV := Lib.hid CV
    have H2 : Hid (∀ k, k < ts.length → hvF ts k = true → false = S) := fun k h1 h2 => by rw [hD, anyB_yes h1 h2]; rfl
    have H3 : Hid ((∀ k, k < ts.length → hvF ts k = false) → true = S) := fun h2 => by rw [hD, anyB_no h2]; rfl
    clear hD
    go_enter Tryz.func76, Tryz.ntmps76
    go_wp2_with fail
    refine (CV.out _ B0.out).mono ?_
    rintro e w1 ⟨rfl, K⟩
    have c0w1 : w1.cell? ⟨w.heap.size, 0, none⟩ = some (.string nm) := by rw [K.cell (by simp)]; simp
    have c1w1 : w1.cell? ⟨w.heap.size, 1, none⟩ = some (.slice PA ps.length pc) := by rw [K.cell (by simp)]; simp
    have c2w1 : w1.cell? ⟨w.heap.size, 2, none⟩ = some (.slice TA ts.length tc) := by rw [K.cell (by simp)]; simp
    have K2 := Lib.hid (B0.out.trans (K.mono (by rw [World.size_alloc]; omega)))
    clear K
    go_wp2
    go_loop [3] (fun q => ∃ k : Nat, k ≤ ts.length ∧ q = .int .i64 k ∧ Hid (∀ j, j < k → hvF ts j = false)) (fun q => ts.length - (intOf q).toNat)
    case atStart => exact ⟨0, by omega, rfl, fun j hj => absurd hj (by omega)⟩
    case round =>
      obtain ⟨k, hk, rfl, HM⟩ := hrel
      by_cases hlt2 : k < ts.length
      · obtain ⟨b0, off, rfl, hb0, d0, d1, d2, d3, d4, r1, r2, r3⟩ := RT.out w1 K2.out k hlt2
        have HT := Lib.hid (H2.out k hlt2)
        have HF : Hid (hvF ts k = false → ∀ j, j < k + 1 → hvF ts j = false) := upto_snoc HM.out
        have HQ : Hid (hvF ts k = (heavyV (tA ts k).pre.l || heavyV (tA ts k).post.l)) := rfl
        have C1 := ones_any (tA ts k).pre.A (tA ts k).pre.l (tA ts k).pre.c w1 r1 (tA_ok HZT.out).1
        have C2 := ones_any (tA ts k).post.A (tA ts k).post.l (tA ts k).post.c w1 r2 (tA_ok HZT.out).2
        clear HM r1 r2 r3
        generalize heavyV (tA ts k).pre.l = t1 at *
        generalize heavyV (tA ts k).post.l = t2 at *
        replace C1 := Lib.hid C1
        replace C2 := Lib.hid C2
        cases t1
        · cases t2
          · have G := Lib.hid (HF.out (HQ.out.trans rfl))
            clear HF HT HQ
            go_wp2_with fail
            refine C1.out.mono ?_
            rintro e w2 ⟨rfl, rfl⟩
            go_wp2_with fail
            refine C2.out.mono ?_
            rintro e w2 ⟨rfl, rfl⟩
            go_wp2
            go_round
            case rel => exact ⟨k + 1, by omega, by go_num, G⟩
            case measure => simp [intOf]; omega
          · have E := Lib.hid (HT.out (HQ.out.trans rfl))
            clear HF HT HQ
            go_wp2_with fail
            refine C1.out.mono ?_
            rintro e w2 ⟨rfl, rfl⟩
            go_wp2_with fail
            refine C2.out.mono ?_
            rintro e w2 ⟨rfl, rfl⟩
            go_wp2
            go_ret
            exact ⟨ret_b E.out, K2.out⟩
        · have E := Lib.hid (HT.out (HQ.out.trans rfl))
          clear HF HT HQ
          go_wp2_with fail
          refine C1.out.mono ?_
          rintro e w2 ⟨rfl, rfl⟩
          go_wp2
          go_ret
          exact ⟨ret_b E.out, K2.out⟩
      · have E := Lib.hid (H3.out (fun j hj => HM.out j (by omega)))
        clear HM
        go_wp2
        go_ret
        exact ⟨ret_b E.out, K2.out⟩
end Go.Proofs.YtlbcdnobpnllkaaGreat
