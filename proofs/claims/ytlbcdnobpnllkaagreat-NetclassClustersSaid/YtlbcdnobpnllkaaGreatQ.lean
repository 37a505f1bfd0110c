/- Weights and neighbors of a transition. -/
import Derived.Test.YtlbcdnobpnllkaaGreatP
namespace Go.Proofs.YtlbcdnobpnllkaaGreat
open Go.RowKit

def inputsN (n : NetV) (t : Int) : List Int := if isT n t = true then targetsV (tA n.ts t.toNat).pre.l else []
def outputsN (n : NetV) (t : Int) : List Int := if isT n t = true then targetsV (tA n.ts t.toNat).post.l else []
theorem tA_ok {ts : List TransV} {k : Nat} (h : ∀ j, (tA ts j).nm.size ≤ maxLen ∧ (tA ts j).pre.l.length ≤ 1000 ∧ (tA ts j).post.l.length ≤ 1000 ∧ (tA ts j).inh.l.length ≤ 1000) : (tA ts k).pre.l.length ≤ 1000 ∧ (tA ts k).post.l.length ≤ 1000 := ⟨(h k).2.1, (h k).2.2.1⟩

set_option maxHeartbeats 2000000 in
set_option maxRecDepth 100000 in
theorem inputsN_any (n : NetV) (t : Int) (w : World) (hr : NetR w n)  :
    Calls Tryz.prog 34 #[.agg #[.string n.nm, .slice n.PA n.ps.length n.pc, .slice n.TA n.ts.length n.tc], .int .i64 t] w (IsPost w.heap.size w (inputsN n t)) := by
  have CV := fun W (hW : Below w.heap.size w W) => isTrans_any n t W (hr.below hW (Nat.le_refl _))
  have RP := fun W (hW : Below w.heap.size w W) => (hr.below hW (Nat.le_refl _)).rp
  have RT := fun W (hW : Below w.heap.size w W) => (hr.below hW (Nat.le_refl _)).rt
  have hD : inputsN n t = if isT n t = true then targetsV (tA n.ts t.toNat).pre.l else [] := rfl
  have hT := @isT_val n t
  generalize inputsN n t = S at *
  obtain ⟨nm, PA, ps, pc, TA, ts, tc⟩ := n
  obtain ⟨hnm, ⟨hlp, hzp⟩, ⟨hlt, hzt⟩, hpc, htc, _, _⟩ := hr
  dsimp only at hnm hlp hzp hlt hzt hpc htc RP RT
  dsimp only at hD hT CV
  replace RP := Lib.hid RP
  replace RT := Lib.hid RT
  have HZT := Lib.hid hzt
  have HZP := Lib.hid hzp
  clear hzt hzp
  have B0 : Hid (Below w.heap.size w (w.alloc (.cells #[.string nm, .slice PA ps.length pc, .slice TA ts.length tc] 25))) := (Below.refl _ _).alloc (Nat.le_refl _) _
  have HT := Lib.hid hT
  clear hT
  cases hv : isT ⟨nm, PA, ps, pc, TA, ts, tc⟩ t
  · rw [hv] at CV hD
    have E : Hid (([] : List Int) = S) := by show _ = _; rw [hD]; rfl
    clear hD hv
    replace CV := Lib.hid CV
    go_enter Tryz.func34, Tryz.ntmps34
    go_wp2_with fail
    refine (CV.out _ B0.out).mono ?_
    rintro e w1 ⟨rfl, K⟩
    have K2 := Lib.hid (B0.out.trans (K.mono (by rw [World.size_alloc]; omega)))
    clear K
    go_wp2
    go_ret
    exact ⟨none, 0, by rw [← E.out]; rfl, by rw [← E.out]; exact ReadsV.nil _ _, K2.out⟩
  · obtain ⟨h1, h2, h3⟩ := HT.out.1 hv
    obtain ⟨k, rfl⟩ : ∃ k : Nat, t = k := ⟨t.toNat, by omega⟩
    have hk : k < ts.length := by omega
    rw [hv] at CV hD
    have E : Hid (targetsV (tA ts k).pre.l = S) := by show _ = _; rw [hD, if_pos rfl]; rfl
    have hz : Hid ((tA ts k).pre.l.length ≤ 1000) := (tA_ok HZT.out).1
    clear hD hv h1 h2 h3
    replace CV := Lib.hid CV
    go_enter Tryz.func34, Tryz.ntmps34
    go_wp2_with fail
    refine (CV.out _ B0.out).mono ?_
    rintro e w1 ⟨rfl, K⟩
    have c0w1 : w1.cell? ⟨w.heap.size, 0, none⟩ = some (.string nm) := by rw [K.cell (by simp)]; simp
    have c1w1 : w1.cell? ⟨w.heap.size, 1, none⟩ = some (.slice PA ps.length pc) := by rw [K.cell (by simp)]; simp
    have c2w1 : w1.cell? ⟨w.heap.size, 2, none⟩ = some (.slice TA ts.length tc) := by rw [K.cell (by simp)]; simp
    have K2 := Lib.hid (B0.out.trans (K.mono (by rw [World.size_alloc]; omega)))
    clear K
    obtain ⟨b0, off, rfl, hb0, d0, d1, d2, d3, d4, r1, r2, r3⟩ := RT.out w1 K2.out k hk
    have C := places_any _ _ (tA ts k).pre.c w1 r1 hz.out
    replace C := Lib.hid C
    clear r1 r2 r3
    generalize targetsV (tA ts k).pre.l = F at *
    generalize (tA ts k).pre.l.length = m at *
    generalize (tA ts k).pre.A = A at *
    generalize (tA ts k).pre.c = c at *
    go_wp2_with fail
    refine C.out.mono ?_
    rintro e w2 ⟨A2, c2, rfl, R, K⟩
    have K3 := Lib.hid (K2.out.trans (K.mono K2.out.size))
    have R2 := Lib.hid R
    clear K R
    go_wp2
    go_ret
    exact ⟨A2, c2, by rw [← E.out]; rfl, by rw [← E.out]; exact R2.out, K3.out⟩

set_option maxHeartbeats 2000000 in
set_option maxRecDepth 100000 in
theorem outputsN_any (n : NetV) (t : Int) (w : World) (hr : NetR w n)  :
    Calls Tryz.prog 35 #[.agg #[.string n.nm, .slice n.PA n.ps.length n.pc, .slice n.TA n.ts.length n.tc], .int .i64 t] w (IsPost w.heap.size w (outputsN n t)) := by
  have CV := fun W (hW : Below w.heap.size w W) => isTrans_any n t W (hr.below hW (Nat.le_refl _))
  have RP := fun W (hW : Below w.heap.size w W) => (hr.below hW (Nat.le_refl _)).rp
  have RT := fun W (hW : Below w.heap.size w W) => (hr.below hW (Nat.le_refl _)).rt
  have hD : outputsN n t = if isT n t = true then targetsV (tA n.ts t.toNat).post.l else [] := rfl
  have hT := @isT_val n t
  generalize outputsN n t = S at *
  obtain ⟨nm, PA, ps, pc, TA, ts, tc⟩ := n
  obtain ⟨hnm, ⟨hlp, hzp⟩, ⟨hlt, hzt⟩, hpc, htc, _, _⟩ := hr
  dsimp only at hnm hlp hzp hlt hzt hpc htc RP RT
  dsimp only at hD hT CV
  replace RP := Lib.hid RP
  replace RT := Lib.hid RT
  have HZT := Lib.hid hzt
  have HZP := Lib.hid hzp
  clear hzt hzp
  have B0 : Hid (Below w.heap.size w (w.alloc (.cells #[.string nm, .slice PA ps.length pc, .slice TA ts.length tc] 25))) := (Below.refl _ _).alloc (Nat.le_refl _) _
  have HT := Lib.hid hT
  clear hT
  cases hv : isT ⟨nm, PA, ps, pc, TA, ts, tc⟩ t
  · rw [hv] at CV hD
    have E : Hid (([] : List Int) = S) := by show _ = _; rw [hD]; rfl
    clear hD hv
    replace CV := Lib.hid CV
    go_enter Tryz.func35, Tryz.ntmps35
    go_wp2_with fail
    refine (CV.out _ B0.out).mono ?_
    rintro e w1 ⟨rfl, K⟩
    have K2 := Lib.hid (B0.out.trans (K.mono (by rw [World.size_alloc]; omega)))
    clear K
    go_wp2
    go_ret
    exact ⟨none, 0, by rw [← E.out]; rfl, by rw [← E.out]; exact ReadsV.nil _ _, K2.out⟩
  · obtain ⟨h1, h2, h3⟩ := HT.out.1 hv
    obtain ⟨k, rfl⟩ : ∃ k : Nat, t = k := ⟨t.toNat, by omega⟩
    have hk : k < ts.length := by omega
    rw [hv] at CV hD
    have E : Hid (targetsV (tA ts k).post.l = S) := by show _ = _; rw [hD, if_pos rfl]; rfl
    have hz : Hid ((tA ts k).post.l.length ≤ 1000) := (tA_ok HZT.out).2
    clear hD hv h1 h2 h3
    replace CV := Lib.hid CV
    go_enter Tryz.func35, Tryz.ntmps35
    go_wp2_with fail
    refine (CV.out _ B0.out).mono ?_
    rintro e w1 ⟨rfl, K⟩
    have c0w1 : w1.cell? ⟨w.heap.size, 0, none⟩ = some (.string nm) := by rw [K.cell (by simp)]; simp
    have c1w1 : w1.cell? ⟨w.heap.size, 1, none⟩ = some (.slice PA ps.length pc) := by rw [K.cell (by simp)]; simp
    have c2w1 : w1.cell? ⟨w.heap.size, 2, none⟩ = some (.slice TA ts.length tc) := by rw [K.cell (by simp)]; simp
    have K2 := Lib.hid (B0.out.trans (K.mono (by rw [World.size_alloc]; omega)))
    clear K
    obtain ⟨b0, off, rfl, hb0, d0, d1, d2, d3, d4, r1, r2, r3⟩ := RT.out w1 K2.out k hk
    have C := places_any _ _ (tA ts k).post.c w1 r2 hz.out
    replace C := Lib.hid C
    clear r1 r2 r3
    generalize targetsV (tA ts k).post.l = F at *
    generalize (tA ts k).post.l.length = m at *
    generalize (tA ts k).post.A = A at *
    generalize (tA ts k).post.c = c at *
    go_wp2_with fail
    refine C.out.mono ?_
    rintro e w2 ⟨A2, c2, rfl, R, K⟩
    have K3 := Lib.hid (K2.out.trans (K.mono K2.out.size))
    have R2 := Lib.hid R
    clear K R
    go_wp2
    go_ret
    exact ⟨A2, c2, by rw [← E.out]; rfl, by rw [← E.out]; exact R2.out, K3.out⟩

set_option maxHeartbeats 2000000 in
set_option maxRecDepth 100000 in
theorem rpreN_any (n : NetV) (t p : Int) (w : World) (hr : NetR w n)  :
    Calls Tryz.prog 71 #[.agg #[.string n.nm, .slice n.PA n.ps.length n.pc, .slice n.TA n.ts.length n.tc], .int .i64 t, .int .i64 p] w (VPost w.heap.size w (.int .i64 (preN n t p))) := by
  have CV := fun W (hW : Below w.heap.size w W) => rvalidN_any n W (hr.below hW (Nat.le_refl _))
  have RP := fun W (hW : Below w.heap.size w W) => (hr.below hW (Nat.le_refl _)).rp
  have RT := fun W (hW : Below w.heap.size w W) => (hr.below hW (Nat.le_refl _)).rt
  have hD : preN n t p = if isT n t = true then weightV (tA n.ts t.toNat).pre.l p else 0 := rfl
  have hT := @isT_val n t
  generalize preN n t p = S at *
  obtain ⟨nm, PA, ps, pc, TA, ts, tc⟩ := n
  obtain ⟨hnm, ⟨hlp, hzp⟩, ⟨hlt, hzt⟩, hpc, htc, _, _⟩ := hr
  dsimp only at hnm hlp hzp hlt hzt hpc htc RP RT
  dsimp only at hD hT CV
  replace RP := Lib.hid RP
  replace RT := Lib.hid RT
  have HZT := Lib.hid hzt
  have HZP := Lib.hid hzp
  clear hzt hzp
  have B0 : Hid (Below w.heap.size w (w.alloc (.cells #[.string nm, .slice PA ps.length pc, .slice TA ts.length tc] 25))) := (Below.refl _ _).alloc (Nat.le_refl _) _
  have HT := Lib.hid hT
  clear hT
  cases hv : okN ⟨nm, PA, ps, pc, TA, ts, tc⟩
  · rw [hv] at CV
    have hn : isT ⟨nm, PA, ps, pc, TA, ts, tc⟩ t = false := by
      cases hh : isT ⟨nm, PA, ps, pc, TA, ts, tc⟩ t
      · rfl
      · have := (HT.out.1 hh).2.2
        rw [hv] at this
        cases this
    rw [hn] at hD
    have E : Hid ((0 : Int) = S) := by show _ = _; rw [hD]; rfl
    clear hD hv hn
    replace CV := Lib.hid CV
    go_enter Tryz.func71, Tryz.ntmps71
    go_wp2_with fail
    refine (CV.out _ B0.out).mono ?_
    rintro e w1 ⟨rfl, K⟩
    have K2 := Lib.hid (B0.out.trans (K.mono (by rw [World.size_alloc]; omega)))
    clear K
    go_wp2
    go_ret
    exact ⟨ret_i E.out, K2.out⟩
  · rw [hv] at CV
    replace CV := Lib.hid CV
    by_cases h1 : t < 0 ∨ (ts.length : Int) ≤ t
    · have hn : isT ⟨nm, PA, ps, pc, TA, ts, tc⟩ t = false := by
        cases hh : isT ⟨nm, PA, ps, pc, TA, ts, tc⟩ t
        · rfl
        · have := (HT.out.1 hh)
          omega
      rw [hn] at hD
      have E : Hid ((0 : Int) = S) := by show _ = _; rw [hD]; rfl
      clear hD hv hn
      go_enter Tryz.func71, Tryz.ntmps71
      go_wp2_with fail
      refine (CV.out _ B0.out).mono ?_
      rintro e w1 ⟨rfl, K⟩
      have c0w1 : w1.cell? ⟨w.heap.size, 0, none⟩ = some (.string nm) := by rw [K.cell (by simp)]; simp
      have c1w1 : w1.cell? ⟨w.heap.size, 1, none⟩ = some (.slice PA ps.length pc) := by rw [K.cell (by simp)]; simp
      have c2w1 : w1.cell? ⟨w.heap.size, 2, none⟩ = some (.slice TA ts.length tc) := by rw [K.cell (by simp)]; simp
      have K2 := Lib.hid (B0.out.trans (K.mono (by rw [World.size_alloc]; omega)))
      clear K
      go_wp2
      all_goals first
        | (exfalso; omega)
        | (go_ret
           exact ⟨ret_i E.out, K2.out⟩)
    · obtain ⟨k, rfl⟩ : ∃ k : Nat, t = k := ⟨t.toNat, by omega⟩
      have hk : k < ts.length := by omega
      have hn : isT ⟨nm, PA, ps, pc, TA, ts, tc⟩ (k : Int) = true := HT.out.2 ⟨by omega, by omega, hv⟩
      rw [hn] at hD
      have E : Hid (weightV (tA ts k).pre.l p = S) := by show _ = _; rw [hD, if_pos rfl]; rfl
      have hz : Hid ((tA ts k).pre.l.length ≤ 1000) := (tA_ok HZT.out).1
      clear hD hv hn h1
      go_enter Tryz.func71, Tryz.ntmps71
      go_wp2_with fail
      refine (CV.out _ B0.out).mono ?_
      rintro e w1 ⟨rfl, K⟩
      have c0w1 : w1.cell? ⟨w.heap.size, 0, none⟩ = some (.string nm) := by rw [K.cell (by simp)]; simp
      have c1w1 : w1.cell? ⟨w.heap.size, 1, none⟩ = some (.slice PA ps.length pc) := by rw [K.cell (by simp)]; simp
      have c2w1 : w1.cell? ⟨w.heap.size, 2, none⟩ = some (.slice TA ts.length tc) := by rw [K.cell (by simp)]; simp
      have K2 := Lib.hid (B0.out.trans (K.mono (by rw [World.size_alloc]; omega)))
      clear K
      obtain ⟨b0, off, rfl, hb0, d0, d1, d2, d3, d4, r1, r2, r3⟩ := RT.out w1 K2.out k hk
      have C := rweight_any _ _ (tA ts k).pre.c p w1 r1 (by unfold maxLen; have := hz.out; omega)
      replace C := Lib.hid C
      clear r1 r2 r3
      generalize weightV (tA ts k).pre.l p = F at *
      generalize (tA ts k).pre.l.length = m at *
      generalize (tA ts k).pre.A = A at *
      generalize (tA ts k).pre.c = c at *
      go_wp2_with fail
      refine C.out.mono ?_
      rintro e w2 ⟨rfl, K⟩
      have K3 := Lib.hid (K2.out.trans (K.mono K2.out.size))
      clear K
      go_wp2
      go_ret
      exact ⟨ret_i E.out, K3.out⟩

set_option maxHeartbeats 2000000 in
set_option maxRecDepth 100000 in
theorem rpostN_any (n : NetV) (t p : Int) (w : World) (hr : NetR w n)  :
    Calls Tryz.prog 72 #[.agg #[.string n.nm, .slice n.PA n.ps.length n.pc, .slice n.TA n.ts.length n.tc], .int .i64 t, .int .i64 p] w (VPost w.heap.size w (.int .i64 (postN n t p))) := by
  have CV := fun W (hW : Below w.heap.size w W) => rvalidN_any n W (hr.below hW (Nat.le_refl _))
  have RP := fun W (hW : Below w.heap.size w W) => (hr.below hW (Nat.le_refl _)).rp
  have RT := fun W (hW : Below w.heap.size w W) => (hr.below hW (Nat.le_refl _)).rt
  have hD : postN n t p = if isT n t = true then weightV (tA n.ts t.toNat).post.l p else 0 := rfl
  have hT := @isT_val n t
  generalize postN n t p = S at *
  obtain ⟨nm, PA, ps, pc, TA, ts, tc⟩ := n
  obtain ⟨hnm, ⟨hlp, hzp⟩, ⟨hlt, hzt⟩, hpc, htc, _, _⟩ := hr
  dsimp only at hnm hlp hzp hlt hzt hpc htc RP RT
  dsimp only at hD hT CV
  replace RP := Lib.hid RP
  replace RT := Lib.hid RT
  have HZT := Lib.hid hzt
  have HZP := Lib.hid hzp
  clear hzt hzp
  have B0 : Hid (Below w.heap.size w (w.alloc (.cells #[.string nm, .slice PA ps.length pc, .slice TA ts.length tc] 25))) := (Below.refl _ _).alloc (Nat.le_refl _) _
  have HT := Lib.hid hT
  clear hT
  cases hv : okN ⟨nm, PA, ps, pc, TA, ts, tc⟩
  · rw [hv] at CV
    have hn : isT ⟨nm, PA, ps, pc, TA, ts, tc⟩ t = false := by
      cases hh : isT ⟨nm, PA, ps, pc, TA, ts, tc⟩ t
      · rfl
      · have := (HT.out.1 hh).2.2
        rw [hv] at this
        cases this
    rw [hn] at hD
    have E : Hid ((0 : Int) = S) := by show _ = _; rw [hD]; rfl
    clear hD hv hn
    replace CV := Lib.hid CV
    go_enter Tryz.func72, Tryz.ntmps72
    go_wp2_with fail
    refine (CV.out _ B0.out).mono ?_
    rintro e w1 ⟨rfl, K⟩
    have K2 := Lib.hid (B0.out.trans (K.mono (by rw [World.size_alloc]; omega)))
    clear K
    go_wp2
    go_ret
    exact ⟨ret_i E.out, K2.out⟩
  · rw [hv] at CV
    replace CV := Lib.hid CV
    by_cases h1 : t < 0 ∨ (ts.length : Int) ≤ t
    · have hn : isT ⟨nm, PA, ps, pc, TA, ts, tc⟩ t = false := by
        cases hh : isT ⟨nm, PA, ps, pc, TA, ts, tc⟩ t
        · rfl
        · have := (HT.out.1 hh)
          omega
      rw [hn] at hD
      have E : Hid ((0 : Int) = S) := by show _ = _; rw [hD]; rfl
      clear hD hv hn
      go_enter Tryz.func72, Tryz.ntmps72
      go_wp2_with fail
      refine (CV.out _ B0.out).mono ?_
      rintro e w1 ⟨rfl, K⟩
      have c0w1 : w1.cell? ⟨w.heap.size, 0, none⟩ = some (.string nm) := by rw [K.cell (by simp)]; simp
      have c1w1 : w1.cell? ⟨w.heap.size, 1, none⟩ = some (.slice PA ps.length pc) := by rw [K.cell (by simp)]; simp
      have c2w1 : w1.cell? ⟨w.heap.size, 2, none⟩ = some (.slice TA ts.length tc) := by rw [K.cell (by simp)]; simp
      have K2 := Lib.hid (B0.out.trans (K.mono (by rw [World.size_alloc]; omega)))
      clear K
      go_wp2
      all_goals first
        | (exfalso; omega)
        | (go_ret
           exact ⟨ret_i E.out, K2.out⟩)
    · obtain ⟨k, rfl⟩ : ∃ k : Nat, t = k := ⟨t.toNat, by omega⟩
      have hk : k < ts.length := by omega
      have hn : isT ⟨nm, PA, ps, pc, TA, ts, tc⟩ (k : Int) = true := HT.out.2 ⟨by omega, by omega, hv⟩
      rw [hn] at hD
      have E : Hid (weightV (tA ts k).post.l p = S) := by show _ = _; rw [hD, if_pos rfl]; rfl
      have hz : Hid ((tA ts k).post.l.length ≤ 1000) := (tA_ok HZT.out).2
      clear hD hv hn h1
      go_enter Tryz.func72, Tryz.ntmps72
      go_wp2_with fail
      refine (CV.out _ B0.out).mono ?_
      rintro e w1 ⟨rfl, K⟩
      have c0w1 : w1.cell? ⟨w.heap.size, 0, none⟩ = some (.string nm) := by rw [K.cell (by simp)]; simp
      have c1w1 : w1.cell? ⟨w.heap.size, 1, none⟩ = some (.slice PA ps.length pc) := by rw [K.cell (by simp)]; simp
      have c2w1 : w1.cell? ⟨w.heap.size, 2, none⟩ = some (.slice TA ts.length tc) := by rw [K.cell (by simp)]; simp
      have K2 := Lib.hid (B0.out.trans (K.mono (by rw [World.size_alloc]; omega)))
      clear K
      obtain ⟨b0, off, rfl, hb0, d0, d1, d2, d3, d4, r1, r2, r3⟩ := RT.out w1 K2.out k hk
      have C := rweight_any _ _ (tA ts k).post.c p w1 r2 (by unfold maxLen; have := hz.out; omega)
      replace C := Lib.hid C
      clear r1 r2 r3
      generalize weightV (tA ts k).post.l p = F at *
      generalize (tA ts k).post.l.length = m at *
      generalize (tA ts k).post.A = A at *
      generalize (tA ts k).post.c = c at *
      go_wp2_with fail
      refine C.out.mono ?_
      rintro e w2 ⟨rfl, K⟩
      have K3 := Lib.hid (K2.out.trans (K.mono K2.out.size))
      clear K
      go_wp2
      go_ret
      exact ⟨ret_i E.out, K3.out⟩

end Go.Proofs.YtlbcdnobpnllkaaGreat
