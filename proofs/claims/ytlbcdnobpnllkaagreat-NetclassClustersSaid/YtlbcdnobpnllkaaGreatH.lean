/- A net is checked. -/
import Derived.Test.YtlbcdnobpnllkaaGreatG
namespace Go.Proofs.YtlbcdnobpnllkaaGreat
open Go.RowKit

/-- two numbers in a struct -/
def FPost (g : Nat) (w : World) (v : Int × Int) (e : Ending) (w' : World) : Prop := e = .returned (.agg #[.int .i64 v.1, .int .i64 v.2]) ∧ Below g w w'

set_option maxHeartbeats 4000000 in
set_option maxRecDepth 100000 in
theorem check_any (n : NetV) (w : World) (hr : NetR w n) :
    Calls Tryz.prog 33 #[.agg #[.string n.nm, .slice n.PA n.ps.length n.pc, .slice n.TA n.ts.length n.tc]] w (FPost w.heap.size w (chkV n)) := by
  obtain ⟨nm, PA, ps, pc, TA, ts, tc⟩ := n
  have CN := fun W => name_any2 nm W hr.hnm
  have CP := fun W (hW : Below w.heap.size w W) i (hi : i < ps.length) => checkPlace_any nm PA TA ps pc ts.length tc i W (hr.rp.below hW (Nat.le_refl _)) hr.okp hr.hpc hi
  have CT := fun W (hW : Below w.heap.size w W) i (hi : i < ts.length) => checkTrans_any nm PA TA ps ts pc tc i W (hr.rp.below hW (Nat.le_refl _)) (hr.rt.below hW (Nat.le_refl _)) hr.okp hr.okt hr.htc hi
  clear hr
  show Calls _ _ _ _ (FPost w.heap.size w (checkV nm ps ts))
  generalize hS : checkV nm ps ts = S
  have HS := Lib.hid hS
  clear hS
  generalize hn : nameB (bytesI nm) = nb at *
  have HN := Lib.hid hn
  clear hn
  replace CN := Lib.hid CN
  replace CP := Lib.hid CP
  replace CT := Lib.hid CT
  generalize hg : w.heap.size = g at *
  have HG := Lib.hid hg
  clear hg
  have B0 : Hid (Below g w ((w.alloc (.cells #[.string nm, .slice PA ps.length pc, .slice TA ts.length tc] 25)).alloc (.cells #[.int .i64 0, .int .i64 0] 47))) :=
    ((Below.refl _ _).alloc (by rw [HG.out]; exact Nat.le_refl _) _).alloc (by simp [HG.out]) _
  cases nb
  · have E : Hid (((5, 0) : Int × Int) = S) := by show _ = _; rw [← HS.out, checkV_name HN.out]
    go_enter Tryz.func33, Tryz.ntmps33
    go_wp2_with fail
    refine (CN.out _).mono ?_
    rintro e w1 ⟨rfl, K⟩
    have r0 : w1.cell? ⟨w.heap.size + 1, 0, none⟩ = some (.int .i64 0) := by rw [K.cell (by simp)]; simp
    have r1 : w1.cell? ⟨w.heap.size + 1, 1, none⟩ = some (.int .i64 0) := by rw [K.cell (by simp)]; simp
    have rf : ∀ o, w1.frozen? ⟨w.heap.size + 1, o, none⟩ = false := fun o => by rw [K.frozen (by simp)]; simp
    have K2 := Lib.hid (B0.out.trans (K.mono (by simp [HG.out]; omega)))
    have lg : g ≤ w.heap.size + 1 := by rw [HG.out]; omega
    clear K
    go_wp2
    exact bodyPost_ret (v := .agg #[.int .i64 5, .int .i64 (0)]) (by simp [results, Tryz.results33, go_sem, r0, r1]) rfl ⟨by rw [← E.out], (K2.out.setCell lg _).setCell lg _⟩
  · go_enter Tryz.func33, Tryz.ntmps33
    go_wp2_with fail
    refine (CN.out _).mono ?_
    rintro e w1 ⟨rfl, K⟩
    have c0 : w1.cell? ⟨w.heap.size, 0, none⟩ = some (.string nm) := by rw [K.cell (by simp; omega)]; simp
    have c1 : w1.cell? ⟨w.heap.size, 1, none⟩ = some (.slice PA ps.length pc) := by rw [K.cell (by simp; omega)]; simp
    have c2 : w1.cell? ⟨w.heap.size, 2, none⟩ = some (.slice TA ts.length tc) := by rw [K.cell (by simp; omega)]; simp
    have r0 : w1.cell? ⟨w.heap.size + 1, 0, none⟩ = some (.int .i64 0) := by rw [K.cell (by simp)]; simp
    have r1 : w1.cell? ⟨w.heap.size + 1, 1, none⟩ = some (.int .i64 0) := by rw [K.cell (by simp)]; simp
    have rf : ∀ o, w1.frozen? ⟨w.heap.size + 1, o, none⟩ = false := fun o => by rw [K.frozen (by simp)]; simp
    have K2 := Lib.hid (B0.out.trans (K.mono (by simp [HG.out]; omega)))
    have lg : g ≤ w.heap.size + 1 := by rw [HG.out]; omega
    have lz : w.heap.size + 1 < w1.heap.size := by have := K.size; simp at this; omega
    clear K
    by_cases hs : ps.length < 1 ∨ 24 < ps.length ∨ 24 < ts.length
    · have E : Hid (((2, 0) : Int × Int) = S) := by show _ = _; rw [← HS.out, checkV_size HN.out hs]
      go_wp2
      all_goals first
        | (exfalso; omega)
        | (exact bodyPost_ret (v := .agg #[.int .i64 2, .int .i64 (0)]) (by simp [results, Tryz.results33, go_sem, r0, r1]) rfl ⟨by rw [← E.out], (K2.out.setCell lg _).setCell lg _⟩)
    · have HNS := Lib.hid hs
      have hs1 : ¬ ps.length < 1 := by omega
      have hs2 : ¬ 24 < ps.length := by omega
      have hs3 : ¬ 24 < ts.length := by omega
      clear hs
      generalize hg1 : w1.heap.size = g1 at *
      have HG1 := Lib.hid hg1
      clear hg1
      have LA : Hid (w.heap.size < g1) := by show _ < _; omega
      have LB : Hid (w.heap.size + 1 < g1) := lz
      have Hc0 := Lib.hid c0
      have Hc1 := Lib.hid c1
      have Hc2 := Lib.hid c2
      have Hr0 := Lib.hid r0
      have Hr1 := Lib.hid r1
      have Hrf := Lib.hid rf
      have LG : Hid (g ≤ g1) := by show _ ≤ _; omega
      go_wp2
      clear c0 c1 c2 r0 r1 rf
      go_loopw [32] (fun q wr => ∃ k : Nat, k ≤ ps.length ∧ q = .int .i64 k ∧ Hid (Below g1 w1 wr) ∧ Hid (∀ j, j < k → placeE ps j = 0)) (fun q _ => ps.length - (intOf q).toNat)
      case atStart => exact ⟨0, by omega, rfl, Below.refl _ _, fun j hj => absurd hj (by omega)⟩
      case round =>
        obtain ⟨k, hk, rfl, HB, HM⟩ := hrel
        have c0wr : wr.cell? ⟨w.heap.size, 0, none⟩ = some (.string nm) := (HB.out.cell (by exact LA.out)).trans Hc0.out
        have c1wr : wr.cell? ⟨w.heap.size, 1, none⟩ = some (.slice PA ps.length pc) := (HB.out.cell (by exact LA.out)).trans Hc1.out
        have c2wr : wr.cell? ⟨w.heap.size, 2, none⟩ = some (.slice TA ts.length tc) := (HB.out.cell (by exact LA.out)).trans Hc2.out
        have r0wr : wr.cell? ⟨w.heap.size + 1, 0, none⟩ = some (.int .i64 0) := (HB.out.cell (by exact LB.out)).trans Hr0.out
        have r1wr : wr.cell? ⟨w.heap.size + 1, 1, none⟩ = some (.int .i64 0) := (HB.out.cell (by exact LB.out)).trans Hr1.out
        have rfwr : ∀ o, wr.frozen? ⟨w.heap.size + 1, o, none⟩ = false := fun o => (HB.out.frozen (p := ⟨w.heap.size + 1, o, none⟩) (by exact LB.out)).trans (Hrf.out o)
        have KB : Hid (Below g w wr) := K2.out.trans (HB.out.mono LG.out)
        by_cases hlt : k < ps.length
        · have C := Lib.hid (CP.out wr KB.out k hlt)
          have HV : Hid (placeE ps k ≠ 0 → ((placeE ps k, (k : Int)) : Int × Int) = S) := fun h => by rw [← HS.out, checkV_place HN.out HNS.out hlt HM.out h]
          have HF : Hid (placeE ps k = 0 → ∀ j, j < k + 1 → placeE ps j = 0) := upto_snoc HM.out
          clear HM
          generalize placeE ps k = v at *
          go_wp2_with fail
          refine C.out.mono ?_
          rintro e w2 ⟨rfl, L⟩
          have HB2 : Hid (Below g1 w1 w2) := HB.out.trans (L.mono (by have := HB.out.size; rw [HG1.out] at this; exact this))
          have KB2 : Hid (Below g w w2) := K2.out.trans (HB2.out.mono LG.out)
          clear L c0wr c1wr c2wr r0wr r1wr rfwr
          by_cases z : v = 0
          · have HF2 := Lib.hid (HF.out z)
            clear HF HV
            subst z
            go_wp2
            go_roundw
            case rel => exact ⟨k + 1, by omega, by go_num, HB2, HF2⟩
            case measure => simp [intOf]; omega
          · have zb : (v != 0) = true := by simpa using z
            have zc : (v == 0) = false := by simpa using z
            have E := Lib.hid (HV.out z)
            clear HF HV z
            have c0w2 : w2.cell? ⟨w.heap.size, 0, none⟩ = some (.string nm) := (HB2.out.cell (by exact LA.out)).trans Hc0.out
            have c1w2 : w2.cell? ⟨w.heap.size, 1, none⟩ = some (.slice PA ps.length pc) := (HB2.out.cell (by exact LA.out)).trans Hc1.out
            have c2w2 : w2.cell? ⟨w.heap.size, 2, none⟩ = some (.slice TA ts.length tc) := (HB2.out.cell (by exact LA.out)).trans Hc2.out
            have r0w2 : w2.cell? ⟨w.heap.size + 1, 0, none⟩ = some (.int .i64 0) := (HB2.out.cell (by exact LB.out)).trans Hr0.out
            have r1w2 : w2.cell? ⟨w.heap.size + 1, 1, none⟩ = some (.int .i64 0) := (HB2.out.cell (by exact LB.out)).trans Hr1.out
            have rfw2 : ∀ o, w2.frozen? ⟨w.heap.size + 1, o, none⟩ = false := fun o => (HB2.out.frozen (p := ⟨w.heap.size + 1, o, none⟩) (by exact LB.out)).trans (Hrf.out o)
            go_wp2
            exact bodyPost_ret (v := .agg #[.int .i64 v, .int .i64 (k)]) (by simp [results, Tryz.results33, go_sem, r0w2, r1w2]) rfl ⟨by rw [← E.out], (KB2.out.setCell lg _).setCell lg _⟩
        · have HMA : Hid (∀ j, j < ps.length → placeE ps j = 0) := fun j hj => HM.out j (by omega)
          clear HM
          have LG2 : Hid (g1 ≤ wr.heap.size) := by have := HB.out.size; rw [HG1.out] at this; exact this
          obtain ⟨wo, rfl⟩ : ∃ wo, wo = wr := ⟨_, rfl⟩
          go_wp2
          clear c0wr c1wr c2wr r0wr r1wr rfwr
          go_loopw [47] (fun q ws => ∃ k : Nat, k ≤ ts.length ∧ q = .int .i64 k ∧ Hid (Below g1 w1 ws) ∧ Hid (∀ j, j < k → transE ps.length ps ts j = 0)) (fun q _ => ts.length - (intOf q).toNat)
          case atStart => exact ⟨0, by omega, rfl, HB, fun j hj => absurd hj (by omega)⟩
          case round =>
            clear HB KB LG2
            obtain ⟨k2, hk2, rfl, HB, HM⟩ := hrel
            have c0wr : wr.cell? ⟨w.heap.size, 0, none⟩ = some (.string nm) := (HB.out.cell (by exact LA.out)).trans Hc0.out
            have c1wr : wr.cell? ⟨w.heap.size, 1, none⟩ = some (.slice PA ps.length pc) := (HB.out.cell (by exact LA.out)).trans Hc1.out
            have c2wr : wr.cell? ⟨w.heap.size, 2, none⟩ = some (.slice TA ts.length tc) := (HB.out.cell (by exact LA.out)).trans Hc2.out
            have r0wr : wr.cell? ⟨w.heap.size + 1, 0, none⟩ = some (.int .i64 0) := (HB.out.cell (by exact LB.out)).trans Hr0.out
            have r1wr : wr.cell? ⟨w.heap.size + 1, 1, none⟩ = some (.int .i64 0) := (HB.out.cell (by exact LB.out)).trans Hr1.out
            have rfwr : ∀ o, wr.frozen? ⟨w.heap.size + 1, o, none⟩ = false := fun o => (HB.out.frozen (p := ⟨w.heap.size + 1, o, none⟩) (by exact LB.out)).trans (Hrf.out o)
            have KB : Hid (Below g w wr) := K2.out.trans (HB.out.mono LG.out)
            by_cases hlt2 : k2 < ts.length
            · have C := Lib.hid (CT.out wr KB.out k2 hlt2)
              have HV : Hid (transE ps.length ps ts k2 ≠ 0 → ((transE ps.length ps ts k2, (ps.length : Int) + (k2 : Int)) : Int × Int) = S) := fun h => by rw [← HS.out, checkV_trans HN.out HNS.out HMA.out hlt2 HM.out h]
              have HF : Hid (transE ps.length ps ts k2 = 0 → ∀ j, j < k2 + 1 → transE ps.length ps ts j = 0) := upto_snoc HM.out
              clear HM
              generalize transE ps.length ps ts k2 = v at *
              go_wp2_with fail
              refine C.out.mono ?_
              rintro e w2 ⟨rfl, L⟩
              have HB2 : Hid (Below g1 w1 w2) := HB.out.trans (L.mono (by have := HB.out.size; rw [HG1.out] at this; exact this))
              have KB2 : Hid (Below g w w2) := K2.out.trans (HB2.out.mono LG.out)
              clear L c0wr c1wr c2wr r0wr r1wr rfwr
              by_cases z : v = 0
              · have HF2 := Lib.hid (HF.out z)
                clear HF HV
                subst z
                go_wp2
                go_roundw
                case rel => exact ⟨k2 + 1, by omega, by go_num, HB2, HF2⟩
                case measure => simp [intOf]; omega
              · have zb : (v != 0) = true := by simpa using z
                have zc : (v == 0) = false := by simpa using z
                have E := Lib.hid (HV.out z)
                clear HF HV z
                have c0w2 : w2.cell? ⟨w.heap.size, 0, none⟩ = some (.string nm) := (HB2.out.cell (by exact LA.out)).trans Hc0.out
                have c1w2 : w2.cell? ⟨w.heap.size, 1, none⟩ = some (.slice PA ps.length pc) := (HB2.out.cell (by exact LA.out)).trans Hc1.out
                have c2w2 : w2.cell? ⟨w.heap.size, 2, none⟩ = some (.slice TA ts.length tc) := (HB2.out.cell (by exact LA.out)).trans Hc2.out
                have r0w2 : w2.cell? ⟨w.heap.size + 1, 0, none⟩ = some (.int .i64 0) := (HB2.out.cell (by exact LB.out)).trans Hr0.out
                have r1w2 : w2.cell? ⟨w.heap.size + 1, 1, none⟩ = some (.int .i64 0) := (HB2.out.cell (by exact LB.out)).trans Hr1.out
                have rfw2 : ∀ o, w2.frozen? ⟨w.heap.size + 1, o, none⟩ = false := fun o => (HB2.out.frozen (p := ⟨w.heap.size + 1, o, none⟩) (by exact LB.out)).trans (Hrf.out o)
                go_wp2
                exact bodyPost_ret (v := .agg #[.int .i64 v, .int .i64 (((ps.length : Int) + (k2 : Int)))]) (by simp [results, Tryz.results33, go_sem, r0w2, r1w2]) rfl ⟨by rw [← E.out], (KB2.out.setCell lg _).setCell lg _⟩
            · have E : Hid (((0, 0) : Int × Int) = S) := by show _ = _; rw [← HS.out, checkV_ok HN.out HNS.out HMA.out (fun j hj => HM.out j (by omega))]
              clear HM
              go_wp2
              exact bodyPost_ret (v := .agg #[.int .i64 0, .int .i64 (0)]) (by simp [results, Tryz.results33, go_sem, r0wr, r1wr]) rfl ⟨by rw [← E.out], (KB.out.setCell lg _).setCell lg _⟩
end Go.Proofs.YtlbcdnobpnllkaaGreat
