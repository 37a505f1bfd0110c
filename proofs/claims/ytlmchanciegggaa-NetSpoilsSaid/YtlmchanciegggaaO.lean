/- Places and transitions by name, weights of arcs. -/
import Derived.Test.YtlmchanciegggaaN
namespace Go.Proofs.Ytlmchanciegggaa
open Go.RowKit

def placeN (n : NetV) (s : ByteArray) : Int := if okN n = true then placeI n.ps n.ps.length s else -1
def transN (n : NetV) (s : ByteArray) : Int := if okN n = true then transI n.ts n.ts.length s else -1
def isT (n : NetV) (t : Int) : Bool := decide (0 ≤ t) && decide (t < n.ts.length) && okN n
def preN (n : NetV) (t p : Int) : Int := if isT n t = true then weightV (tA n.ts t.toNat).pre.l p else 0
def postN (n : NetV) (t p : Int) : Int := if isT n t = true then weightV (tA n.ts t.toNat).post.l p else 0

set_option maxHeartbeats 2000000 in
set_option maxRecDepth 100000 in
theorem placeN_any (n : NetV) (s : ByteArray) (w : World) (hr : NetR w n)  :
    Calls Try.prog 25 #[.agg #[.string n.nm, .slice n.PA n.ps.length n.pc, .slice n.TA n.ts.length n.tc], .string s] w (VPost w.heap.size w (.int .i64 (placeN n s))) := by
  have CV := fun W (hW : Below w.heap.size w W) => validN_any n W (hr.below hW (Nat.le_refl _))
  have RP := fun W (hW : Below w.heap.size w W) => (hr.below hW (Nat.le_refl _)).rp
  have RT := fun W (hW : Below w.heap.size w W) => (hr.below hW (Nat.le_refl _)).rt
  have hD : placeN n s = if okN n = true then placeI n.ps n.ps.length s else -1 := rfl
  generalize placeN n s = S at *
  obtain ⟨nm, PA, ps, pc, TA, ts, tc⟩ := n
  obtain ⟨hnm, ⟨hlp, hzp⟩, ⟨hlt, hzt⟩, hpc, htc, _, _⟩ := hr
  dsimp only at hnm hlp hzp hlt hzt hpc htc RP RT
  dsimp only at hD CV
  replace RP := Lib.hid RP
  replace RT := Lib.hid RT
  have HZT := Lib.hid hzt
  have HZP := Lib.hid hzp
  clear hzt hzp
  have B0 : Hid (Below w.heap.size w (w.alloc (.cells #[.string nm, .slice PA ps.length pc, .slice TA ts.length tc] 25))) := (Below.refl _ _).alloc (Nat.le_refl _) _
  have CP := fun W (hW : Below w.heap.size w W) => placeNamed_any PA ps pc s W (RP.out W hW) (by unfold maxLen; omega)
  generalize placeI ps ps.length s = F at *
  replace CP := Lib.hid CP
  cases hv : okN ⟨nm, PA, ps, pc, TA, ts, tc⟩
  · rw [hv] at CV
    have E : Hid (-1 = S) := by show _ = _; rw [hD, hv]; rfl
    clear hD hv
    replace CV := Lib.hid CV
    go_enter Try.func25, Try.ntmps25
    go_wp2_with fail
    refine (CV.out _ B0.out).mono ?_
    rintro e w1 ⟨rfl, K⟩
    have K2 := Lib.hid (B0.out.trans (K.mono (by rw [World.size_alloc]; omega)))
    clear K
    go_wp2
    go_ret
    exact ⟨ret_i E.out, K2.out⟩
  · rw [hv] at CV
    have E : Hid (F = S) := by show _ = _; rw [hD, hv]; rfl
    clear hD hv
    replace CV := Lib.hid CV
    go_enter Try.func25, Try.ntmps25
    go_wp2_with fail
    refine (CV.out _ B0.out).mono ?_
    rintro e w1 ⟨rfl, K⟩
    have c0w1 : w1.cell? ⟨w.heap.size, 0, none⟩ = some (.string nm) := by rw [K.cell (by simp)]; simp
    have c1w1 : w1.cell? ⟨w.heap.size, 1, none⟩ = some (.slice PA ps.length pc) := by rw [K.cell (by simp)]; simp
    have c2w1 : w1.cell? ⟨w.heap.size, 2, none⟩ = some (.slice TA ts.length tc) := by rw [K.cell (by simp)]; simp
    have K2 := Lib.hid (B0.out.trans (K.mono (by rw [World.size_alloc]; omega)))
    clear K
    go_wp2_with fail
    refine (CP.out _ K2.out).mono ?_
    rintro e w2 ⟨rfl, K⟩
    have K3 := Lib.hid (K2.out.trans (K.mono K2.out.size))
    clear K
    go_wp2
    go_ret
    exact ⟨ret_i E.out, K3.out⟩

set_option maxHeartbeats 2000000 in
set_option maxRecDepth 100000 in
theorem transN_any (n : NetV) (s : ByteArray) (w : World) (hr : NetR w n)  :
    Calls Try.prog 27 #[.agg #[.string n.nm, .slice n.PA n.ps.length n.pc, .slice n.TA n.ts.length n.tc], .string s] w (VPost w.heap.size w (.int .i64 (transN n s))) := by
  have CV := fun W (hW : Below w.heap.size w W) => validN_any n W (hr.below hW (Nat.le_refl _))
  have RP := fun W (hW : Below w.heap.size w W) => (hr.below hW (Nat.le_refl _)).rp
  have RT := fun W (hW : Below w.heap.size w W) => (hr.below hW (Nat.le_refl _)).rt
  have hD : transN n s = if okN n = true then transI n.ts n.ts.length s else -1 := rfl
  generalize transN n s = S at *
  obtain ⟨nm, PA, ps, pc, TA, ts, tc⟩ := n
  obtain ⟨hnm, ⟨hlp, hzp⟩, ⟨hlt, hzt⟩, hpc, htc, _, _⟩ := hr
  dsimp only at hnm hlp hzp hlt hzt hpc htc RP RT
  dsimp only at hD CV
  replace RP := Lib.hid RP
  replace RT := Lib.hid RT
  have HZT := Lib.hid hzt
  have HZP := Lib.hid hzp
  clear hzt hzp
  have B0 : Hid (Below w.heap.size w (w.alloc (.cells #[.string nm, .slice PA ps.length pc, .slice TA ts.length tc] 25))) := (Below.refl _ _).alloc (Nat.le_refl _) _
  have CP := fun W (hW : Below w.heap.size w W) => transNamed_any TA ts tc s W (RT.out W hW) (by unfold maxLen; omega)
  generalize transI ts ts.length s = F at *
  replace CP := Lib.hid CP
  cases hv : okN ⟨nm, PA, ps, pc, TA, ts, tc⟩
  · rw [hv] at CV
    have E : Hid (-1 = S) := by show _ = _; rw [hD, hv]; rfl
    clear hD hv
    replace CV := Lib.hid CV
    go_enter Try.func27, Try.ntmps27
    go_wp2_with fail
    refine (CV.out _ B0.out).mono ?_
    rintro e w1 ⟨rfl, K⟩
    have K2 := Lib.hid (B0.out.trans (K.mono (by rw [World.size_alloc]; omega)))
    clear K
    go_wp2
    go_ret
    exact ⟨ret_i E.out, K2.out⟩
  · rw [hv] at CV
    have E : Hid (F = S) := by show _ = _; rw [hD, hv]; rfl
    clear hD hv
    replace CV := Lib.hid CV
    go_enter Try.func27, Try.ntmps27
    go_wp2_with fail
    refine (CV.out _ B0.out).mono ?_
    rintro e w1 ⟨rfl, K⟩
    have c0w1 : w1.cell? ⟨w.heap.size, 0, none⟩ = some (.string nm) := by rw [K.cell (by simp)]; simp
    have c1w1 : w1.cell? ⟨w.heap.size, 1, none⟩ = some (.slice PA ps.length pc) := by rw [K.cell (by simp)]; simp
    have c2w1 : w1.cell? ⟨w.heap.size, 2, none⟩ = some (.slice TA ts.length tc) := by rw [K.cell (by simp)]; simp
    have K2 := Lib.hid (B0.out.trans (K.mono (by rw [World.size_alloc]; omega)))
    clear K
    go_wp2_with fail
    refine (CP.out _ K2.out).mono ?_
    rintro e w2 ⟨rfl, K⟩
    have K3 := Lib.hid (K2.out.trans (K.mono K2.out.size))
    clear K
    go_wp2
    go_ret
    exact ⟨ret_i E.out, K3.out⟩

set_option maxHeartbeats 2000000 in
set_option maxRecDepth 100000 in
theorem rplaceN_any (n : NetV) (s : ByteArray) (w : World) (hr : NetR w n)  :
    Calls Try.prog 26 #[.agg #[.string n.nm, .slice n.PA n.ps.length n.pc, .slice n.TA n.ts.length n.tc], .string s] w (VPost w.heap.size w (.int .i64 (placeN n s))) := by
  have CV := fun W (hW : Below w.heap.size w W) => rvalidN_any n W (hr.below hW (Nat.le_refl _))
  have RP := fun W (hW : Below w.heap.size w W) => (hr.below hW (Nat.le_refl _)).rp
  have RT := fun W (hW : Below w.heap.size w W) => (hr.below hW (Nat.le_refl _)).rt
  have hD : placeN n s = if okN n = true then placeI n.ps n.ps.length s else -1 := rfl
  generalize placeN n s = S at *
  obtain ⟨nm, PA, ps, pc, TA, ts, tc⟩ := n
  obtain ⟨hnm, ⟨hlp, hzp⟩, ⟨hlt, hzt⟩, hpc, htc, _, _⟩ := hr
  dsimp only at hnm hlp hzp hlt hzt hpc htc RP RT
  dsimp only at hD CV
  replace RP := Lib.hid RP
  replace RT := Lib.hid RT
  have HZT := Lib.hid hzt
  have HZP := Lib.hid hzp
  clear hzt hzp
  have B0 : Hid (Below w.heap.size w (w.alloc (.cells #[.string nm, .slice PA ps.length pc, .slice TA ts.length tc] 25))) := (Below.refl _ _).alloc (Nat.le_refl _) _
  cases hv : okN ⟨nm, PA, ps, pc, TA, ts, tc⟩
  · rw [hv] at CV
    have E : Hid (-1 = S) := by show _ = _; rw [hD, hv]; rfl
    clear hD hv
    replace CV := Lib.hid CV
    go_enter Try.func26, Try.ntmps26
    go_wp2_with fail
    refine (CV.out _ B0.out).mono ?_
    rintro e w1 ⟨rfl, K⟩
    have K2 := Lib.hid (B0.out.trans (K.mono (by rw [World.size_alloc]; omega)))
    clear K
    go_wp2
    go_ret
    exact ⟨ret_i E.out, K2.out⟩
  · rw [hv] at CV
    have E : Hid (placeI ps ps.length s = S) := by show _ = _; rw [hD, hv]; rfl
    clear hD hv
    replace CV := Lib.hid CV
    have HN : Hid (ps.length = ps.length) := rfl
    go_enter Try.func26, Try.ntmps26
    go_wp2_with fail
    refine (CV.out _ B0.out).mono ?_
    rintro e w1 ⟨rfl, K⟩
    have c0w1 : w1.cell? ⟨w.heap.size, 0, none⟩ = some (.string nm) := by rw [K.cell (by simp)]; simp
    have c1w1 : w1.cell? ⟨w.heap.size, 1, none⟩ = some (.slice PA ps.length pc) := by rw [K.cell (by simp)]; simp
    have c2w1 : w1.cell? ⟨w.heap.size, 2, none⟩ = some (.slice TA ts.length tc) := by rw [K.cell (by simp)]; simp
    have K2 := Lib.hid (B0.out.trans (K.mono (by rw [World.size_alloc]; omega)))
    have HR := Lib.hid (RP.out w1 K2.out)
    clear K
    go_wp2
    go_loop [5] (fun q => ∃ k : Nat, k ≤ ps.length ∧ q = .int .i64 k ∧ Hid (∀ j, j < k → eqS (pA ps j).nm s = false)) (fun q => ps.length - (intOf q).toNat)
    case atStart => exact ⟨0, by omega, rfl, fun j hj => absurd hj (by omega)⟩
    case round =>
      obtain ⟨k, hk, rfl, HM⟩ := hrel
      by_cases hlt2 : k < ps.length
      · obtain ⟨b1, off1, rfl, hb1, hd0, hd1, hd2⟩ := HR.out k hlt2
        have HT : Hid (eqS (pA ps k).nm s = true → (k : Int) = S) := fun h => by
          rw [← E.out]
          exact (firstI_at (f := fun j => eqS (pA ps j).nm s) hlt2 HM.out h).symm
        have HF : Hid (eqS (pA ps k).nm s = false → ∀ j, j < k + 1 → eqS (pA ps j).nm s = false) := upto_snoc HM.out
        clear HM
        have hQ : Hid (eqS (pA ps k).nm s = ((pA ps k).nm.toList == s.toList)) := rfl
        generalize (pA ps k).nm = kn at *
        by_cases q : (kn.toList == s.toList) = true
        · have E2 := Lib.hid (HT.out (hQ.out.trans q))
          clear HF HT
          go_wp2
          go_ret
          exact ⟨ret_i E2.out, K2.out⟩
        · have q2 : (kn.toList == s.toList) = false := by simpa using q
          have G := Lib.hid (HF.out (hQ.out.trans q2))
          clear HF HT q
          go_wp2
          go_round
          case rel => exact ⟨k + 1, by omega, by go_num, G⟩
          case measure => simp [intOf]; omega
      · have E2 : Hid (-1 = S) := by
          show _ = _
          rw [← E.out]
          exact (firstI_none (f := fun j => eqS (pA ps j).nm s) (fun j hj => HM.out j (by omega))).symm
        clear HM
        go_wp2
        go_ret
        exact ⟨ret_i E2.out, K2.out⟩

set_option maxHeartbeats 2000000 in
set_option maxRecDepth 100000 in
theorem rtransN_any (n : NetV) (s : ByteArray) (w : World) (hr : NetR w n)  :
    Calls Try.prog 28 #[.agg #[.string n.nm, .slice n.PA n.ps.length n.pc, .slice n.TA n.ts.length n.tc], .string s] w (VPost w.heap.size w (.int .i64 (transN n s))) := by
  have CV := fun W (hW : Below w.heap.size w W) => rvalidN_any n W (hr.below hW (Nat.le_refl _))
  have RP := fun W (hW : Below w.heap.size w W) => (hr.below hW (Nat.le_refl _)).rp
  have RT := fun W (hW : Below w.heap.size w W) => (hr.below hW (Nat.le_refl _)).rt
  have hD : transN n s = if okN n = true then transI n.ts n.ts.length s else -1 := rfl
  generalize transN n s = S at *
  obtain ⟨nm, PA, ps, pc, TA, ts, tc⟩ := n
  obtain ⟨hnm, ⟨hlp, hzp⟩, ⟨hlt, hzt⟩, hpc, htc, _, _⟩ := hr
  dsimp only at hnm hlp hzp hlt hzt hpc htc RP RT
  dsimp only at hD CV
  replace RP := Lib.hid RP
  replace RT := Lib.hid RT
  have HZT := Lib.hid hzt
  have HZP := Lib.hid hzp
  clear hzt hzp
  have B0 : Hid (Below w.heap.size w (w.alloc (.cells #[.string nm, .slice PA ps.length pc, .slice TA ts.length tc] 25))) := (Below.refl _ _).alloc (Nat.le_refl _) _
  cases hv : okN ⟨nm, PA, ps, pc, TA, ts, tc⟩
  · rw [hv] at CV
    have E : Hid (-1 = S) := by show _ = _; rw [hD, hv]; rfl
    clear hD hv
    replace CV := Lib.hid CV
    go_enter Try.func28, Try.ntmps28
    go_wp2_with fail
    refine (CV.out _ B0.out).mono ?_
    rintro e w1 ⟨rfl, K⟩
    have K2 := Lib.hid (B0.out.trans (K.mono (by rw [World.size_alloc]; omega)))
    clear K
    go_wp2
    go_ret
    exact ⟨ret_i E.out, K2.out⟩
  · rw [hv] at CV
    have E : Hid (transI ts ts.length s = S) := by show _ = _; rw [hD, hv]; rfl
    clear hD hv
    replace CV := Lib.hid CV
    have HN : Hid (ts.length = ts.length) := rfl
    go_enter Try.func28, Try.ntmps28
    go_wp2_with fail
    refine (CV.out _ B0.out).mono ?_
    rintro e w1 ⟨rfl, K⟩
    have c0w1 : w1.cell? ⟨w.heap.size, 0, none⟩ = some (.string nm) := by rw [K.cell (by simp)]; simp
    have c1w1 : w1.cell? ⟨w.heap.size, 1, none⟩ = some (.slice PA ps.length pc) := by rw [K.cell (by simp)]; simp
    have c2w1 : w1.cell? ⟨w.heap.size, 2, none⟩ = some (.slice TA ts.length tc) := by rw [K.cell (by simp)]; simp
    have K2 := Lib.hid (B0.out.trans (K.mono (by rw [World.size_alloc]; omega)))
    have HR := Lib.hid (RT.out w1 K2.out)
    clear K
    go_wp2
    go_loop [5] (fun q => ∃ k : Nat, k ≤ ts.length ∧ q = .int .i64 k ∧ Hid (∀ j, j < k → eqS (tA ts j).nm s = false)) (fun q => ts.length - (intOf q).toNat)
    case atStart => exact ⟨0, by omega, rfl, fun j hj => absurd hj (by omega)⟩
    case round =>
      obtain ⟨k, hk, rfl, HM⟩ := hrel
      by_cases hlt2 : k < ts.length
      · obtain ⟨b1, off1, rfl, hb1, hd0, _, _, _, _, _, _, _⟩ := HR.out k hlt2
        have HT : Hid (eqS (tA ts k).nm s = true → (k : Int) = S) := fun h => by
          rw [← E.out]
          exact (firstI_at (f := fun j => eqS (tA ts j).nm s) hlt2 HM.out h).symm
        have HF : Hid (eqS (tA ts k).nm s = false → ∀ j, j < k + 1 → eqS (tA ts j).nm s = false) := upto_snoc HM.out
        clear HM
        have hQ : Hid (eqS (tA ts k).nm s = ((tA ts k).nm.toList == s.toList)) := rfl
        generalize (tA ts k).nm = kn at *
        by_cases q : (kn.toList == s.toList) = true
        · have E2 := Lib.hid (HT.out (hQ.out.trans q))
          clear HF HT
          go_wp2
          go_ret
          exact ⟨ret_i E2.out, K2.out⟩
        · have q2 : (kn.toList == s.toList) = false := by simpa using q
          have G := Lib.hid (HF.out (hQ.out.trans q2))
          clear HF HT q
          go_wp2
          go_round
          case rel => exact ⟨k + 1, by omega, by go_num, G⟩
          case measure => simp [intOf]; omega
      · have E2 : Hid (-1 = S) := by
          show _ = _
          rw [← E.out]
          exact (firstI_none (f := fun j => eqS (tA ts j).nm s) (fun j hj => HM.out j (by omega))).symm
        clear HM
        go_wp2
        go_ret
        exact ⟨ret_i E2.out, K2.out⟩

set_option maxHeartbeats 1000000 in
theorem weight_any (A : Option Addr) (l : List (Int × Int)) (c : Nat) (p : Int) (w : World) (hr : ReadsA w A l) (hl : l.length ≤ maxLen) :
    Calls Try.prog 66 #[.slice A l.length c, .int .i64 p] w (VPost w.heap.size w (.int .i64 (weightV l p))) := by
  unfold maxLen at hl
  generalize hS : weightV l p = S
  have HS := Lib.hid hS
  clear hS
  have HR := Lib.hid hr
  clear hr
  generalize hg : w.heap.size = g at *
  have HG := Lib.hid hg
  clear hg
  generalize hn : l.length = n at *
  have HN := Lib.hid hn
  clear hn
  go_enter Try.func66, Try.ntmps66
  go_wp2
  go_loopw [9] (fun q wr => ∃ k : Nat, k ≤ n ∧ q = .int .i64 k ∧ Hid (Below g w wr) ∧ Hid (∀ j, j < k → decide (aP l j = p) = false)) (fun q _ => n - (intOf q).toNat)
  case atStart => exact ⟨0, by omega, rfl, Below.refl _ _, fun j hj => absurd hj (by omega)⟩
  case round =>
    obtain ⟨k, hk, rfl, HB, HM⟩ := hrel
    by_cases hlt : k < n
    · obtain ⟨b0, off, rfl, hb0, hc0, hc1⟩ := (HR.out.below HB.out (by rw [HG.out]; exact Nat.le_refl _)) k (by rw [HN.out]; exact hlt)
      have HT : Hid (aP l k = p → aW l k = S) := fun h => by rw [← HS.out, weightV_at (by rw [HN.out]; exact hlt) HM.out h]
      have HF : Hid (¬ aP l k = p → ∀ j, j < k + 1 → decide (aP l j = p) = false) := fun h => upto_snoc HM.out (by simpa using h)
      have HB2 : Hid (∀ o, Below g w (wr.alloc o)) := fun o => HB.out.alloc (by have := HB.out.size; rw [HG.out] at this; exact this) o
      clear HM
      generalize aP l k = x at *
      generalize aW l k = u at *
      by_cases q : x = p
      · have E := Lib.hid (HT.out q)
        have qb : (x == p) = true := by simpa using q
        clear HT HF q
        go_wp2
        go_ret
        exact ⟨ret_i E.out, HB2.out _⟩
      · have G := Lib.hid (HF.out q)
        have qb : (x == p) = false := by simpa using q
        clear HT HF q
        go_wp2
        go_roundw
        case rel => exact ⟨k + 1, by omega, by go_num, HB2.out _, G⟩
        case measure => simp [intOf]; omega
    · have E : Hid (0 = S) := by
        show _ = _
        rw [← HS.out, weightV_none (fun j hj => HM.out j (by rw [HN.out] at hj; omega))]
      clear HM
      go_wp2
      go_ret
      exact ⟨ret_i E.out, HB.out⟩

set_option maxHeartbeats 1000000 in
theorem rweight_any (A : Option Addr) (l : List (Int × Int)) (c : Nat) (p : Int) (w : World) (hr : ReadsA w A l) (hl : l.length ≤ maxLen) :
    Calls Try.prog 54 #[.slice A l.length c, .int .i64 p] w (VPost w.heap.size w (.int .i64 (weightV l p))) := by
  unfold maxLen at hl
  generalize hS : weightV l p = S
  have HS := Lib.hid hS
  clear hS
  have HR := Lib.hid hr
  clear hr
  generalize hg : w.heap.size = g at *
  have HG := Lib.hid hg
  clear hg
  generalize hn : l.length = n at *
  have HN := Lib.hid hn
  clear hn
  go_enter Try.func54, Try.ntmps54
  go_wp2
  go_loopw [5] (fun q wr => ∃ k : Nat, k ≤ n ∧ q = .int .i64 k ∧ Hid (Below g w wr) ∧ Hid (∀ j, j < k → decide (aP l j = p) = false)) (fun q _ => n - (intOf q).toNat)
  case atStart => exact ⟨0, by omega, rfl, Below.refl _ _, fun j hj => absurd hj (by omega)⟩
  case round =>
    obtain ⟨k, hk, rfl, HB, HM⟩ := hrel
    by_cases hlt : k < n
    · obtain ⟨b0, off, rfl, hb0, hc0, hc1⟩ := (HR.out.below HB.out (by rw [HG.out]; exact Nat.le_refl _)) k (by rw [HN.out]; exact hlt)
      have HT : Hid (aP l k = p → aW l k = S) := fun h => by rw [← HS.out, weightV_at (by rw [HN.out]; exact hlt) HM.out h]
      have HF : Hid (¬ aP l k = p → ∀ j, j < k + 1 → decide (aP l j = p) = false) := fun h => upto_snoc HM.out (by simpa using h)
      have HB2 : Hid (∀ o, Below g w (wr.alloc o)) := fun o => HB.out.alloc (by have := HB.out.size; rw [HG.out] at this; exact this) o
      clear HM
      generalize aP l k = x at *
      generalize aW l k = u at *
      by_cases q : x = p
      · have E := Lib.hid (HT.out q)
        have qb : (x == p) = true := by simpa using q
        clear HT HF q
        go_wp2
        go_ret
        exact ⟨ret_i E.out, HB.out⟩
      · have G := Lib.hid (HF.out q)
        have qb : (x == p) = false := by simpa using q
        clear HT HF q
        go_wp2
        go_roundw
        case rel => exact ⟨k + 1, by omega, by go_num, HB.out, G⟩
        case measure => simp [intOf]; omega
    · have E : Hid (0 = S) := by
        show _ = _
        rw [← HS.out, weightV_none (fun j hj => HM.out j (by rw [HN.out] at hj; omega))]
      clear HM
      go_wp2
      go_ret
      exact ⟨ret_i E.out, HB.out⟩
end Go.Proofs.Ytlmchanciegggaa
