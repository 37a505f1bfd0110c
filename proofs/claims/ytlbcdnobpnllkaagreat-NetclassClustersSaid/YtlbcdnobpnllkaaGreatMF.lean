/- Small nets. -/
import Derived.Test.YtlbcdnobpnllkaaGreatME
namespace Go.Proofs.YtlbcdnobpnllkaaGreat
open Go.RowKit

def bigP (ps : List PlaceV) (j : Nat) : Bool := decide (20 < (pA ps j).nm.size)
def bigT (ts : List TransV) (j : Nat) : Bool := decide (20 < (tA ts j).nm.size ∨ 26 < (tA ts j).pre.l.length ∨ 26 < (tA ts j).post.l.length ∨ 26 < (tA ts j).inh.l.length)
def smallN (n : NetV) : Bool := decide (¬ (26 < n.ps.length ∨ 26 < n.ts.length ∨ 20 < n.nm.size)) && (!anyB (bigP n.ps) n.ps.length && !anyB (bigT n.ts) n.ts.length)
def SmallPost (g : Nat) (w : World) (n : NetV) (e : Ending) (w' : World) : Prop :=
  e = .returned (if smallN n = true then .tuple #[.agg #[.string n.nm, .slice n.PA n.ps.length n.pc, .slice n.TA n.ts.length n.tc], .bool true] else .tuple #[.agg #[.string ⟨#[]⟩, .slice none 0 0, .slice none 0 0], .bool false]) ∧ Below g w w'
theorem small_ok {w : World} {n : NetV} (h : NetW w n) (hs : smallN n = true) : NetR w n := by
  unfold smallN at hs
  rw [Bool.and_eq_true, Bool.and_eq_true] at hs
  obtain ⟨h1, h2, h3⟩ := hs
  have h1 := of_decide_eq_true h1
  have hp : ∀ j, j < n.ps.length → bigP n.ps j = false := fun j hj => by
    cases e : bigP n.ps j
    · rfl
    · rw [anyB_yes hj e] at h2; cases h2
  have ht : ∀ j, j < n.ts.length → bigT n.ts j = false := fun j hj => by
    cases e : bigT n.ts j
    · rfl
    · rw [anyB_yes hj e] at h3; cases h3
  refine ⟨h.hnm, ⟨by omega, h.hpz⟩, ⟨by omega, fun j => ⟨(h.htz j).1, ?_⟩⟩, h.hpc, h.htc, h.rp, h.rt⟩
  by_cases hj : j < n.ts.length
  · have := of_decide_eq_false (ht j hj)
    omega
  · have : tA n.ts j = ⟨ByteArray.empty, ⟨none, 0, []⟩, ⟨none, 0, []⟩, ⟨none, 0, []⟩, 0⟩ := by unfold tA; rw [List.getElem?_eq_none (by omega)]; rfl
    rw [this]
    exact ⟨Nat.zero_le _, Nat.zero_le _, Nat.zero_le _⟩

set_option maxHeartbeats 8000000 in
set_option maxRecDepth 100000 in
theorem small_any (n : NetV) (w : World) (hr : NetW w n) :
    Calls Tryz.prog 7 #[.agg #[.string n.nm, .slice n.PA n.ps.length n.pc, .slice n.TA n.ts.length n.tc]] w (SmallPost w.heap.size w n) := by
  obtain ⟨nm, PA, ps, pc, TA, ts, tc⟩ := n
  obtain ⟨hnm, hpl, htl, hpz, htz, hpc, htc, rp, rt⟩ := hr
  dsimp only at *
  have hB : ∀ (b : Bool), smallN ⟨nm, PA, ps, pc, TA, ts, tc⟩ = b → ∀ e w', (e = .returned (if b = true then .tuple #[.agg #[.string nm, .slice PA ps.length pc, .slice TA ts.length tc], .bool true] else .tuple #[.agg #[.string ⟨#[]⟩, .slice none 0 0, .slice none 0 0], .bool false]) ∧ Below w.heap.size w w') → SmallPost w.heap.size w ⟨nm, PA, ps, pc, TA, ts, tc⟩ e w' := fun b hb e w' h => by
    subst hb; exact h
  have hS : smallN ⟨nm, PA, ps, pc, TA, ts, tc⟩ = (decide (¬ (26 < ps.length ∨ 26 < ts.length ∨ 20 < nm.size)) && (!anyB (bigP ps) ps.length && !anyB (bigT ts) ts.length)) := rfl
  generalize SmallPost w.heap.size w ⟨nm, PA, ps, pc, TA, ts, tc⟩ = QQ at *
  have HNO : Hid (smallN ⟨nm, PA, ps, pc, TA, ts, tc⟩ = false → ∀ e w', (e = .returned (.tuple #[.agg #[.string ⟨#[]⟩, .slice none 0 0, .slice none 0 0], .bool false]) ∧ Below w.heap.size w w') → QQ e w') := fun h e w' hh => hB false h e w' hh
  have HYES : Hid (smallN ⟨nm, PA, ps, pc, TA, ts, tc⟩ = true → ∀ e w', (e = .returned (.tuple #[.agg #[.string nm, .slice PA ps.length pc, .slice TA ts.length tc], .bool true]) ∧ Below w.heap.size w w') → QQ e w') := fun h e w' hh => hB true h e w' hh
  clear hB
  generalize smallN ⟨nm, PA, ps, pc, TA, ts, tc⟩ = sm at *
  have HP := Lib.hid rp
  have HT := Lib.hid rt
  have HZ := Lib.hid htz
  clear rp rt htz hpz
  unfold maxLen at hnm hpl htl
  generalize hg : w.heap.size = g at *
  have HG := Lib.hid hg
  clear hg
  have lg : g ≤ w.heap.size + 1 := by rw [HG.out]; omega
  have B0 : Hid (Below g w ((w.alloc (.cells #[.string nm, .slice PA ps.length pc, .slice TA ts.length tc] 25)).alloc (.cells #[.string ⟨#[]⟩, .slice none 0 0, .slice none 0 0] 25))) := ((Below.refl _ _).alloc (by rw [HG.out]; exact Nat.le_refl _) _).alloc (by simp [HG.out]) _
  by_cases hs : 26 < ps.length ∨ 26 < ts.length ∨ 20 < nm.size
  · have E := Lib.hid (HNO.out (by rw [hS]; simp [hs]))
    clear HNO HYES hS
    go_enter Tryz.func7, Tryz.ntmps7
    go_wp2
    all_goals first
      | (exfalso; omega)
      | (exact bodyPost_ret (v := .tuple #[.agg #[.string ⟨#[]⟩, .slice none 0 0, .slice none 0 0], .bool false]) (by simp [results, Tryz.results7, go_sem] <;> rfl) rfl (E.out _ _ ⟨rfl, B0.out⟩))
  · have hs1 : ¬ 26 < ps.length := by omega
    have hs2 : ¬ 26 < ts.length := by omega
    have hs3 : ¬ 20 < nm.size := by omega
    have EP : Hid (∀ k, k < ps.length → bigP ps k = true → ∀ e w', (e = .returned (.tuple #[.agg #[.string ⟨#[]⟩, .slice none 0 0, .slice none 0 0], .bool false]) ∧ Below g w w') → QQ e w') := fun k h1 h2 => HNO.out (by rw [hS, anyB_yes h1 h2]; simp)
    have ET : Hid (∀ k, k < ts.length → bigT ts k = true → ∀ e w', (e = .returned (.tuple #[.agg #[.string ⟨#[]⟩, .slice none 0 0, .slice none 0 0], .bool false]) ∧ Below g w w') → QQ e w') := fun k h1 h2 => HNO.out (by rw [hS, anyB_yes h1 h2]; simp)
    have EY : Hid ((∀ k, k < ps.length → bigP ps k = false) → (∀ k, k < ts.length → bigT ts k = false) → ∀ e w', (e = .returned (.tuple #[.agg #[.string nm, .slice PA ps.length pc, .slice TA ts.length tc], .bool true]) ∧ Below g w w') → QQ e w') := fun h1 h2 => HYES.out (by rw [hS, anyB_no h1, anyB_no h2]; simp [hs])
    clear HNO HYES hS hs
    go_enter Tryz.func7, Tryz.ntmps7
    go_wp2
    obtain ⟨wr, hwr⟩ : ∃ wr, wr = ((w.alloc (.cells #[.string nm, .slice PA ps.length pc, .slice TA ts.length tc] 25)).alloc (.cells #[.string ⟨#[]⟩, .slice none 0 0, .slice none 0 0] 25)) := ⟨_, rfl⟩
    have HB : Hid (Below (g + 2) ((w.alloc (.cells #[.string nm, .slice PA ps.length pc, .slice TA ts.length tc] 25)).alloc (.cells #[.string ⟨#[]⟩, .slice none 0 0, .slice none 0 0] 25)) wr) := by rw [hwr]; exact Below.refl _ _
    rw [← hwr]
    clear hwr
    have KB : Hid (Below g w wr) := B0.out.trans (HB.out.mono (by omega))
    have c0 : wr.cell? ⟨w.heap.size, 0, none⟩ = some (.string nm) := by rw [HB.out.cell (by rw [← HG.out]; simp)]; simp
    have c1 : wr.cell? ⟨w.heap.size, 1, none⟩ = some (.slice PA ps.length pc) := by rw [HB.out.cell (by rw [← HG.out]; simp)]; simp
    have c2 : wr.cell? ⟨w.heap.size, 2, none⟩ = some (.slice TA ts.length tc) := by rw [HB.out.cell (by rw [← HG.out]; simp)]; simp
    have r0 : wr.cell? ⟨w.heap.size + 1, 0, none⟩ = some (.string ⟨#[]⟩) := by rw [HB.out.cell (by rw [← HG.out]; simp)]; simp
    have r1 : wr.cell? ⟨w.heap.size + 1, 1, none⟩ = some (.slice none 0 0) := by rw [HB.out.cell (by rw [← HG.out]; simp)]; simp
    have r2 : wr.cell? ⟨w.heap.size + 1, 2, none⟩ = some (.slice none 0 0) := by rw [HB.out.cell (by rw [← HG.out]; simp)]; simp
    have rf : ∀ o, wr.frozen? ⟨w.heap.size + 1, o, none⟩ = false := fun o => by rw [HB.out.frozen (by rw [← HG.out]; simp)]; simp
    have HPw := Lib.hid (HP.out.below KB.out (by rw [HG.out]; exact Nat.le_refl _))
    go_loop [4] (fun q => ∃ k : Nat, k ≤ ps.length ∧ q = .int .i64 k ∧ Hid (∀ j, j < k → bigP ps j = false)) (fun q => ps.length - (intOf q).toNat)
    case atStart => exact ⟨0, by omega, rfl, fun j hj => absurd hj (by omega)⟩
    case round =>
      obtain ⟨k, hk, rfl, HM⟩ := hrel
      by_cases hlt2 : k < ps.length
      · obtain ⟨b0, off, rfl, hb0, d0, d1, d2⟩ := HPw.out k hlt2
        have HTk := Lib.hid (EP.out k hlt2)
        have HF : Hid (bigP ps k = false → ∀ j, j < k + 1 → bigP ps j = false) := upto_snoc HM.out
        have HQ : Hid (bigP ps k = decide (20 < (pA ps k).nm.size)) := rfl
        clear HM
        generalize (pA ps k).nm = s at *
        by_cases q : 20 < s.size
        · have E := Lib.hid (HTk.out (HQ.out.trans (by simpa using q)))
          clear HTk HF HQ
          go_wp2
          exact bodyPost_ret (v := .tuple #[.agg #[.string ⟨#[]⟩, .slice none 0 0, .slice none 0 0], .bool false]) (by simp [results, Tryz.results7, go_sem, r0, r1, r2] <;> rfl) rfl (E.out _ _ ⟨rfl, ((KB.out.setCell lg _).setCell lg _).setCell lg _⟩)
        · have G := Lib.hid (HF.out (HQ.out.trans (by simpa using q)))
          clear HTk HF HQ
          go_wp2
          go_round
          case rel => exact ⟨k + 1, by omega, by go_num, G⟩
          case measure => simp [intOf]; omega
      · have HMA : Hid (∀ j, j < ps.length → bigP ps j = false) := fun j hj => HM.out j (by omega)
        clear HM HPw
        obtain ⟨wo, rfl⟩ : ∃ wo, wo = wr := ⟨_, rfl⟩
        go_wp2
        clear c0 c1 c2 r0 r1 r2 rf
        go_loopw [5] (fun q wr => ∃ k : Nat, k ≤ ts.length ∧ q = .int .i64 k ∧ Hid (Below (g + 2) ((w.alloc (.cells #[.string nm, .slice PA ps.length pc, .slice TA ts.length tc] 25)).alloc (.cells #[.string ⟨#[]⟩, .slice none 0 0, .slice none 0 0] 25)) wr) ∧ Hid (∀ j, j < k → bigT ts j = false)) (fun q _ => ts.length - (intOf q).toNat)
        case atStart => exact ⟨0, by omega, rfl, HB, fun j hj => absurd hj (by omega)⟩
        case round =>
          clear HB KB
          obtain ⟨k, hk, rfl, HB, HM⟩ := hrel
          have KB : Hid (Below g w wr) := B0.out.trans (HB.out.mono (by omega))
          have c0 : wr.cell? ⟨w.heap.size, 0, none⟩ = some (.string nm) := by rw [HB.out.cell (by rw [← HG.out]; simp)]; simp
          have c1 : wr.cell? ⟨w.heap.size, 1, none⟩ = some (.slice PA ps.length pc) := by rw [HB.out.cell (by rw [← HG.out]; simp)]; simp
          have c2 : wr.cell? ⟨w.heap.size, 2, none⟩ = some (.slice TA ts.length tc) := by rw [HB.out.cell (by rw [← HG.out]; simp)]; simp
          have r0 : wr.cell? ⟨w.heap.size + 1, 0, none⟩ = some (.string ⟨#[]⟩) := by rw [HB.out.cell (by rw [← HG.out]; simp)]; simp
          have r1 : wr.cell? ⟨w.heap.size + 1, 1, none⟩ = some (.slice none 0 0) := by rw [HB.out.cell (by rw [← HG.out]; simp)]; simp
          have r2 : wr.cell? ⟨w.heap.size + 1, 2, none⟩ = some (.slice none 0 0) := by rw [HB.out.cell (by rw [← HG.out]; simp)]; simp
          have rf : ∀ o, wr.frozen? ⟨w.heap.size + 1, o, none⟩ = false := fun o => by rw [HB.out.frozen (by rw [← HG.out]; simp)]; simp
          have hsz : g + 2 ≤ wr.heap.size := by have := HB.out.size; simp [HG.out] at this; omega
          by_cases hlt2 : k < ts.length
          · obtain ⟨b0, off, rfl, hb0, d0, d1, d2, d3, d4, q1, q2, q3⟩ := (HT.out.below KB.out (by rw [HG.out]; exact Nat.le_refl _)) k hlt2
            have HTk := Lib.hid (ET.out k hlt2)
            have HF : Hid (bigT ts k = false → ∀ j, j < k + 1 → bigT ts j = false) := upto_snoc HM.out
            have HQ : Hid (bigT ts k = decide (20 < (tA ts k).nm.size ∨ 26 < (tA ts k).pre.l.length ∨ 26 < (tA ts k).post.l.length ∨ 26 < (tA ts k).inh.l.length)) := rfl
            have hzz := HZ.out k
            clear HM q1 q2 q3
            generalize (tA ts k).nm = s at *
            generalize (tA ts k).prio = prio at *
            generalize (tA ts k).pre.l.length = m1 at *
            generalize (tA ts k).post.l.length = m2 at *
            generalize (tA ts k).inh.l.length = m3 at *
            generalize (tA ts k).pre.A = a1 at *
            generalize (tA ts k).post.A = a2 at *
            generalize (tA ts k).inh.A = a3 at *
            generalize (tA ts k).pre.c = k1 at *
            generalize (tA ts k).post.c = k2 at *
            generalize (tA ts k).inh.c = k3 at *
            have hz1 := hzz.2.1
            have hz2 := hzz.2.2.1
            have hz3 := hzz.2.2.2
            have hz0 := hzz.1
            clear hzz
            unfold maxLen at hz0 hz1 hz2 hz3
            have BA : Hid (Below (g + 2) ((w.alloc (.cells #[.string nm, .slice PA ps.length pc, .slice (some ⟨b0, off, none⟩) ts.length tc] 25)).alloc (.cells #[.string ⟨#[]⟩, .slice none 0 0, .slice none 0 0] 25)) (wr.alloc (.cells #[.string s, .slice a1 m1 k1, .slice a2 m2 k2, .slice a3 m3 k3, .int .i64 prio] 43))) := HB.out.alloc hsz _
            have BK : Hid (Below g w (wr.alloc (.cells #[.string s, .slice a1 m1 k1, .slice a2 m2 k2, .slice a3 m3 k3, .int .i64 prio] 43))) := KB.out.alloc (by omega) _
            have lw : w.heap.size + 1 < wr.heap.size := by rw [HG.out]; omega
            have szt : ∀ (n : Nat), (g ≤ n + 0 → True) := fun _ _ => trivial
            by_cases q : 20 < s.size ∨ 26 < m1 ∨ 26 < m2 ∨ 26 < m3
            · have E := Lib.hid (HTk.out (HQ.out.trans (by simpa using q)))
              clear HTk HF HQ szt
              go_wp2
              all_goals first
                | (exfalso; omega)
                | (exact bodyPost_ret (v := .tuple #[.agg #[.string ⟨#[]⟩, .slice none 0 0, .slice none 0 0], .bool false]) (by simp [results, Tryz.results7, go_sem, r0, r1, r2, lw] <;> rfl) rfl (E.out _ _ ⟨rfl, by first | exact ((BK.out.setCell lg _).setCell lg _).setCell lg _ | exact (((KB.out.setCell lg _).setCell lg _).setCell lg _).alloc (by simp; omega) _⟩))
            · have G := Lib.hid (HF.out (HQ.out.trans (by simpa using q)))
              have q1 : ¬ 20 < s.size := by omega
              have q2 : ¬ 26 < m1 := by omega
              have q3 : ¬ 26 < m2 := by omega
              have q4 : ¬ 26 < m3 := by omega
              clear HTk HF HQ szt q
              go_wp2
              go_roundw
              case rel => exact ⟨k + 1, by omega, by go_num, BA, G⟩
              case measure => simp [intOf]; omega
          · have E := Lib.hid (EY.out HMA.out (fun j hj => HM.out j (by omega)))
            clear HM
            go_wp2
            exact bodyPost_ret (v := .tuple #[.agg #[.string nm, .slice PA ps.length pc, .slice TA ts.length tc], .bool true]) (by simp [results, Tryz.results7, go_sem, r0, r1, r2] <;> rfl) rfl (E.out _ _ ⟨rfl, ((KB.out.setCell lg _).setCell lg _).setCell lg _⟩)
end Go.Proofs.YtlbcdnobpnllkaaGreat
