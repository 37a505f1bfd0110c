/- The transitions that a place has, and the initial marking. -/
import Derived.Test.YtlbcdnobpnllkaaGreatQ
import Derived.LoopN
namespace Go.Proofs.YtlbcdnobpnllkaaGreat
open Go.RowKit

def pickI (f : Nat → Bool) (n : Nat) : List Int := ((List.range n).filter f).map (fun (k : Nat) => (k : Int))
theorem pickI_yes (f : Nat → Bool) (k : Nat) (h : f k = true) : pickI f (k + 1) = pickI f k ++ [(k : Int)] := by
  unfold pickI
  rw [List.range_succ, List.filter_append, List.map_append]
  simp [h]
theorem pickI_no (f : Nat → Bool) (k : Nat) (h : f k = false) : pickI f (k + 1) = pickI f k := by
  unfold pickI
  rw [List.range_succ, List.filter_append, List.map_append]
  simp [h]
theorem pickI_len (f : Nat → Bool) (k : Nat) : (pickI f k).length ≤ k := by
  unfold pickI
  rw [List.length_map]
  exact Nat.le_trans (List.length_filter_le _ _) (by simp)
def proF (ts : List TransV) (p : Int) (j : Nat) : Bool := decide (0 < weightV (tA ts j).post.l p)
def conF (ts : List TransV) (p : Int) (j : Nat) : Bool := decide (0 < weightV (tA ts j).pre.l p)
def producersN (n : NetV) (p : Int) : List Int := if okN n = true then pickI (proF n.ts p) n.ts.length else []
def consumersN (n : NetV) (p : Int) : List Int := if okN n = true then pickI (conF n.ts p) n.ts.length else []
def iniF (ps : List PlaceV) (j : Nat) : Int := (pA ps j).ini
def initialN (n : NetV) : List Int := if okN n = true then tab n.ps.length (iniF n.ps) else []

theorem clos_producers (nm : ByteArray) (a1 a2 a3 : ArcsV) (prio p : Int) (b : Nat) (w : World) (hc : w.cell? ⟨b, 0, none⟩ = some (.int .i64 p)) (hr : ReadsA w a2.A a2.l) (hl : a2.l.length ≤ 1000) :
    Calls Tryz.prog 101 #[(.agg #[.string nm, .slice a1.A a1.l.length a1.c, .slice a2.A a2.l.length a2.c, .slice a3.A a3.l.length a3.c, .int .i64 prio]), .pointer (some ⟨b, 0, none⟩)] w (VPost w.heap.size w (.bool (decide (0 < weightV a2.l p)))) := by
  have hb : b < w.heap.size := World.block_lt_of_cell? w ⟨b, 0, none⟩ hc
  have B0 : Hid (Below w.heap.size w (w.alloc (.cells #[.string nm, .slice a1.A a1.l.length a1.c, .slice a2.A a2.l.length a2.c, .slice a3.A a3.l.length a3.c, .int .i64 prio] 43))) := (Below.refl _ _).alloc (Nat.le_refl _) _
  have C := Lib.hid (weight_any a2.A a2.l a2.c p _ (hr.below B0.out (Nat.le_refl _)) (by unfold maxLen; omega))
  generalize weightV a2.l p = v at *
  clear hr
  go_enter Tryz.func101, Tryz.ntmps101
  go_wp2_with fail
  refine C.out.mono ?_
  rintro e w1 ⟨rfl, K⟩
  have K2 := Lib.hid (B0.out.trans (K.mono (by rw [World.size_alloc]; omega)))
  clear K
  go_wp2
  go_ret
  exact ⟨rfl, K2.out⟩

set_option maxHeartbeats 4000000 in
set_option maxRecDepth 100000 in
theorem having_producers (n : NetV) (p : Int) (b : Nat) (w : World) (hr : NetR w n) (hc : w.cell? ⟨b, 0, none⟩ = some (.int .i64 p)) :
    Calls Tryz.prog 100 #[.agg #[.string n.nm, .slice n.PA n.ps.length n.pc, .slice n.TA n.ts.length n.tc], .func (.func 101) #[] #[.pointer (some ⟨b, 0, none⟩)]] w (IsPost w.heap.size w (producersN n p)) := by
  have CV := fun W (hW : Below w.heap.size w W) => validN_any n W (hr.below hW (Nat.le_refl _))
  have RP := fun W (hW : Below w.heap.size w W) => (hr.below hW (Nat.le_refl _)).rp
  have RT := fun W (hW : Below w.heap.size w W) => (hr.below hW (Nat.le_refl _)).rt
  have hD : producersN n p = if okN n = true then pickI (proF n.ts p) n.ts.length else [] := rfl
  generalize producersN n p = S at *
  obtain ⟨nm, PA, ps, pc, TA, ts, tc⟩ := n
  obtain ⟨hnm, ⟨hlp, hzp⟩, ⟨hlt, hzt⟩, hpc, htc, _, _⟩ := hr
  dsimp only at hnm hlp hzp hlt hzt hpc htc RP RT
  dsimp only at hD CV
  replace RP := Lib.hid RP
  replace RT := Lib.hid RT
  have HZT := Lib.hid hzt
  have HZP := Lib.hid hzp
  clear hzt hzp
  have B0 : Hid (Below w.heap.size w (w.alloc (.cells #[.string nm, .slice PA ps.length pc, .slice TA ts.length tc] 25))) := (Below.refl _ _).alloc (Nat.le_refl _) _
  obtain ⟨i0, hi, hz0, hz1, hz2⟩ := info_parts infoI
  have HI := Lib.hid hi
  have HZ0 := Lib.hid hz0
  have HZ1 := Lib.hid hz1
  have HZ2 := Lib.hid hz2
  clear hi hz0 hz1 hz2
  have hb : b < w.heap.size := World.block_lt_of_cell? w ⟨b, 0, none⟩ hc
  have HC := Lib.hid hc
  clear hc
  cases hv : okN ⟨nm, PA, ps, pc, TA, ts, tc⟩
  · rw [hv] at CV
    have E : Hid (([] : List Int) = S) := by show _ = _; rw [hD, hv]; rfl
    clear hD hv
    replace CV := Lib.hid CV
    go_enter Tryz.func100, Tryz.ntmps100
    go_wp2_with fail
    refine (CV.out _ B0.out).mono ?_
    rintro e w1 ⟨rfl, K⟩
    have K2 := Lib.hid (B0.out.trans (K.mono (by rw [World.size_alloc]; omega)))
    clear K
    go_wp2
    go_ret
    exact ⟨none, 0, by rw [← E.out]; rfl, by rw [← E.out]; exact ReadsV.nil _ _, K2.out⟩
  · rw [hv] at CV
    have E : Hid (pickI (proF ts p) ts.length = S) := by show _ = _; rw [hD, hv]; rfl
    clear hD hv
    replace CV := Lib.hid CV
    go_enter Tryz.func100, Tryz.ntmps100
    go_wp2_with fail
    refine (CV.out _ B0.out).mono ?_
    rintro e w1 ⟨rfl, K⟩
    have c0w1 : w1.cell? ⟨w.heap.size, 0, none⟩ = some (.string nm) := by rw [K.cell (by simp)]; simp
    have c1w1 : w1.cell? ⟨w.heap.size, 1, none⟩ = some (.slice PA ps.length pc) := by rw [K.cell (by simp)]; simp
    have c2w1 : w1.cell? ⟨w.heap.size, 2, none⟩ = some (.slice TA ts.length tc) := by rw [K.cell (by simp)]; simp
    have K2 := Lib.hid (B0.out.trans (K.mono (by rw [World.size_alloc]; omega)))
    clear K
    generalize hg : w.heap.size = g at *
    have HG := Lib.hid hg
    clear hg
    go_wp2
    go_loopw [5, 14] (fun v q wr => ∃ k m : Nat, k ≤ ts.length ∧ m ≤ k ∧ q = .int .i64 k ∧ Hid (wr.ownsRow g 3 1 v m (vI (pickI (proF ts p) k))) ∧ Hid (Below g w wr)) (fun _ q _ => ts.length - (intOf q).toNat)
    case atStart => exact ⟨0, 0, by omega, Nat.le_refl _, rfl, World.ownsRow_nil _ _ _ _, K2.out⟩
    case round =>
      clear K2 c0w1 c1w1 c2w1
      obtain ⟨k, m, hk, hm, rfl, O, HB⟩ := hrel
      have hsz := HB.out.size
      rw [HG.out] at hsz
      by_cases hlt2 : k < ts.length
      · obtain ⟨b0, off, rfl, hb0, d0, d1, d2, d3, d4, r1, r2, r3⟩ := RT.out wr HB.out k hlt2
        have BS : Hid (∀ o, Below wr.heap.size wr (wr.alloc o)) := fun o => (Below.refl _ _).alloc (Nat.le_refl _) _
        have CL := fun o => clos_producers (tA ts k).nm (tA ts k).pre (tA ts k).post (tA ts k).inh (tA ts k).prio p b (wr.alloc o) (((BS.out o).cell (by exact Nat.lt_of_lt_of_le hb hsz)).trans ((HB.out.cell (p := ⟨b, 0, none⟩) hb).trans HC.out)) (r2.below (BS.out o) (Nat.le_refl _)) (tA_ok HZT.out).2
        have HFv : Hid (proF ts p k = decide (0 < weightV (tA ts k).post.l p)) := rfl
        have HY := Lib.hid (pickI_yes (proF ts p) k)
        have HNo := Lib.hid (pickI_no (proF ts p) k)
        clear r1 r2 r3
        generalize (tA ts k).nm = tn at *
        generalize (tA ts k).pre = a1 at *
        generalize (tA ts k).post = a2 at *
        generalize (tA ts k).inh = a3 at *
        generalize (tA ts k).prio = prio at *
        replace CL := Lib.hid CL
        have KBk : Hid (∀ o W, Below (wr.alloc o).heap.size (wr.alloc o) W → Below g w W) := fun o W h => (HB.out.alloc hsz o).trans (h.mono (by rw [World.size_alloc]; omega))
        by_cases q : 0 < weightV a2.l p
        · have qv : decide (0 < weightV a2.l p) = true := by simpa using q
          have HE := Lib.hid (HY.out (HFv.out.trans qv))
          rw [qv] at CL
          clear q qv HY HNo HFv
          go_wp2_with fail
          refine (CL.out _).mono ?_
          rintro e w2 ⟨rfl, K⟩
          have K2 := Lib.hid (KBk.out _ _ K)
          have O2 : Hid (w2.ownsRow g 3 1 u5 m (vI (pickI (proF ts p) k))) := own_below (own_below O.out (BS.out _) (Nat.le_refl _)) K (Nat.le_refl _)
          clear K KBk
          have hs2 := K2.out.size
          rw [HG.out] at hs2
          have b1 : m + 1 ≤ maxLen := by unfold maxLen; omega
          have b2 : (m + 1) * 8 ≤ 140737488355328 := by omega
          have b3 : g ≤ (w2.alloc (.cells #[.int .i64 k] 3)).heap.size := by rw [World.size_alloc]; omega
          have b4 : Hid (∀ q, u5.ownBlock = some q → g ≤ q) := fun q e => (O2.out.lt q e).1
          have BA : Hid (Below g w (w2.alloc (.cells #[.int .i64 k] 3))) := K2.out.alloc hs2 _
          go_wp2_with (at_builtin; (refine wpList_append_own _ rfl (.tmp 22) (.tmp 24) 34 rfl g 3 i0 (.int .i64 0) 1 8 Tryz.underlying34 HI.out HZ0.out HZ1.out HZ2.out rfl (by decide) u5 m _ rfl (O2.out.alloc _) ⟨w2.heap.size, 0, none⟩ 1 1 [.int .i64 k] rfl rfl (cell_one_new _ _ _) (one_cellI _) b1 b2 b3 ?_); intro v' w5 hown' hgrow _)
          have O5 : Hid (w5.ownsRow g 3 1 v' (m + 1) (vI (pickI (proF ts p) (k + 1)))) := by
            show World.ownsRow _ _ _ _ _ _ _
            rw [HE.out, vI_snoc]
            exact hown'
          have B5 : Hid (Below g w w5) := BA.out.grown hgrow b3 b4.out
          clear hown' hgrow
          go_wp2
          go_roundw
          case rel => exact ⟨k + 1, m + 1, by omega, by omega, by go_num, O5, B5⟩
          case measure => simp [intOf]; omega
        · have qv : decide (0 < weightV a2.l p) = false := by simpa using q
          have HE := Lib.hid (HNo.out (HFv.out.trans qv))
          rw [qv] at CL
          clear q qv HY HNo HFv
          go_wp2_with fail
          refine (CL.out _).mono ?_
          rintro e w2 ⟨rfl, K⟩
          have K2 := Lib.hid (KBk.out _ _ K)
          have O2 : Hid (w2.ownsRow g 3 1 u5 m (vI (pickI (proF ts p) (k + 1)))) := by
            show World.ownsRow _ _ _ _ _ _ _
            rw [HE.out]
            exact own_below (own_below O.out (BS.out _) (Nat.le_refl _)) K (Nat.le_refl _)
          clear K KBk
          go_wp2
          go_roundw
          case rel => exact ⟨k + 1, m, by omega, by omega, by go_num, O2, K2⟩
          case measure => simp [intOf]; omega
      · obtain rfl : k = ts.length := by omega
        obtain ⟨A2, c2, h1, h2⟩ := ReadsV.own O.out
        rw [E.out] at h1 h2
        have H2 := Lib.hid h2
        clear O h2
        subst h1
        go_wp2
        go_ret
        exact ⟨A2, c2, rfl, H2.out, HB.out⟩

set_option maxHeartbeats 1000000 in
theorem producersN_any (n : NetV) (p : Int) (w : World) (hr : NetR w n) :
    Calls Tryz.prog 57 #[.agg #[.string n.nm, .slice n.PA n.ps.length n.pc, .slice n.TA n.ts.length n.tc], .int .i64 p] w (IsPost w.heap.size w (producersN n p)) := by
  have hmf : ∀ (fn : Fn) (first cap : Array Value) (w : World), (Instr.makeFunc fn first cap).run Tryz.prog w = .ok (.func fn first cap) w := fun _ _ _ _ => rfl
  have B0 : Hid (Below w.heap.size w ((w.alloc (.cells #[.string n.nm, .slice n.PA n.ps.length n.pc, .slice n.TA n.ts.length n.tc] 25)).alloc (.cells #[.int .i64 p] 3))) := ((Below.refl _ _).alloc (Nat.le_refl _) _).alloc (by simp) _
  have C := Lib.hid (having_producers n p (w.heap.size + 1) _ (hr.below B0.out (Nat.le_refl _)) (by simp))
  generalize producersN n p = S at *
  obtain ⟨nm, PA, ps, pc, TA, ts, tc⟩ := n
  clear hr
  dsimp only at C B0
  go_enter Tryz.func57, Tryz.ntmps57
  go_wp2_with fail
  refine C.out.mono ?_
  rintro e w1 ⟨A2, c2, rfl, R, K⟩
  have K2 := Lib.hid (B0.out.trans (K.mono (by simp; omega)))
  have R2 := Lib.hid R
  clear K R
  go_wp2
  go_ret
  exact ⟨A2, c2, rfl, R2.out, K2.out⟩

set_option maxHeartbeats 4000000 in
set_option maxRecDepth 100000 in
theorem rproducersN_any (n : NetV) (p : Int) (w : World) (hr : NetR w n)  :
    Calls Tryz.prog 59 #[.agg #[.string n.nm, .slice n.PA n.ps.length n.pc, .slice n.TA n.ts.length n.tc], .int .i64 p] w (IsPost w.heap.size w (producersN n p)) := by
  have CV := fun W (hW : Below w.heap.size w W) => rvalidN_any n W (hr.below hW (Nat.le_refl _))
  have RP := fun W (hW : Below w.heap.size w W) => (hr.below hW (Nat.le_refl _)).rp
  have RT := fun W (hW : Below w.heap.size w W) => (hr.below hW (Nat.le_refl _)).rt
  have hD : producersN n p = if okN n = true then pickI (proF n.ts p) n.ts.length else [] := rfl
  generalize producersN n p = S at *
  obtain ⟨nm, PA, ps, pc, TA, ts, tc⟩ := n
  obtain ⟨hnm, ⟨hlp, hzp⟩, ⟨hlt, hzt⟩, hpc, htc, _, _⟩ := hr
  dsimp only at hnm hlp hzp hlt hzt hpc htc RP RT
  dsimp only at hD CV
  replace RP := Lib.hid RP
  replace RT := Lib.hid RT
  have HZT := Lib.hid hzt
  have HZP := Lib.hid hzp
  clear hzt hzp
  have B0 : Hid (Below w.heap.size w (w.alloc (.cells #[.string nm, .slice PA ps.length pc, .slice TA ts.length tc] 25))) := (Below.refl _ _).alloc (Nat.le_refl _) _
  obtain ⟨i0, hi, hz0, hz1, hz2⟩ := info_parts infoI
  have HI := Lib.hid hi
  have HZ0 := Lib.hid hz0
  have HZ1 := Lib.hid hz1
  have HZ2 := Lib.hid hz2
  clear hi hz0 hz1 hz2
  cases hv : okN ⟨nm, PA, ps, pc, TA, ts, tc⟩
  · rw [hv] at CV
    have E : Hid (([] : List Int) = S) := by show _ = _; rw [hD, hv]; rfl
    clear hD hv
    replace CV := Lib.hid CV
    by_cases h0 : 0 < ts.length
    · have h0b : decide (0 < ts.length) = true := by simpa using h0
      go_enter Tryz.func59, Tryz.ntmps59
      go_wp2_with fail
      refine wp_loop_rounds 1 ?_
      rw [rounds_succ]
      go_wp2_with fail
      refine (CV.out _ B0.out).mono ?_
      rintro e w1 ⟨rfl, K⟩
      have K2 := Lib.hid (B0.out.trans (K.mono (by rw [World.size_alloc]; omega)))
      clear K
      go_wp2
      go_ret
      exact ⟨none, 0, by rw [← E.out]; rfl, by rw [← E.out]; exact ReadsV.nil _ _, K2.out⟩
    · have h0b : decide (0 < ts.length) = false := by simpa using h0
      go_enter Tryz.func59, Tryz.ntmps59
      go_wp2_with fail
      refine wp_loop_rounds 1 ?_
      rw [rounds_succ]
      go_wp2
      go_ret
      exact ⟨none, 0, by rw [← E.out]; rfl, by rw [← E.out]; exact ReadsV.nil _ _, B0.out⟩
  · rw [hv] at CV
    have E : Hid (pickI (proF ts p) ts.length = S) := by show _ = _; rw [hD, hv]; rfl
    clear hD hv
    replace CV := Lib.hid CV
    generalize hg : w.heap.size = g at *
    have HG := Lib.hid hg
    clear hg
    go_enter Tryz.func59, Tryz.ntmps59
    go_wp2_with fail
    go_loopw [5, 6] (fun v q wr => ∃ k m : Nat, k ≤ ts.length ∧ m ≤ k ∧ q = .int .i64 k ∧ Hid (wr.ownsRow (g + 1) 3 1 v m (vI (pickI (proF ts p) k))) ∧ Hid (Below (g + 1) (w.alloc (.cells #[.string nm, .slice PA ps.length pc, .slice TA ts.length tc] 25)) wr)) (fun _ q _ => ts.length - (intOf q).toNat)
    case atStart => exact ⟨0, 0, by omega, Nat.le_refl _, rfl, World.ownsRow_nil _ _ _ _, Below.refl _ _⟩
    case round =>
      obtain ⟨k, m, hk, hm, rfl, O, HB0⟩ := hrel
      have HB : Hid (Below g w wr) := B0.out.trans (HB0.out.mono (Nat.le_succ _))
      have hsz := HB0.out.size
      rw [World.size_alloc, HG.out] at hsz
      have c0 : wr.cell? ⟨w.heap.size, 0, none⟩ = some (.string nm) := by rw [HB0.out.cell (by rw [← HG.out]; simp)]; simp
      have c1 : wr.cell? ⟨w.heap.size, 1, none⟩ = some (.slice PA ps.length pc) := by rw [HB0.out.cell (by rw [← HG.out]; simp)]; simp
      have c2 : wr.cell? ⟨w.heap.size, 2, none⟩ = some (.slice TA ts.length tc) := by rw [HB0.out.cell (by rw [← HG.out]; simp)]; simp
      by_cases hlt2 : k < ts.length
      · have ltb : decide (k < ts.length) = true := by simpa using hlt2
        go_wp2_with fail
        refine (CV.out _ HB.out).mono ?_
        rintro e w2 ⟨rfl, K⟩
        have HB2 : Hid (Below (g + 1) (w.alloc (.cells #[.string nm, .slice PA ps.length pc, .slice TA ts.length tc] 25)) w2) := HB0.out.trans (K.mono hsz)
        have O2 : Hid (w2.ownsRow (g + 1) 3 1 u5 m (vI (pickI (proF ts p) k))) := own_below O.out K (Nat.le_refl _)
        clear K c0 c1 c2 HB0 HB O
        have HB : Hid (Below g w w2) := B0.out.trans (HB2.out.mono (Nat.le_succ _))
        have c2 : w2.cell? ⟨w.heap.size, 2, none⟩ = some (.slice TA ts.length tc) := by rw [HB2.out.cell (by rw [← HG.out]; simp)]; simp
        have hs2 := HB2.out.size
        rw [World.size_alloc, HG.out] at hs2
        obtain ⟨b0, off, rfl, hb0, d0, d1, d2, d3, d4, r1, r2, r3⟩ := RT.out w2 HB.out k hlt2
        have CW := rweight_any (tA ts k).post.A (tA ts k).post.l (tA ts k).post.c p w2 r2 (by unfold maxLen; have := (tA_ok (k := k) HZT.out).2; omega)
        have HFv : Hid (proF ts p k = decide (0 < weightV (tA ts k).post.l p)) := rfl
        have HY := Lib.hid (pickI_yes (proF ts p) k)
        have HNo := Lib.hid (pickI_no (proF ts p) k)
        clear r1 r2 r3
        replace CW := Lib.hid CW
        generalize weightV (tA ts k).post.l p = x at *
        generalize (tA ts k).post.l.length = q1 at *
        generalize (tA ts k).post.A = q2 at *
        generalize (tA ts k).post.c = q3 at *
        by_cases q : 0 < x
        · have HE := Lib.hid (HY.out (HFv.out.trans (by simpa using q)))
          clear HY HNo HFv
          go_wp2_with fail
          refine CW.out.mono ?_
          rintro e w3 ⟨rfl, K⟩
          have HB3 : Hid (Below (g + 1) (w.alloc (.cells #[.string nm, .slice PA ps.length pc, .slice (some ⟨b0, off, none⟩) ts.length tc] 25)) w3) := HB2.out.trans (K.mono hs2)
          have O3 : Hid (w3.ownsRow (g + 1) 3 1 u5 m (vI (pickI (proF ts p) k))) := own_below O2.out K (Nat.le_refl _)
          clear K
          have hs3 := HB3.out.size
          rw [World.size_alloc, HG.out] at hs3
          have b1 : m + 1 ≤ maxLen := by unfold maxLen; omega
          have b2 : (m + 1) * 8 ≤ 140737488355328 := by omega
          have b3 : g + 1 ≤ (w3.alloc (.cells #[.int .i64 k] 3)).heap.size := by rw [World.size_alloc]; omega
          have b4 : Hid (∀ q, u5.ownBlock = some q → g + 1 ≤ q) := fun q e => (O3.out.lt q e).1
          have BA : Hid (Below (g + 1) (w.alloc (.cells #[.string nm, .slice PA ps.length pc, .slice (some ⟨b0, off, none⟩) ts.length tc] 25)) (w3.alloc (.cells #[.int .i64 k] 3))) := HB3.out.alloc hs3 _
          go_wp2_with (at_builtin; (refine wpList_append_own _ rfl (.tmp 27) (.tmp 29) 34 rfl (g + 1) 3 i0 (.int .i64 0) 1 8 Tryz.underlying34 HI.out HZ0.out HZ1.out HZ2.out rfl (by decide) u5 m _ rfl (O3.out.alloc _) ⟨w3.heap.size, 0, none⟩ 1 1 [.int .i64 k] rfl rfl (cell_one_new _ _ _) (one_cellI _) b1 b2 b3 ?_); intro v' w5 hown' hgrow _)
          have O5 : Hid (w5.ownsRow (g + 1) 3 1 v' (m + 1) (vI (pickI (proF ts p) (k + 1)))) := by
            show World.ownsRow _ _ _ _ _ _ _
            rw [HE.out, vI_snoc]
            exact hown'
          have B5 := Lib.hid (BA.out.grown hgrow b3 b4.out)
          clear hown' hgrow
          go_wp2
          go_roundw
          case rel => exact ⟨k + 1, m + 1, by omega, by omega, by go_num, O5, B5⟩
          case measure => simp [intOf]; omega
        · have HE := Lib.hid (HNo.out (HFv.out.trans (by simpa using q)))
          clear HY HNo HFv
          go_wp2_with fail
          refine CW.out.mono ?_
          rintro e w3 ⟨rfl, K⟩
          have HB3 : Hid (Below (g + 1) (w.alloc (.cells #[.string nm, .slice PA ps.length pc, .slice (some ⟨b0, off, none⟩) ts.length tc] 25)) w3) := HB2.out.trans (K.mono hs2)
          have O3 : Hid (w3.ownsRow (g + 1) 3 1 u5 m (vI (pickI (proF ts p) (k + 1)))) := by
            show World.ownsRow _ _ _ _ _ _ _
            rw [HE.out]
            exact own_below O2.out K (Nat.le_refl _)
          clear K
          go_wp2
          go_roundw
          case rel => exact ⟨k + 1, m, by omega, by omega, by go_num, O3, HB3⟩
          case measure => simp [intOf]; omega
      · have ltb : decide (k < ts.length) = false := by simpa using hlt2
        obtain rfl : k = ts.length := by omega
        obtain ⟨A2, c2', h1, h2⟩ := ReadsV.own O.out
        rw [E.out] at h1 h2
        have H2 := Lib.hid h2
        clear O h2
        subst h1
        go_wp2
        go_ret
        exact ⟨A2, c2', rfl, H2.out, HB.out⟩

theorem clos_consumers (nm : ByteArray) (a1 a2 a3 : ArcsV) (prio p : Int) (b : Nat) (w : World) (hc : w.cell? ⟨b, 0, none⟩ = some (.int .i64 p)) (hr : ReadsA w a1.A a1.l) (hl : a1.l.length ≤ 1000) :
    Calls Tryz.prog 103 #[(.agg #[.string nm, .slice a1.A a1.l.length a1.c, .slice a2.A a2.l.length a2.c, .slice a3.A a3.l.length a3.c, .int .i64 prio]), .pointer (some ⟨b, 0, none⟩)] w (VPost w.heap.size w (.bool (decide (0 < weightV a1.l p)))) := by
  have hb : b < w.heap.size := World.block_lt_of_cell? w ⟨b, 0, none⟩ hc
  have B0 : Hid (Below w.heap.size w (w.alloc (.cells #[.string nm, .slice a1.A a1.l.length a1.c, .slice a2.A a2.l.length a2.c, .slice a3.A a3.l.length a3.c, .int .i64 prio] 43))) := (Below.refl _ _).alloc (Nat.le_refl _) _
  have C := Lib.hid (weight_any a1.A a1.l a1.c p _ (hr.below B0.out (Nat.le_refl _)) (by unfold maxLen; omega))
  generalize weightV a1.l p = v at *
  clear hr
  go_enter Tryz.func103, Tryz.ntmps103
  go_wp2_with fail
  refine C.out.mono ?_
  rintro e w1 ⟨rfl, K⟩
  have K2 := Lib.hid (B0.out.trans (K.mono (by rw [World.size_alloc]; omega)))
  clear K
  go_wp2
  go_ret
  exact ⟨rfl, K2.out⟩

set_option maxHeartbeats 4000000 in
set_option maxRecDepth 100000 in
theorem having_consumers (n : NetV) (p : Int) (b : Nat) (w : World) (hr : NetR w n) (hc : w.cell? ⟨b, 0, none⟩ = some (.int .i64 p)) :
    Calls Tryz.prog 100 #[.agg #[.string n.nm, .slice n.PA n.ps.length n.pc, .slice n.TA n.ts.length n.tc], .func (.func 103) #[] #[.pointer (some ⟨b, 0, none⟩)]] w (IsPost w.heap.size w (consumersN n p)) := by
  have CV := fun W (hW : Below w.heap.size w W) => validN_any n W (hr.below hW (Nat.le_refl _))
  have RP := fun W (hW : Below w.heap.size w W) => (hr.below hW (Nat.le_refl _)).rp
  have RT := fun W (hW : Below w.heap.size w W) => (hr.below hW (Nat.le_refl _)).rt
  have hD : consumersN n p = if okN n = true then pickI (conF n.ts p) n.ts.length else [] := rfl
  generalize consumersN n p = S at *
  obtain ⟨nm, PA, ps, pc, TA, ts, tc⟩ := n
  obtain ⟨hnm, ⟨hlp, hzp⟩, ⟨hlt, hzt⟩, hpc, htc, _, _⟩ := hr
  dsimp only at hnm hlp hzp hlt hzt hpc htc RP RT
  dsimp only at hD CV
  replace RP := Lib.hid RP
  replace RT := Lib.hid RT
  have HZT := Lib.hid hzt
  have HZP := Lib.hid hzp
  clear hzt hzp
  have B0 : Hid (Below w.heap.size w (w.alloc (.cells #[.string nm, .slice PA ps.length pc, .slice TA ts.length tc] 25))) := (Below.refl _ _).alloc (Nat.le_refl _) _
  obtain ⟨i0, hi, hz0, hz1, hz2⟩ := info_parts infoI
  have HI := Lib.hid hi
  have HZ0 := Lib.hid hz0
  have HZ1 := Lib.hid hz1
  have HZ2 := Lib.hid hz2
  clear hi hz0 hz1 hz2
  have hb : b < w.heap.size := World.block_lt_of_cell? w ⟨b, 0, none⟩ hc
  have HC := Lib.hid hc
  clear hc
  cases hv : okN ⟨nm, PA, ps, pc, TA, ts, tc⟩
  · rw [hv] at CV
    have E : Hid (([] : List Int) = S) := by show _ = _; rw [hD, hv]; rfl
    clear hD hv
    replace CV := Lib.hid CV
    go_enter Tryz.func100, Tryz.ntmps100
    go_wp2_with fail
    refine (CV.out _ B0.out).mono ?_
    rintro e w1 ⟨rfl, K⟩
    have K2 := Lib.hid (B0.out.trans (K.mono (by rw [World.size_alloc]; omega)))
    clear K
    go_wp2
    go_ret
    exact ⟨none, 0, by rw [← E.out]; rfl, by rw [← E.out]; exact ReadsV.nil _ _, K2.out⟩
  · rw [hv] at CV
    have E : Hid (pickI (conF ts p) ts.length = S) := by show _ = _; rw [hD, hv]; rfl
    clear hD hv
    replace CV := Lib.hid CV
    go_enter Tryz.func100, Tryz.ntmps100
    go_wp2_with fail
    refine (CV.out _ B0.out).mono ?_
    rintro e w1 ⟨rfl, K⟩
    have c0w1 : w1.cell? ⟨w.heap.size, 0, none⟩ = some (.string nm) := by rw [K.cell (by simp)]; simp
    have c1w1 : w1.cell? ⟨w.heap.size, 1, none⟩ = some (.slice PA ps.length pc) := by rw [K.cell (by simp)]; simp
    have c2w1 : w1.cell? ⟨w.heap.size, 2, none⟩ = some (.slice TA ts.length tc) := by rw [K.cell (by simp)]; simp
    have K2 := Lib.hid (B0.out.trans (K.mono (by rw [World.size_alloc]; omega)))
    clear K
    generalize hg : w.heap.size = g at *
    have HG := Lib.hid hg
    clear hg
    go_wp2
    go_loopw [5, 14] (fun v q wr => ∃ k m : Nat, k ≤ ts.length ∧ m ≤ k ∧ q = .int .i64 k ∧ Hid (wr.ownsRow g 3 1 v m (vI (pickI (conF ts p) k))) ∧ Hid (Below g w wr)) (fun _ q _ => ts.length - (intOf q).toNat)
    case atStart => exact ⟨0, 0, by omega, Nat.le_refl _, rfl, World.ownsRow_nil _ _ _ _, K2.out⟩
    case round =>
      clear K2 c0w1 c1w1 c2w1
      obtain ⟨k, m, hk, hm, rfl, O, HB⟩ := hrel
      have hsz := HB.out.size
      rw [HG.out] at hsz
      by_cases hlt2 : k < ts.length
      · obtain ⟨b0, off, rfl, hb0, d0, d1, d2, d3, d4, r1, r2, r3⟩ := RT.out wr HB.out k hlt2
        have BS : Hid (∀ o, Below wr.heap.size wr (wr.alloc o)) := fun o => (Below.refl _ _).alloc (Nat.le_refl _) _
        have CL := fun o => clos_consumers (tA ts k).nm (tA ts k).pre (tA ts k).post (tA ts k).inh (tA ts k).prio p b (wr.alloc o) (((BS.out o).cell (by exact Nat.lt_of_lt_of_le hb hsz)).trans ((HB.out.cell (p := ⟨b, 0, none⟩) hb).trans HC.out)) (r1.below (BS.out o) (Nat.le_refl _)) (tA_ok HZT.out).1
        have HFv : Hid (conF ts p k = decide (0 < weightV (tA ts k).pre.l p)) := rfl
        have HY := Lib.hid (pickI_yes (conF ts p) k)
        have HNo := Lib.hid (pickI_no (conF ts p) k)
        clear r1 r2 r3
        generalize (tA ts k).nm = tn at *
        generalize (tA ts k).pre = a1 at *
        generalize (tA ts k).post = a2 at *
        generalize (tA ts k).inh = a3 at *
        generalize (tA ts k).prio = prio at *
        replace CL := Lib.hid CL
        have KBk : Hid (∀ o W, Below (wr.alloc o).heap.size (wr.alloc o) W → Below g w W) := fun o W h => (HB.out.alloc hsz o).trans (h.mono (by rw [World.size_alloc]; omega))
        by_cases q : 0 < weightV a1.l p
        · have qv : decide (0 < weightV a1.l p) = true := by simpa using q
          have HE := Lib.hid (HY.out (HFv.out.trans qv))
          rw [qv] at CL
          clear q qv HY HNo HFv
          go_wp2_with fail
          refine (CL.out _).mono ?_
          rintro e w2 ⟨rfl, K⟩
          have K2 := Lib.hid (KBk.out _ _ K)
          have O2 : Hid (w2.ownsRow g 3 1 u5 m (vI (pickI (conF ts p) k))) := own_below (own_below O.out (BS.out _) (Nat.le_refl _)) K (Nat.le_refl _)
          clear K KBk
          have hs2 := K2.out.size
          rw [HG.out] at hs2
          have b1 : m + 1 ≤ maxLen := by unfold maxLen; omega
          have b2 : (m + 1) * 8 ≤ 140737488355328 := by omega
          have b3 : g ≤ (w2.alloc (.cells #[.int .i64 k] 3)).heap.size := by rw [World.size_alloc]; omega
          have b4 : Hid (∀ q, u5.ownBlock = some q → g ≤ q) := fun q e => (O2.out.lt q e).1
          have BA : Hid (Below g w (w2.alloc (.cells #[.int .i64 k] 3))) := K2.out.alloc hs2 _
          go_wp2_with (at_builtin; (refine wpList_append_own _ rfl (.tmp 22) (.tmp 24) 34 rfl g 3 i0 (.int .i64 0) 1 8 Tryz.underlying34 HI.out HZ0.out HZ1.out HZ2.out rfl (by decide) u5 m _ rfl (O2.out.alloc _) ⟨w2.heap.size, 0, none⟩ 1 1 [.int .i64 k] rfl rfl (cell_one_new _ _ _) (one_cellI _) b1 b2 b3 ?_); intro v' w5 hown' hgrow _)
          have O5 : Hid (w5.ownsRow g 3 1 v' (m + 1) (vI (pickI (conF ts p) (k + 1)))) := by
            show World.ownsRow _ _ _ _ _ _ _
            rw [HE.out, vI_snoc]
            exact hown'
          have B5 : Hid (Below g w w5) := BA.out.grown hgrow b3 b4.out
          clear hown' hgrow
          go_wp2
          go_roundw
          case rel => exact ⟨k + 1, m + 1, by omega, by omega, by go_num, O5, B5⟩
          case measure => simp [intOf]; omega
        · have qv : decide (0 < weightV a1.l p) = false := by simpa using q
          have HE := Lib.hid (HNo.out (HFv.out.trans qv))
          rw [qv] at CL
          clear q qv HY HNo HFv
          go_wp2_with fail
          refine (CL.out _).mono ?_
          rintro e w2 ⟨rfl, K⟩
          have K2 := Lib.hid (KBk.out _ _ K)
          have O2 : Hid (w2.ownsRow g 3 1 u5 m (vI (pickI (conF ts p) (k + 1)))) := by
            show World.ownsRow _ _ _ _ _ _ _
            rw [HE.out]
            exact own_below (own_below O.out (BS.out _) (Nat.le_refl _)) K (Nat.le_refl _)
          clear K KBk
          go_wp2
          go_roundw
          case rel => exact ⟨k + 1, m, by omega, by omega, by go_num, O2, K2⟩
          case measure => simp [intOf]; omega
      · obtain rfl : k = ts.length := by omega
        obtain ⟨A2, c2, h1, h2⟩ := ReadsV.own O.out
        rw [E.out] at h1 h2
        have H2 := Lib.hid h2
        clear O h2
        subst h1
        go_wp2
        go_ret
        exact ⟨A2, c2, rfl, H2.out, HB.out⟩

set_option maxHeartbeats 1000000 in
theorem consumersN_any (n : NetV) (p : Int) (w : World) (hr : NetR w n) :
    Calls Tryz.prog 58 #[.agg #[.string n.nm, .slice n.PA n.ps.length n.pc, .slice n.TA n.ts.length n.tc], .int .i64 p] w (IsPost w.heap.size w (consumersN n p)) := by
  have hmf : ∀ (fn : Fn) (first cap : Array Value) (w : World), (Instr.makeFunc fn first cap).run Tryz.prog w = .ok (.func fn first cap) w := fun _ _ _ _ => rfl
  have B0 : Hid (Below w.heap.size w ((w.alloc (.cells #[.string n.nm, .slice n.PA n.ps.length n.pc, .slice n.TA n.ts.length n.tc] 25)).alloc (.cells #[.int .i64 p] 3))) := ((Below.refl _ _).alloc (Nat.le_refl _) _).alloc (by simp) _
  have C := Lib.hid (having_consumers n p (w.heap.size + 1) _ (hr.below B0.out (Nat.le_refl _)) (by simp))
  generalize consumersN n p = S at *
  obtain ⟨nm, PA, ps, pc, TA, ts, tc⟩ := n
  clear hr
  dsimp only at C B0
  go_enter Tryz.func58, Tryz.ntmps58
  go_wp2_with fail
  refine C.out.mono ?_
  rintro e w1 ⟨A2, c2, rfl, R, K⟩
  have K2 := Lib.hid (B0.out.trans (K.mono (by simp; omega)))
  have R2 := Lib.hid R
  clear K R
  go_wp2
  go_ret
  exact ⟨A2, c2, rfl, R2.out, K2.out⟩

set_option maxHeartbeats 4000000 in
set_option maxRecDepth 100000 in
theorem rconsumersN_any (n : NetV) (p : Int) (w : World) (hr : NetR w n)  :
    Calls Tryz.prog 60 #[.agg #[.string n.nm, .slice n.PA n.ps.length n.pc, .slice n.TA n.ts.length n.tc], .int .i64 p] w (IsPost w.heap.size w (consumersN n p)) := by
  have CV := fun W (hW : Below w.heap.size w W) => rvalidN_any n W (hr.below hW (Nat.le_refl _))
  have RP := fun W (hW : Below w.heap.size w W) => (hr.below hW (Nat.le_refl _)).rp
  have RT := fun W (hW : Below w.heap.size w W) => (hr.below hW (Nat.le_refl _)).rt
  have hD : consumersN n p = if okN n = true then pickI (conF n.ts p) n.ts.length else [] := rfl
  generalize consumersN n p = S at *
  obtain ⟨nm, PA, ps, pc, TA, ts, tc⟩ := n
  obtain ⟨hnm, ⟨hlp, hzp⟩, ⟨hlt, hzt⟩, hpc, htc, _, _⟩ := hr
  dsimp only at hnm hlp hzp hlt hzt hpc htc RP RT
  dsimp only at hD CV
  replace RP := Lib.hid RP
  replace RT := Lib.hid RT
  have HZT := Lib.hid hzt
  have HZP := Lib.hid hzp
  clear hzt hzp
  have B0 : Hid (Below w.heap.size w (w.alloc (.cells #[.string nm, .slice PA ps.length pc, .slice TA ts.length tc] 25))) := (Below.refl _ _).alloc (Nat.le_refl _) _
  obtain ⟨i0, hi, hz0, hz1, hz2⟩ := info_parts infoI
  have HI := Lib.hid hi
  have HZ0 := Lib.hid hz0
  have HZ1 := Lib.hid hz1
  have HZ2 := Lib.hid hz2
  clear hi hz0 hz1 hz2
  cases hv : okN ⟨nm, PA, ps, pc, TA, ts, tc⟩
  · rw [hv] at CV
    have E : Hid (([] : List Int) = S) := by show _ = _; rw [hD, hv]; rfl
    clear hD hv
    replace CV := Lib.hid CV
    by_cases h0 : 0 < ts.length
    · have h0b : decide (0 < ts.length) = true := by simpa using h0
      go_enter Tryz.func60, Tryz.ntmps60
      go_wp2_with fail
      refine wp_loop_rounds 1 ?_
      rw [rounds_succ]
      go_wp2_with fail
      refine (CV.out _ B0.out).mono ?_
      rintro e w1 ⟨rfl, K⟩
      have K2 := Lib.hid (B0.out.trans (K.mono (by rw [World.size_alloc]; omega)))
      clear K
      go_wp2
      go_ret
      exact ⟨none, 0, by rw [← E.out]; rfl, by rw [← E.out]; exact ReadsV.nil _ _, K2.out⟩
    · have h0b : decide (0 < ts.length) = false := by simpa using h0
      go_enter Tryz.func60, Tryz.ntmps60
      go_wp2_with fail
      refine wp_loop_rounds 1 ?_
      rw [rounds_succ]
      go_wp2
      go_ret
      exact ⟨none, 0, by rw [← E.out]; rfl, by rw [← E.out]; exact ReadsV.nil _ _, B0.out⟩
  · rw [hv] at CV
    have E : Hid (pickI (conF ts p) ts.length = S) := by show _ = _; rw [hD, hv]; rfl
    clear hD hv
    replace CV := Lib.hid CV
    generalize hg : w.heap.size = g at *
    have HG := Lib.hid hg
    clear hg
    go_enter Tryz.func60, Tryz.ntmps60
    go_wp2_with fail
    go_loopw [5, 6] (fun v q wr => ∃ k m : Nat, k ≤ ts.length ∧ m ≤ k ∧ q = .int .i64 k ∧ Hid (wr.ownsRow (g + 1) 3 1 v m (vI (pickI (conF ts p) k))) ∧ Hid (Below (g + 1) (w.alloc (.cells #[.string nm, .slice PA ps.length pc, .slice TA ts.length tc] 25)) wr)) (fun _ q _ => ts.length - (intOf q).toNat)
    case atStart => exact ⟨0, 0, by omega, Nat.le_refl _, rfl, World.ownsRow_nil _ _ _ _, Below.refl _ _⟩
    case round =>
      obtain ⟨k, m, hk, hm, rfl, O, HB0⟩ := hrel
      have HB : Hid (Below g w wr) := B0.out.trans (HB0.out.mono (Nat.le_succ _))
      have hsz := HB0.out.size
      rw [World.size_alloc, HG.out] at hsz
      have c0 : wr.cell? ⟨w.heap.size, 0, none⟩ = some (.string nm) := by rw [HB0.out.cell (by rw [← HG.out]; simp)]; simp
      have c1 : wr.cell? ⟨w.heap.size, 1, none⟩ = some (.slice PA ps.length pc) := by rw [HB0.out.cell (by rw [← HG.out]; simp)]; simp
      have c2 : wr.cell? ⟨w.heap.size, 2, none⟩ = some (.slice TA ts.length tc) := by rw [HB0.out.cell (by rw [← HG.out]; simp)]; simp
      by_cases hlt2 : k < ts.length
      · have ltb : decide (k < ts.length) = true := by simpa using hlt2
        go_wp2_with fail
        refine (CV.out _ HB.out).mono ?_
        rintro e w2 ⟨rfl, K⟩
        have HB2 : Hid (Below (g + 1) (w.alloc (.cells #[.string nm, .slice PA ps.length pc, .slice TA ts.length tc] 25)) w2) := HB0.out.trans (K.mono hsz)
        have O2 : Hid (w2.ownsRow (g + 1) 3 1 u5 m (vI (pickI (conF ts p) k))) := own_below O.out K (Nat.le_refl _)
        clear K c0 c1 c2 HB0 HB O
        have HB : Hid (Below g w w2) := B0.out.trans (HB2.out.mono (Nat.le_succ _))
        have c2 : w2.cell? ⟨w.heap.size, 2, none⟩ = some (.slice TA ts.length tc) := by rw [HB2.out.cell (by rw [← HG.out]; simp)]; simp
        have hs2 := HB2.out.size
        rw [World.size_alloc, HG.out] at hs2
        obtain ⟨b0, off, rfl, hb0, d0, d1, d2, d3, d4, r1, r2, r3⟩ := RT.out w2 HB.out k hlt2
        have CW := rweight_any (tA ts k).pre.A (tA ts k).pre.l (tA ts k).pre.c p w2 r1 (by unfold maxLen; have := (tA_ok (k := k) HZT.out).1; omega)
        have HFv : Hid (conF ts p k = decide (0 < weightV (tA ts k).pre.l p)) := rfl
        have HY := Lib.hid (pickI_yes (conF ts p) k)
        have HNo := Lib.hid (pickI_no (conF ts p) k)
        clear r1 r2 r3
        replace CW := Lib.hid CW
        generalize weightV (tA ts k).pre.l p = x at *
        generalize (tA ts k).pre.l.length = q1 at *
        generalize (tA ts k).pre.A = q2 at *
        generalize (tA ts k).pre.c = q3 at *
        by_cases q : 0 < x
        · have HE := Lib.hid (HY.out (HFv.out.trans (by simpa using q)))
          clear HY HNo HFv
          go_wp2_with fail
          refine CW.out.mono ?_
          rintro e w3 ⟨rfl, K⟩
          have HB3 : Hid (Below (g + 1) (w.alloc (.cells #[.string nm, .slice PA ps.length pc, .slice (some ⟨b0, off, none⟩) ts.length tc] 25)) w3) := HB2.out.trans (K.mono hs2)
          have O3 : Hid (w3.ownsRow (g + 1) 3 1 u5 m (vI (pickI (conF ts p) k))) := own_below O2.out K (Nat.le_refl _)
          clear K
          have hs3 := HB3.out.size
          rw [World.size_alloc, HG.out] at hs3
          have b1 : m + 1 ≤ maxLen := by unfold maxLen; omega
          have b2 : (m + 1) * 8 ≤ 140737488355328 := by omega
          have b3 : g + 1 ≤ (w3.alloc (.cells #[.int .i64 k] 3)).heap.size := by rw [World.size_alloc]; omega
          have b4 : Hid (∀ q, u5.ownBlock = some q → g + 1 ≤ q) := fun q e => (O3.out.lt q e).1
          have BA : Hid (Below (g + 1) (w.alloc (.cells #[.string nm, .slice PA ps.length pc, .slice (some ⟨b0, off, none⟩) ts.length tc] 25)) (w3.alloc (.cells #[.int .i64 k] 3))) := HB3.out.alloc hs3 _
          go_wp2_with (at_builtin; (refine wpList_append_own _ rfl (.tmp 27) (.tmp 29) 34 rfl (g + 1) 3 i0 (.int .i64 0) 1 8 Tryz.underlying34 HI.out HZ0.out HZ1.out HZ2.out rfl (by decide) u5 m _ rfl (O3.out.alloc _) ⟨w3.heap.size, 0, none⟩ 1 1 [.int .i64 k] rfl rfl (cell_one_new _ _ _) (one_cellI _) b1 b2 b3 ?_); intro v' w5 hown' hgrow _)
          have O5 : Hid (w5.ownsRow (g + 1) 3 1 v' (m + 1) (vI (pickI (conF ts p) (k + 1)))) := by
            show World.ownsRow _ _ _ _ _ _ _
            rw [HE.out, vI_snoc]
            exact hown'
          have B5 := Lib.hid (BA.out.grown hgrow b3 b4.out)
          clear hown' hgrow
          go_wp2
          go_roundw
          case rel => exact ⟨k + 1, m + 1, by omega, by omega, by go_num, O5, B5⟩
          case measure => simp [intOf]; omega
        · have HE := Lib.hid (HNo.out (HFv.out.trans (by simpa using q)))
          clear HY HNo HFv
          go_wp2_with fail
          refine CW.out.mono ?_
          rintro e w3 ⟨rfl, K⟩
          have HB3 : Hid (Below (g + 1) (w.alloc (.cells #[.string nm, .slice PA ps.length pc, .slice (some ⟨b0, off, none⟩) ts.length tc] 25)) w3) := HB2.out.trans (K.mono hs2)
          have O3 : Hid (w3.ownsRow (g + 1) 3 1 u5 m (vI (pickI (conF ts p) (k + 1)))) := by
            show World.ownsRow _ _ _ _ _ _ _
            rw [HE.out]
            exact own_below O2.out K (Nat.le_refl _)
          clear K
          go_wp2
          go_roundw
          case rel => exact ⟨k + 1, m, by omega, by omega, by go_num, O3, HB3⟩
          case measure => simp [intOf]; omega
      · have ltb : decide (k < ts.length) = false := by simpa using hlt2
        obtain rfl : k = ts.length := by omega
        obtain ⟨A2, c2', h1, h2⟩ := ReadsV.own O.out
        rw [E.out] at h1 h2
        have H2 := Lib.hid h2
        clear O h2
        subst h1
        go_wp2
        go_ret
        exact ⟨A2, c2', rfl, H2.out, HB.out⟩
end Go.Proofs.YtlbcdnobpnllkaaGreat
