/- The incidence matrix of the program. -/
import Derived.Test.YtaomgfmlnjdoaaaMA
import Derived.StillTailTactics
namespace Go.Proofs.Ytaomgfmlnjdoaaa
open Go.RowKit

def incD (ts : List TransV) (p t : Nat) : Int := weightV (tA ts t).post.l p - weightV (tA ts t).pre.l p
def mK (ts : List TransV) (k p t : Nat) : Int := if t < k then incD ts p t else 0
def mPre (ts : List TransV) (k j p t : Nat) : Int := if t < k then incD ts p t else if t = k then - sumW (tA ts k).pre.l p j else 0
def mPost (ts : List TransV) (k j p t : Nat) : Int := if t < k then incD ts p t else if t = k then sumW (tA ts k).post.l p j - weightV (tA ts k).pre.l p else 0
theorem mPre_zero (ts : List TransV) (k p t : Nat) : mK ts k p t = mPre ts k 0 p t := by
  unfold mK mPre
  split
  · rfl
  · split <;> simp [sumW]
theorem mPre_step (ts : List TransV) (k j p : Nat) (x : Nat) (hx : aP (tA ts k).pre.l j = x) : ∀ p' t', (if p' = x ∧ t' = k then mPre ts k j x k - aW (tA ts k).pre.l j else mPre ts k j p' t') = mPre ts k (j + 1) p' t' := by
  intro p' t'
  unfold mPre
  by_cases h2 : t' = k
  · subst h2
    by_cases h1 : p' = x
    · subst h1
      simp only [Nat.lt_irrefl, if_false, if_true, and_self, sumW, hx]
      omega
    · rw [if_neg (fun c => h1 c.1)]
      simp only [Nat.lt_irrefl, if_false, if_true, sumW, hx]
      rw [if_neg (by omega)]
      omega
  · rw [if_neg (fun c => h2 c.2)]
    simp only [h2, if_false]
theorem mPost_zero {m : Nat} {ts : List TransV} {k : Nat} (h : arcsE m (tA ts k).pre.l = 0) (p t : Nat) : mPre ts k (tA ts k).pre.l.length p t = mPost ts k 0 p t := by
  unfold mPre mPost
  rw [sumW_all h]
  simp [sumW]
theorem mPost_step (ts : List TransV) (k j p : Nat) (x : Nat) (hx : aP (tA ts k).post.l j = x) : ∀ p' t', (if p' = x ∧ t' = k then mPost ts k j x k + aW (tA ts k).post.l j else mPost ts k j p' t') = mPost ts k (j + 1) p' t' := by
  intro p' t'
  unfold mPost
  by_cases h2 : t' = k
  · subst h2
    by_cases h1 : p' = x
    · subst h1
      simp only [Nat.lt_irrefl, if_false, if_true, and_self, sumW, hx]
      omega
    · rw [if_neg (fun c => h1 c.1)]
      simp only [Nat.lt_irrefl, if_false, if_true, sumW, hx]
      rw [if_neg (by omega)]
      omega
  · rw [if_neg (fun c => h2 c.2)]
    simp only [h2, if_false]
theorem mPost_all {m : Nat} {ts : List TransV} {k : Nat} (h : arcsE m (tA ts k).post.l = 0) (p t : Nat) : mPost ts k (tA ts k).post.l.length p t = mK ts (k + 1) p t := by
  unfold mPost mK
  rw [sumW_all h]
  by_cases h1 : t < k
  · rw [if_pos h1, if_pos (by omega)]
  · rw [if_neg h1]
    by_cases h2 : t = k
    · subst h2; rw [if_pos rfl, if_pos (by omega)]; rfl
    · rw [if_neg h2, if_neg (by omega)]
theorem mPre_bd {m : Nat} {ts : List TransV} {k j p : Nat} (h : arcsE m (tA ts k).pre.l = 0) (hj : j ≤ (tA ts k).pre.l.length) (hl : (tA ts k).pre.l.length ≤ 1000) : -99000 ≤ mPre ts k j p k ∧ mPre ts k j p k ≤ 0 := by
  have := sumW_bd (p := p) h j hj
  unfold mPre
  rw [if_neg (by omega), if_pos rfl]
  omega
theorem mPost_bd {m : Nat} {ts : List TransV} {k j p : Nat} (h : arcsE m (tA ts k).pre.l = 0) (h2 : arcsE m (tA ts k).post.l = 0) (hj : j ≤ (tA ts k).post.l.length) (hl : (tA ts k).post.l.length ≤ 1000) (hl2 : (tA ts k).pre.l.length ≤ 1000) : -99000 ≤ mPost ts k j p k ∧ mPost ts k j p k ≤ 99000 := by
  have a := sumW_bd (p := p) h2 j hj
  have b := sumW_bd (p := p) h _ (Nat.le_refl _)
  rw [sumW_all h] at b
  unfold mPost
  rw [if_neg (by omega), if_pos rfl]
  omega
def IncPost (g : Nat) (w : World) (n : NetV) (e : Ending) (w' : World) : Prop := Below g w w' ∧
  ((okN n = true ∧ 0 < n.ts.length) → ∃ R, g ≤ R ∧ e = .returned (.slice (some ⟨R, 0, none⟩) n.ps.length n.ps.length) ∧ MatIs w' R n.ps.length n.ts.length (incD n.ts)) ∧
  (¬ (okN n = true ∧ 0 < n.ts.length) → e = .returned (.slice none 0 0))
theorem infoSl : (Try.prog.info? 42).map (fun i => (i.zero, i.size, i.bytes)) = some (some (.slice none 0 0), 1, 24) := by kernel_rfl
theorem infoL : (Try.prog.info? 2).map (fun i => (i.zero, i.size, i.bytes)) = some (some (.int .i64 0), 1, 8) := by kernel_rfl

set_option maxHeartbeats 8000000 in
set_option maxRecDepth 100000 in
theorem incidenceN_any (n : NetV)  (w : World) (hr : NetR w n)  :
    Calls Try.prog 31 #[.agg #[.string n.nm, .slice n.PA n.ps.length n.pc, .slice n.TA n.ts.length n.tc]] w (IncPost w.heap.size w n) := by
  have CV := fun W (hW : Below w.heap.size w W) => validN_any n W (hr.below hW (Nat.le_refl _))
  have RP := fun W (hW : Below w.heap.size w W) => (hr.below hW (Nat.le_refl _)).rp
  have RT := fun W (hW : Below w.heap.size w W) => (hr.below hW (Nat.le_refl _)).rt
  have hQ : ∀ e w', (Below w.heap.size w w' ∧ ((okN n = true ∧ 0 < n.ts.length) → ∃ R, w.heap.size ≤ R ∧ e = .returned (.slice (some ⟨R, 0, none⟩) n.ps.length n.ps.length) ∧ MatIs w' R n.ps.length n.ts.length (incD n.ts)) ∧ (¬ (okN n = true ∧ 0 < n.ts.length) → e = .returned (.slice none 0 0))) → IncPost w.heap.size w n e w' := fun _ _ h => h
  have hPT := @okN_parts n
  generalize IncPost w.heap.size w n = QQ at *
  obtain ⟨nm, PA, ps, pc, TA, ts, tc⟩ := n
  obtain ⟨hnm, ⟨hlp, hzp⟩, ⟨hlt, hzt⟩, hpc, htc, _, _⟩ := hr
  dsimp only at hnm hlp hzp hlt hzt hpc htc RP RT
  dsimp only at hQ CV hPT
  have HQQ := Lib.hid hQ
  clear hQ
  replace RP := Lib.hid RP
  replace RT := Lib.hid RT
  have HZT := Lib.hid hzt
  have HZP := Lib.hid hzp
  clear hzt hzp
  have B0 : Hid (Below w.heap.size w (w.alloc (.cells #[.string nm, .slice PA ps.length pc, .slice TA ts.length tc] 25))) := (Below.refl _ _).alloc (Nat.le_refl _) _
  cases hv : okN ⟨nm, PA, ps, pc, TA, ts, tc⟩
  · rw [hv] at CV
    have HQ2 : Hid (∀ w', Below w.heap.size w w' → QQ (.returned (.slice none 0 0)) w') := fun w' h => HQQ.out _ _ ⟨h, (fun c => by rw [hv] at c; cases c.1), fun _ => rfl⟩
    clear hv hPT HQQ
    replace CV := Lib.hid CV
    go_enter Try.func31, Try.ntmps31
    go_wp2_with fail
    refine (CV.out _ B0.out).mono ?_
    rintro e w1 ⟨rfl, K⟩
    have K2 := Lib.hid (B0.out.trans (K.mono (by rw [World.size_alloc]; omega)))
    clear K
    go_wp2
    exact HQ2.out _ K2.out
  · rw [hv] at CV
    replace CV := Lib.hid CV
    by_cases hT : 0 < ts.length
    · have HQ3 : Hid (∀ R w', Below w.heap.size w w' → w.heap.size ≤ R → MatIs w' R ps.length ts.length (incD ts) → QQ (.returned (.slice (some ⟨R, 0, none⟩) ps.length ps.length)) w') :=
        fun R w' h1 h2 h3 => HQQ.out _ _ ⟨h1, fun _ => ⟨R, h2, rfl, h3⟩, fun c => absurd ⟨hv, hT⟩ c⟩
      have HPT := Lib.hid (hPT hv).2.2.2.2.2
      clear HQQ hPT hv
      have hx : ((ts.length : Int) == 0) = false := beq_eq_false_iff_ne.2 (by omega)
      have hmk1 := run_make_row' (P := Try.prog) 50 42 (.slice none 0 0) 24 Try.underlying50 infoSl rfl .i64 .i64 ps.length (by omega) (by omega)
      have hmk2 := run_make_row' (P := Try.prog) 42 2 (.int .i64 0) 8 Try.underlying42 infoL rfl .i64 .i64 ts.length (by omega) (by omega)
      go_enter Try.func31, Try.ntmps31
      go_wp2_with fail
      refine (CV.out _ B0.out).mono ?_
      rintro e w1 ⟨rfl, K⟩
      have c0w1 : w1.cell? ⟨w.heap.size, 0, none⟩ = some (.string nm) := by rw [K.cell (by simp)]; simp
      have c1w1 : w1.cell? ⟨w.heap.size, 1, none⟩ = some (.slice PA ps.length pc) := by rw [K.cell (by simp)]; simp
      have c2w1 : w1.cell? ⟨w.heap.size, 2, none⟩ = some (.slice TA ts.length tc) := by rw [K.cell (by simp)]; simp
      have K2 := Lib.hid (B0.out.trans (K.mono (by rw [World.size_alloc]; omega)))
      clear K
      generalize hR : w1.heap.size = R at *
      have HR := Lib.hid hR
      have hgR : w.heap.size < R := by rw [← hR]; exact World.block_lt_of_cell? w1 ⟨w.heap.size, 0, none⟩ c0w1
      have hgw : w.heap.size < w1.heap.size := by rw [hR]; exact hgR
      have M0 : Hid ((w1.alloc (.cells (madeCells #[.slice none 0 0] ps.length) 42)).rowIs R 42 ps.length (fun p => if p < 0 then .slice (some ⟨R + 1 + p, 0, none⟩) ts.length ts.length else .slice none 0 0)) := by
        have := World.rowIs_made w1 (.slice none 0 0) ps.length 42
        rw [hR] at this
        exact this.congr (fun i _ => by rw [if_neg (by omega)])
      have BR : Hid (Below R w1 (w1.alloc (.cells (madeCells #[.slice none 0 0] ps.length) 42))) := (Below.refl _ _).alloc (by rw [hR]; exact Nat.le_refl _) _
      have SZ : Hid ((w1.alloc (.cells (madeCells #[.slice none 0 0] ps.length) 42)).heap.size = R + 1 + 0) := by show _ = _; rw [World.size_alloc, hR]
      have Hc1 := Lib.hid c1w1
      have Hc2 := Lib.hid c2w1
      clear hR
      go_wp2_with fail
      rw [HR.out]
      clear c0w1 c1w1 c2w1 hgw
      go_loopw [26] (fun q wr => ∃ k : Nat, k ≤ ps.length ∧ q = .int .i64 k ∧ Hid (wr.heap.size = R + 1 + k) ∧ Hid (wr.rowIs R 42 ps.length (fun p => if p < k then .slice (some ⟨R + 1 + p, 0, none⟩) ts.length ts.length else .slice none 0 0)) ∧ Hid (∀ p, p < k → wr.rowIs (R + 1 + p) 2 ts.length (fun _ => .int .i64 0)) ∧ Hid (Below R w1 wr)) (fun q _ => ps.length - (intOf q).toNat)
      case atStart => exact ⟨0, by omega, rfl, SZ, M0, fun p hp => absurd hp (by omega), BR⟩
      case round =>
        clear M0 BR SZ
        obtain ⟨k, hk, rfl, SZ, M0, MR, BR⟩ := hrel
        have c2 : wr.cell? ⟨w.heap.size, 2, none⟩ = some (.slice TA ts.length tc) := (BR.out.cell (by exact hgR)).trans Hc2.out
        by_cases hlt2 : k < ps.length
        · have hz : wr.cell? ⟨R, k, none⟩ = some (.slice none 0 0) := by rw [M0.out.cell hlt2, if_neg (by omega)]
          have hf := M0.out.frozen k
          have hRw : R < wr.heap.size := M0.out.lt
          have hsz := SZ.out
          have BR2 : Hid (∀ o, Below R w1 ((wr.setCell ⟨R, k, none⟩ (.slice (some ⟨wr.heap.size, 0, none⟩) ts.length ts.length)).alloc o)) := fun o => (BR.out.setCell (by exact Nat.le_refl R) _).alloc (by simp; omega) o
          have MX : Hid (∀ o, ((wr.setCell ⟨R, k, none⟩ (.slice (some ⟨wr.heap.size, 0, none⟩) ts.length ts.length)).alloc o).rowIs R 42 ps.length (fun p => if p < k + 1 then .slice (some ⟨R + 1 + p, 0, none⟩) ts.length ts.length else .slice none 0 0)) := fun o => by
            refine ((M0.out.set k _).alloc o).congr fun i hi => ?_
            try dsimp only
            by_cases e : i = k
            · subst e; rw [if_pos rfl, if_pos (by omega), SZ.out]
            · rw [if_neg e]
              by_cases e2 : i < k
              · rw [if_pos e2, if_pos (by omega)]
              · rw [if_neg e2, if_neg (by omega)]
          have MY : Hid (∀ p, p < k + 1 → ((wr.setCell ⟨R, k, none⟩ (.slice (some ⟨wr.heap.size, 0, none⟩) ts.length ts.length)).alloc (.cells (madeCells #[.int .i64 0] ts.length) 2)).rowIs (R + 1 + p) 2 ts.length (fun _ => .int .i64 0)) := fun p hp => by
            by_cases e : p = k
            · have h1 := World.rowIs_made (wr.setCell ⟨R, k, none⟩ (.slice (some ⟨wr.heap.size, 0, none⟩) ts.length ts.length)) (.int .i64 0) ts.length 2
              have h2 : (wr.setCell ⟨R, k, none⟩ (.slice (some ⟨wr.heap.size, 0, none⟩) ts.length ts.length)).heap.size = R + 1 + k := by simp; exact SZ.out
              rw [h2] at h1
              subst e
              exact h1
            · exact ((MR.out p (by omega)).setOther (by show R + 1 + p ≠ R; omega) _).alloc _
          have SY : Hid (((wr.setCell ⟨R, k, none⟩ (.slice (some ⟨wr.heap.size, 0, none⟩) ts.length ts.length)).alloc (.cells (madeCells #[.int .i64 0] ts.length) 2)).heap.size = R + 1 + (k + 1)) := by show _ = _; simp; omega
          clear hsz
          go_wp2
          go_roundw
          case rel => exact ⟨k + 1, by omega, by go_num, SY, MX.out _, MY, BR2.out _⟩
          case measure => simp [intOf]; omega
        · obtain rfl : k = ps.length := by omega
          have MK : Hid (MatIs wr R ps.length ts.length (mK ts 0)) := ⟨M0.out.congr (fun i hi => by rw [if_pos hi]), fun p hp => (MR.out p hp).congr (fun i hi => by unfold mK; rw [if_neg (by omega)])⟩
          have BK : Hid (Below w.heap.size w wr) := K2.out.trans (BR.out.mono (by omega))
          clear M0 MR SZ BR
          obtain ⟨wo, rfl⟩ : ∃ wo, wo = wr := ⟨_, rfl⟩
          go_wp2
          clear c2
          go_loopw [40] (fun q wr => ∃ k : Nat, k ≤ ts.length ∧ q = .int .i64 k ∧ Hid (MatIs wr R ps.length ts.length (mK ts k)) ∧ Hid (Below w.heap.size w wr)) (fun q _ => ts.length - (intOf q).toNat)
          case atStart => exact ⟨0, by omega, rfl, MK, BK⟩
          case round =>
            clear MK BK
            obtain ⟨k, hk, rfl, MK, BK⟩ := hrel
            by_cases hlt2 : k < ts.length
            · obtain ⟨b0, off, rfl, hb0, d0, d1, d2, d3, d4, r1, r2, r3⟩ := RT.out wr BK.out k hlt2
              obtain ⟨_, _, _, _, _, ha1', ha2', _⟩ := transE_parts (HPT.out k hlt2)
              obtain ⟨hz1, hz2⟩ := tA_ok (k := k) HZT.out
              have HA1 := Lib.hid ha1'
              have HA2 := Lib.hid ha2'
              have BW := fun W (hW : Below w.heap.size w W) => (RT.out W hW k hlt2)
              have RD1 : Hid (∀ W, Below w.heap.size w W → ReadsA W (tA ts k).pre.A (tA ts k).pre.l) := fun W hW => by
                obtain ⟨_, _, _, _, _, _, _, _, _, q1, _, _⟩ := BW W hW
                exact q1
              have RD2 : Hid (∀ W, Below w.heap.size w W → ReadsA W (tA ts k).post.A (tA ts k).post.l) := fun W hW => by
                obtain ⟨_, _, _, _, _, _, _, _, _, _, q2, _⟩ := BW W hW
                exact q2
              clear ha1' ha2' BW r1 r2 r3
              generalize (tA ts k).nm = tn at *
              generalize (tA ts k).prio = prio at *
              generalize (tA ts k).inh.l.length = n3 at *
              generalize (tA ts k).inh.A = a3 at *
              generalize (tA ts k).inh.c = c3 at *
              generalize (tA ts k).pre.A = a1 at *
              generalize (tA ts k).post.A = a2 at *
              generalize (tA ts k).pre.c = c1' at *
              generalize (tA ts k).post.c = c2' at *
              have HZ1 := Lib.hid hz1
              have HZ2 := Lib.hid hz2
              generalize hn1 : (tA ts k).pre.l.length = n1 at *
              have HN1 := Lib.hid hn1
              generalize hn2 : (tA ts k).post.l.length = n2 at *
              have HN2 := Lib.hid hn2
              clear hn1 hn2
              generalize hh : wr.heap.size = h at *
              have HH := Lib.hid hh
              have hRh : Hid (ps.length = 0 ∨ R + 1 + (ps.length - 1) < h) := by
                show _ ∨ _
                by_cases c : ps.length = 0
                · exact .inl c
                · have := (MK.out.2 (ps.length - 1) (by omega)).lt
                  rw [HH.out] at this
                  exact .inr this
              clear hh
              obtain ⟨wp, rfl⟩ : ∃ wp, wp = wr := ⟨_, rfl⟩
              go_wp2
              rw [HH.out]
              go_loopw [48] (fun q wi => ∃ j : Nat, j ≤ n1 ∧ q = .int .i64 j ∧ Hid (MatIs wi R ps.length ts.length (mPre ts k j)) ∧ Hid (Below w.heap.size w wi) ∧ wi.cell? ⟨h, 2, none⟩ = some (.slice a2 n2 c2') ∧ h < wi.heap.size) (fun q _ => n1 - (intOf q).toNat)
              case atStart => exact ⟨0, by omega, rfl, (MK.out.alloc _).congr (fun p t _ _ => mPre_zero ts k p t), BK.out.alloc BK.out.size _, by rw [← HH.out]; simp, by rw [World.size_alloc, HH.out]; omega⟩
              case round =>
                obtain ⟨j, hj, rfl, MJ, BJ, hcp, hhw⟩ := hrel
                by_cases hlt3 : j < n1
                · obtain ⟨b1, off1, rfl, hb1, e0, e1⟩ := RD1.out wr BJ.out j (by rw [HN1.out]; exact hlt3)
                  obtain ⟨hx0, hxm, _, hu1, hu2⟩ := arcsE_parts HA1.out j (by rw [HN1.out]; exact hlt3)
                  have HST := Lib.hid (mPre_step ts k j)
                  have HBD := Lib.hid (fun p => mPre_bd (p := p) HA1.out (by rw [HN1.out]; omega) (by rw [HN1.out]; exact HZ1.out))
                  obtain ⟨x, hx⟩ : ∃ x : Nat, aP (tA ts k).pre.l j = x := ⟨(aP (tA ts k).pre.l j).toNat, by omega⟩
                  have HS2 := Lib.hid (HST.out 0 x hx)
                  rw [hx] at e0 hxm
                  have hxP : x < ps.length := by omega
                  clear hx hx0 hxm HST
                  generalize hu : aW (tA ts k).pre.l j = u at *
                  have zb := HBD.out x
                  have W1 : MatIs (wr.alloc (.cells #[.int .i64 x, .int .i64 u] 60)) R ps.length ts.length (mPre ts k j) := MJ.out.alloc _
                  have f1 := W1.1.cell hxP
                  have f2 := (W1.2 x hxP).cell hlt2
                  have f3 := (W1.2 x hxP).frozen k
                  have f4 : (wr.alloc (.cells #[.int .i64 x, .int .i64 u] 60)).cell? ⟨wr.heap.size, 0, none⟩ = some (.int .i64 x) := by simp
                  have f5 : (wr.alloc (.cells #[.int .i64 x, .int .i64 u] 60)).cell? ⟨wr.heap.size, 1, none⟩ = some (.int .i64 u) := by simp
                  have W2 := Lib.hid W1
                  have BX : Hid (Below w.heap.size w (wr.alloc (.cells #[.int .i64 x, .int .i64 u] 60))) := BJ.out.alloc BJ.out.size _
                  have hcp2 : (wr.alloc (.cells #[.int .i64 x, .int .i64 u] 60)).cell? ⟨h, 2, none⟩ = some (.slice a2 n2 c2') := (World.cell?_alloc_lt _ _ _ (by exact hhw)).trans hcp
                  have hs2 : h < (wr.alloc (.cells #[.int .i64 x, .int .i64 u] 60)).heap.size := by rw [World.size_alloc]; omega
                  clear W1
                  go_wp2_with fail
                  generalize hz : mPre ts k j x k = z at *
                  have HZ := Lib.hid hz
                  clear hz HBD hu
                  generalize wr.alloc (.cells #[.int .i64 x, .int .i64 u] 60) = w4 at *
                  go_still_tail 12, (by kernel_rfl)
                  change wpList _ _ _ _ _ w4.drew
                  have W5 : Hid (MatIs w4.drew R ps.length ts.length (mPre ts k j)) := W2.out
                  have g2 : w4.drew.cell? ⟨R + 1 + x, k, none⟩ = some (.int .i64 z) := f2
                  have g3 : w4.drew.frozen? ⟨R + 1 + x, k, none⟩ = false := f3
                  have BX2 : Hid (Below w.heap.size w w4.drew) := BX.out.drew
                  have hs3 : h < w4.drew.heap.size := hs2
                  have hcp3 : w4.drew.cell? ⟨h, 2, none⟩ = some (.slice a2 n2 c2') := hcp2
                  clear hcp2
                  clear f1 f2 f3 f4 f5 W2 BX hs2
                  generalize w4.drew = w5 at *
                  have hne : (⟨h, 2, none⟩ : Addr) ≠ ⟨R + 1 + x, k, none⟩ := by intro e; injection e with e1 _ _; have := hRh.out; omega
                  go_wp2
                  go_roundw
                  case rel =>
                    refine ⟨j + 1, by omega, by go_num, (W5.out.set x k (z - u)).congr (fun p' t' _ _ => HS2.out p' t'), BX2.out.setCell (by show w.heap.size ≤ R + 1 + x; omega) _, ?_, by simpa using hs3⟩
                    rw [World.cell?_setCell_other _ _ _ _ hne.symm]; exact hcp3
                  case measure => simp [intOf]; omega
                · obtain rfl : j = n1 := by omega
                  have MP : Hid (MatIs wr R ps.length ts.length (mPost ts k 0)) := MJ.out.congr (fun p t _ _ => by rw [← HN1.out]; exact mPost_zero HA1.out p t)
                  clear MJ
                  obtain ⟨wq, rfl⟩ : ∃ wq, wq = wr := ⟨_, rfl⟩
                  go_wp2
                  go_loopw [68] (fun q wi => ∃ j : Nat, j ≤ n2 ∧ q = .int .i64 j ∧ Hid (MatIs wi R ps.length ts.length (mPost ts k j)) ∧ Hid (Below w.heap.size w wi) ∧ h < wi.heap.size) (fun q _ => n2 - (intOf q).toNat)
                  case atStart => exact ⟨0, by omega, rfl, MP, BJ, hhw⟩
                  case round =>
                    obtain ⟨j, hj, rfl, MJ, BJ, hhw⟩ := hrel
                    by_cases hlt3 : j < n2
                    · obtain ⟨b1, off1, rfl, hb1, e0, e1⟩ := RD2.out wr BJ.out j (by rw [HN2.out]; exact hlt3)
                      obtain ⟨hx0, hxm, _, hu1, hu2⟩ := arcsE_parts HA2.out j (by rw [HN2.out]; exact hlt3)
                      have HST := Lib.hid (mPost_step ts k j)
                      have HBD := Lib.hid (fun p => mPost_bd (p := p) HA1.out HA2.out (by rw [HN2.out]; omega) (by rw [HN2.out]; exact HZ2.out) (by rw [HN1.out]; exact HZ1.out))
                      obtain ⟨x, hx⟩ : ∃ x : Nat, aP (tA ts k).post.l j = x := ⟨(aP (tA ts k).post.l j).toNat, by omega⟩
                      have HS2 := Lib.hid (HST.out 0 x hx)
                      rw [hx] at e0 hxm
                      have hxP : x < ps.length := by omega
                      clear hx hx0 hxm HST
                      generalize hu : aW (tA ts k).post.l j = u at *
                      have zb := HBD.out x
                      have W1 : MatIs (wr.alloc (.cells #[.int .i64 x, .int .i64 u] 60)) R ps.length ts.length (mPost ts k j) := MJ.out.alloc _
                      have f1 := W1.1.cell hxP
                      have f2 := (W1.2 x hxP).cell hlt2
                      have f3 := (W1.2 x hxP).frozen k
                      have f4 : (wr.alloc (.cells #[.int .i64 x, .int .i64 u] 60)).cell? ⟨wr.heap.size, 0, none⟩ = some (.int .i64 x) := by simp
                      have f5 : (wr.alloc (.cells #[.int .i64 x, .int .i64 u] 60)).cell? ⟨wr.heap.size, 1, none⟩ = some (.int .i64 u) := by simp
                      have W2 := Lib.hid W1
                      have BX : Hid (Below w.heap.size w (wr.alloc (.cells #[.int .i64 x, .int .i64 u] 60))) := BJ.out.alloc BJ.out.size _
                      have hs2 : h < (wr.alloc (.cells #[.int .i64 x, .int .i64 u] 60)).heap.size := by rw [World.size_alloc]; omega
                      clear W1
                      go_wp2_with fail
                      generalize hz : mPost ts k j x k = z at *
                      have HZ := Lib.hid hz
                      clear hz HBD hu
                      generalize wr.alloc (.cells #[.int .i64 x, .int .i64 u] 60) = w4 at *
                      go_still_tail 12, (by kernel_rfl)
                      change wpList _ _ _ _ _ w4.drew
                      have W5 : Hid (MatIs w4.drew R ps.length ts.length (mPost ts k j)) := W2.out
                      have g2 : w4.drew.cell? ⟨R + 1 + x, k, none⟩ = some (.int .i64 z) := f2
                      have g3 : w4.drew.frozen? ⟨R + 1 + x, k, none⟩ = false := f3
                      have BX2 : Hid (Below w.heap.size w w4.drew) := BX.out.drew
                      have hs3 : h < w4.drew.heap.size := hs2
                      clear f1 f2 f3 f4 f5 W2 BX hs2
                      generalize w4.drew = w5 at *
                      have hne : (0 : Nat) = 0 := by rfl
                      go_wp2
                      go_roundw
                      case rel =>
                        refine ⟨j + 1, by omega, by go_num, (W5.out.set x k (z + u)).congr (fun p' t' _ _ => HS2.out p' t'), BX2.out.setCell (by show w.heap.size ≤ R + 1 + x; omega) _, by simpa using hs3⟩
                      case measure => simp [intOf]; omega
                    · obtain rfl : j = n2 := by omega
                      have ME : Hid (MatIs wr R ps.length ts.length (mK ts (k + 1))) := MJ.out.congr (fun p t _ _ => by rw [← HN2.out]; exact mPost_all HA2.out p t)
                      clear MJ
                      go_wp2
                      go_roundw
                      case rel => exact ⟨k + 1, by omega, by go_num, ME, BJ⟩
                      case measure => simp [intOf]; omega
            · obtain rfl : k = ts.length := by omega
              have ME : Hid (MatIs wr R ps.length ts.length (incD ts)) := MK.out.congr (fun p t _ ht => by unfold mK; rw [if_pos ht])
              clear MK
              go_wp2
              exact HQ3.out R _ BK.out (by omega) ME.out
    · have HQ2 : Hid (∀ w', Below w.heap.size w w' → QQ (.returned (.slice none 0 0)) w') := fun w' h => HQQ.out _ _ ⟨h, fun c => absurd c.2 hT, fun _ => rfl⟩
      have hx : ((ts.length : Int) == 0) = true := beq_iff_eq.2 (by omega)
      clear hv hPT HQQ
      go_enter Try.func31, Try.ntmps31
      go_wp2_with fail
      refine (CV.out _ B0.out).mono ?_
      rintro e w1 ⟨rfl, K⟩
      have c0w1 : w1.cell? ⟨w.heap.size, 0, none⟩ = some (.string nm) := by rw [K.cell (by simp)]; simp
      have c1w1 : w1.cell? ⟨w.heap.size, 1, none⟩ = some (.slice PA ps.length pc) := by rw [K.cell (by simp)]; simp
      have c2w1 : w1.cell? ⟨w.heap.size, 2, none⟩ = some (.slice TA ts.length tc) := by rw [K.cell (by simp)]; simp
      have K2 := Lib.hid (B0.out.trans (K.mono (by rw [World.size_alloc]; omega)))
      clear K
      go_wp2
      exact HQ2.out _ K2.out
end Go.Proofs.Ytaomgfmlnjdoaaa
