/- The initial marking; plain and ordinary nets. -/
import Derived.Test.YtpfkkjgklhcejaaR
import Derived.StillTailTactics
namespace Go.Proofs.Ytpfkkjgklhcejaa
open Go.RowKit


set_option maxHeartbeats 4000000 in
set_option maxRecDepth 100000 in
theorem initialN_any (n : NetV)  (w : World) (hr : NetR w n)  :
    Calls Try.prog 24 #[.agg #[.string n.nm, .slice n.PA n.ps.length n.pc, .slice n.TA n.ts.length n.tc]] w (IsPost w.heap.size w (initialN n)) := by
  have CV := fun W (hW : Below w.heap.size w W) => validN_any n W (hr.below hW (Nat.le_refl _))
  have RP := fun W (hW : Below w.heap.size w W) => (hr.below hW (Nat.le_refl _)).rp
  have RT := fun W (hW : Below w.heap.size w W) => (hr.below hW (Nat.le_refl _)).rt
  have hD : initialN n = if okN n = true then tab n.ps.length (iniF n.ps) else [] := rfl
  generalize initialN n = S at *
  obtain ⟨nm, PA, ps, pc, TA, ts, tc⟩ := n
  obtain ⟨hnm, ⟨hlp, hzp⟩, ⟨hlt, hzt⟩, hpc, htc, _, _⟩ := hr
  dsimp only at hnm hlp hzp hlt hzt hpc htc RP RT
  dsimp only at hD CV
  replace RP := Lib.hid RP
  replace RT := Lib.hid RT
  have HZT := Lib.hid hzt
  have HZP := Lib.hid hzp
  clear hzt hzp
  have B0 : Hid (Below w.heap.size w (w.alloc (.cells #[.string nm, .slice PA ps.length pc, .slice TA ts.length tc] 25))) := (Below.refl _ _).alloc (Nat.le_refl _) _
  obtain ⟨i0, hi, hz0, hz1, hz2⟩ := info_parts infoI
  have HI := Lib.hid hi
  have HZ0 := Lib.hid hz0
  have HZ1 := Lib.hid hz1
  have HZ2 := Lib.hid hz2
  clear hi hz0 hz1 hz2
  cases hv : okN ⟨nm, PA, ps, pc, TA, ts, tc⟩
  · rw [hv] at CV
    have E : Hid (([] : List Int) = S) := by show _ = _; rw [hD, hv]; rfl
    clear hD hv
    replace CV := Lib.hid CV
    go_enter Try.func24, Try.ntmps24
    go_wp2_with fail
    refine (CV.out _ B0.out).mono ?_
    rintro e w1 ⟨rfl, K⟩
    have K2 := Lib.hid (B0.out.trans (K.mono (by rw [World.size_alloc]; omega)))
    clear K
    go_wp2
    go_ret
    exact ⟨none, 0, by rw [← E.out]; rfl, by rw [← E.out]; exact ReadsV.nil _ _, K2.out⟩
  · rw [hv] at CV
    have E : Hid (tab ps.length (iniF ps) = S) := by show _ = _; rw [hD, hv]; rfl
    clear hD hv
    replace CV := Lib.hid CV
    generalize hn : ps.length = n at *
    have HN := Lib.hid hn
    clear hn
    go_enter Try.func24, Try.ntmps24
    go_wp2_with fail
    refine (CV.out _ B0.out).mono ?_
    rintro e w1 ⟨rfl, K⟩
    have c0w1 : w1.cell? ⟨w.heap.size, 0, none⟩ = some (.string nm) := by rw [K.cell (by simp)]; simp
    have c1w1 : w1.cell? ⟨w.heap.size, 1, none⟩ = some (.slice PA n pc) := by rw [K.cell (by simp)]; simp
    have c2w1 : w1.cell? ⟨w.heap.size, 2, none⟩ = some (.slice TA ts.length tc) := by rw [K.cell (by simp)]; simp
    have K2 := Lib.hid (B0.out.trans (K.mono (by rw [World.size_alloc]; omega)))
    clear K
    have hs1 := K2.out.size
    go_wp2_with (at_make; refine wpList_make_full _ rfl _ _ 26 rfl w1.heap.size 3 i0 (.int .i64 0) 1 Try.underlying26 HI.out HZ0.out HZ1.out .i64 .i64 _ _ n rfl rfl rfl rfl (by rw [HZ2.out]; omega) (by unfold maxLen; omega) (Nat.le_refl _) ?_; intro w2 hown2 hgrow2; have d1 : w2.cell? ⟨w.heap.size, 1, none⟩ = some (.slice PA n pc) := (((Below.refl _ _).grown (B := w1.heap.size) hgrow2 (Nat.le_refl _) (fun _ h => by cases h)).cell (World.block_lt_of_cell? w1 ⟨w.heap.size, 1, none⟩ c1w1)).trans c1w1)
    have O2 : Hid (w2.ownsRow w1.heap.size 3 1 (.slice (some ⟨w1.heap.size, 0, none⟩) n n) n ((tab n fun j => if j < 0 then iniF ps j else 0).map (Value.int .i64))) := by
      show World.ownsRow _ _ _ _ _ _ _
      rw [tab_none]
      have h : w2.ownsRow w1.heap.size 3 1 (.slice (some ⟨w1.heap.size, 0, none⟩) n n) n (madeCells #[.int .i64 0] (n * 1)).toList := hown2
      rw [toList_madeCells_one, Nat.mul_one] at h
      have e : (tab n fun _ => 0).map (Value.int .i64) = List.replicate n (.int .i64 0) := by
        unfold tab
        rw [List.map_map]
        exact List.map_const'.trans (by rw [List.length_range])
      rw [e]
      exact h
    have B2 : Hid (Below w.heap.size w w2) := K2.out.grown hgrow2 hs1 (fun _ h => by cases h)
    clear hown2 hgrow2
    go_loopw [16] (fun q wr => ∃ k : Nat, k ≤ n ∧ q = .int .i64 k ∧ Hid (wr.ownsRow w1.heap.size 3 1 (.slice (some ⟨w1.heap.size, 0, none⟩) n n) n ((tab n fun j => if j < k then iniF ps j else 0).map (Value.int .i64))) ∧ Hid (Below w.heap.size w wr)) (fun q _ => n - (intOf q).toNat)
    case atStart => exact ⟨0, by omega, rfl, O2, B2⟩
    case round =>
      clear c0w1 c1w1 c2w1 d1 O2 B2
      obtain ⟨k, hk, rfl, O, BB⟩ := hrel
      by_cases hlt2 : k < n
      · obtain ⟨b0, off, rfl, hb0, d0, d1, d2⟩ := RP.out wr BB.out k (by rw [HN.out]; exact hlt2)
        have hz := own_cell O.out k (by rw [tab_len]; exact hlt2)
        have fx := O.out.frozenAt k
        have HS := Lib.hid (tab_set n k (iniF ps) (fun _ => 0))
        have HX : Hid ((pA ps k).ini = iniF ps k) := rfl
        generalize (pA ps k).nm = pn at *
        generalize (pA ps k).ini = x at *
        generalize (pA ps k).cap = y at *
        generalize at0 (tab n fun j => if j < k then iniF ps j else 0) k = z at hz
        have hw1 : w1.heap.size < wr.heap.size := World.block_lt_of_cell? wr ⟨w1.heap.size, k, none⟩ hz
        go_wp2
        go_roundw
        case rel => exact ⟨k + 1, by omega, by go_num, by show World.ownsRow _ _ _ _ _ _ _; rw [← HS.out, ← HX.out]; exact (own_put O.out k x).alloc _, (BB.out.setCell (p := ⟨w1.heap.size, k, none⟩) hs1 _).alloc (by simpa using BB.out.size) _⟩
        case measure => simp [intOf]; omega
      · obtain rfl : k = n := by omega
        rw [tab_all] at O
        obtain ⟨A2, c2, h1, h2⟩ := ReadsV.own O.out
        have H2 := Lib.hid h2
        clear O h2
        rw [tab_len] at h1
        cases h1
        go_wp2
        go_ret
        exact ⟨_, _, by rw [← E.out, tab_len]; rfl, by rw [← E.out]; exact H2.out, BB.out⟩

set_option maxHeartbeats 4000000 in
set_option maxRecDepth 100000 in
theorem rinitialN_any (n : NetV)  (w : World) (hr : NetR w n)  :
    Calls Try.prog 19 #[.agg #[.string n.nm, .slice n.PA n.ps.length n.pc, .slice n.TA n.ts.length n.tc]] w (IsPost w.heap.size w (initialN n)) := by
  have CV := fun W (hW : Below w.heap.size w W) => rvalidN_any n W (hr.below hW (Nat.le_refl _))
  have RP := fun W (hW : Below w.heap.size w W) => (hr.below hW (Nat.le_refl _)).rp
  have RT := fun W (hW : Below w.heap.size w W) => (hr.below hW (Nat.le_refl _)).rt
  have hD : initialN n = if okN n = true then tab n.ps.length (iniF n.ps) else [] := rfl
  generalize initialN n = S at *
  obtain ⟨nm, PA, ps, pc, TA, ts, tc⟩ := n
  obtain ⟨hnm, ⟨hlp, hzp⟩, ⟨hlt, hzt⟩, hpc, htc, _, _⟩ := hr
  dsimp only at hnm hlp hzp hlt hzt hpc htc RP RT
  dsimp only at hD CV
  replace RP := Lib.hid RP
  replace RT := Lib.hid RT
  have HZT := Lib.hid hzt
  have HZP := Lib.hid hzp
  clear hzt hzp
  have B0 : Hid (Below w.heap.size w (w.alloc (.cells #[.string nm, .slice PA ps.length pc, .slice TA ts.length tc] 25))) := (Below.refl _ _).alloc (Nat.le_refl _) _
  obtain ⟨i0, hi, hz0, hz1, hz2⟩ := info_parts infoI
  have HI := Lib.hid hi
  have HZ0 := Lib.hid hz0
  have HZ1 := Lib.hid hz1
  have HZ2 := Lib.hid hz2
  clear hi hz0 hz1 hz2
  cases hv : okN ⟨nm, PA, ps, pc, TA, ts, tc⟩
  · rw [hv] at CV
    have E : Hid (([] : List Int) = S) := by show _ = _; rw [hD, hv]; rfl
    clear hD hv
    replace CV := Lib.hid CV
    by_cases h0 : 0 < ps.length
    · have h0b : decide (0 < ps.length) = true := by simpa using h0
      go_enter Try.func19, Try.ntmps19
      go_wp2_with fail
      refine wp_loop_rounds 1 ?_
      rw [rounds_succ]
      go_wp2_with fail
      refine (CV.out _ B0.out).mono ?_
      rintro e w1 ⟨rfl, K⟩
      have K2 := Lib.hid (B0.out.trans (K.mono (by rw [World.size_alloc]; omega)))
      clear K
      go_wp2
      go_ret
      exact ⟨none, 0, by rw [← E.out]; rfl, by rw [← E.out]; exact ReadsV.nil _ _, K2.out⟩
    · have h0b : decide (0 < ps.length) = false := by simpa using h0
      go_enter Try.func19, Try.ntmps19
      go_wp2_with fail
      refine wp_loop_rounds 1 ?_
      rw [rounds_succ]
      go_wp2
      go_ret
      exact ⟨none, 0, by rw [← E.out]; rfl, by rw [← E.out]; exact ReadsV.nil _ _, B0.out⟩
  · rw [hv] at CV
    have E : Hid (tab ps.length (iniF ps) = S) := by show _ = _; rw [hD, hv]; rfl
    clear hD hv
    replace CV := Lib.hid CV
    generalize hg : w.heap.size = g at *
    have HG := Lib.hid hg
    clear hg
    go_enter Try.func19, Try.ntmps19
    go_wp2_with fail
    go_loopw [3, 4] (fun v q wr => ∃ k : Nat, k ≤ ps.length ∧ q = .int .i64 k ∧ Hid (wr.ownsRow (g + 1) 3 1 v k (vI (tab k (iniF ps)))) ∧ Hid (Below (g + 1) (w.alloc (.cells #[.string nm, .slice PA ps.length pc, .slice TA ts.length tc] 25)) wr)) (fun _ q _ => ps.length - (intOf q).toNat)
    case atStart => exact ⟨0, by omega, rfl, World.ownsRow_nil _ _ _ _, Below.refl _ _⟩
    case round =>
      obtain ⟨k, hk, rfl, O, HB0⟩ := hrel
      have HB : Hid (Below g w wr) := B0.out.trans (HB0.out.mono (Nat.le_succ _))
      have hsz := HB0.out.size
      rw [World.size_alloc, HG.out] at hsz
      have c0 : wr.cell? ⟨w.heap.size, 0, none⟩ = some (.string nm) := by rw [HB0.out.cell (by rw [← HG.out]; simp)]; simp
      have c1 : wr.cell? ⟨w.heap.size, 1, none⟩ = some (.slice PA ps.length pc) := by rw [HB0.out.cell (by rw [← HG.out]; simp)]; simp
      have c2 : wr.cell? ⟨w.heap.size, 2, none⟩ = some (.slice TA ts.length tc) := by rw [HB0.out.cell (by rw [← HG.out]; simp)]; simp
      by_cases hlt2 : k < ps.length
      · have ltb : decide (k < ps.length) = true := by simpa using hlt2
        go_wp2_with fail
        refine (CV.out _ HB.out).mono ?_
        rintro e w2 ⟨rfl, K⟩
        have HB2 : Hid (Below (g + 1) (w.alloc (.cells #[.string nm, .slice PA ps.length pc, .slice TA ts.length tc] 25)) w2) := HB0.out.trans (K.mono hsz)
        have O2 : Hid (w2.ownsRow (g + 1) 3 1 u3 k (vI (tab k (iniF ps)))) := own_below O.out K (Nat.le_refl _)
        clear K c0 c1 c2 HB0 HB O
        have HB : Hid (Below g w w2) := B0.out.trans (HB2.out.mono (Nat.le_succ _))
        have c1 : w2.cell? ⟨w.heap.size, 1, none⟩ = some (.slice PA ps.length pc) := by rw [HB2.out.cell (by rw [← HG.out]; simp)]; simp
        have hs2 := HB2.out.size
        rw [World.size_alloc, HG.out] at hs2
        obtain ⟨b0, off, rfl, hb0, d0, d1, d2⟩ := RP.out w2 HB.out k hlt2
        have HE : Hid (tab (k + 1) (iniF ps) = tab k (iniF ps) ++ [(pA ps k).ini]) := tab_snoc k (iniF ps)
        generalize (pA ps k).ini = x at *
        have b1 : k + 1 ≤ maxLen := by unfold maxLen; omega
        have b2 : (k + 1) * 8 ≤ 140737488355328 := by omega
        have b3 : g + 1 ≤ (w2.alloc (.cells #[.int .i64 x] 3)).heap.size := by rw [World.size_alloc]; omega
        have b4 : Hid (∀ q, u3.ownBlock = some q → g + 1 ≤ q) := fun q e => (O2.out.lt q e).1
        have BA : Hid (Below (g + 1) (w.alloc (.cells #[.string nm, .slice (some ⟨b0, off, none⟩) ps.length pc, .slice TA ts.length tc] 25)) (w2.alloc (.cells #[.int .i64 x] 3))) := HB2.out.alloc hs2 _
        go_wp2_with (at_builtin; (refine wpList_append_own _ rfl (.tmp 16) (.tmp 23) 26 rfl (g + 1) 3 i0 (.int .i64 0) 1 8 Try.underlying26 HI.out HZ0.out HZ1.out HZ2.out rfl (by decide) u3 k _ rfl (O2.out.alloc _) ⟨w2.heap.size, 0, none⟩ 1 1 [.int .i64 x] rfl rfl (cell_one_new _ _ _) (one_cellI _) b1 b2 b3 ?_); intro v' w5 hown' hgrow _)
        have O5 : Hid (w5.ownsRow (g + 1) 3 1 v' (k + 1) (vI (tab (k + 1) (iniF ps)))) := by
          show World.ownsRow _ _ _ _ _ _ _
          rw [HE.out, vI_snoc]
          exact hown'
        have B5 := Lib.hid (BA.out.grown hgrow b3 b4.out)
        clear hown' hgrow
        go_wp2
        go_roundw
        case rel => exact ⟨k + 1, by omega, by go_num, O5, B5⟩
        case measure => simp [intOf]; omega
      · have ltb : decide (k < ps.length) = false := by simpa using hlt2
        obtain rfl : k = ps.length := by omega
        obtain ⟨A2, c2', h1, h2⟩ := ReadsV.own O.out
        rw [E.out] at h1 h2
        have H2 := Lib.hid h2
        clear O h2
        subst h1
        go_wp2
        go_ret
        exact ⟨A2, c2', rfl, H2.out, HB.out⟩
end Go.Proofs.Ytpfkkjgklhcejaa
