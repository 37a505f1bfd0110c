/- Runs of a net by weights: the initial marking and the maximum lie in memory of their own; the statistics of several runs. Runs of a net by weights: what the reference keeps. -/
import Derived.Test.YtpfkkjgklhcejaaSL
import Derived.Test.YtpfkkjgklhcejaaST
import Derived.Deep.AppendLies
namespace Go.Proofs.Ytpfkkjgklhcejaa
open Go.RowKit

theorem FreshG.row {w : World} {g k : Nat} {v : Value} {L : List Int} (h : w.ownsRow g 3 1 v k (L.map (Value.int .i64))) : ∃ A c, v = .slice A L.length c ∧ FreshG w g A L := by
  have e : k = L.length := by have := h.1; simpa using this.symm
  subst e
  exact FreshG.own h
set_option maxHeartbeats 4000000 in
set_option maxRecDepth 100000 in
theorem initialN_f (n : NetV)  (w : World) (hr : NetR w n)  :
    Calls Try.prog 24 #[.agg #[.string n.nm, .slice n.PA n.ps.length n.pc, .slice n.TA n.ts.length n.tc]] w (FIs w.heap.size w (initialN n)) := by
  have CV := fun W (hW : Below w.heap.size w W) => validN_any n W (hr.below hW (Nat.le_refl _))
  have RP := fun W (hW : Below w.heap.size w W) => (hr.below hW (Nat.le_refl _)).rp
  have RT := fun W (hW : Below w.heap.size w W) => (hr.below hW (Nat.le_refl _)).rt
  have hD : initialN n = if okN n = true then tab n.ps.length (iniF n.ps) else [] := rfl
  generalize initialN n = S at *
  obtain ⟨nm, PA, ps, pc, TA, ts, tc⟩ := n
  obtain ⟨hnm, ⟨hlp, hzp⟩, ⟨hlt, hzt⟩, hpc, htc, _, _⟩ := hr
  dsimp only at hnm hlp hzp hlt hzt hpc htc RP RT
  dsimp only at hD CV
  replace RP := Lib.hid RP
  replace RT := Lib.hid RT
  have HZT := Lib.hid hzt
  have HZP := Lib.hid hzp
  clear hzt hzp
  have B0 : Hid (Below w.heap.size w (w.alloc (.cells #[.string nm, .slice PA ps.length pc, .slice TA ts.length tc] 25))) := (Below.refl _ _).alloc (Nat.le_refl _) _
  obtain ⟨i0, hi, hz0, hz1, hz2⟩ := info_parts infoI
  have HI := Lib.hid hi
  have HZ0 := Lib.hid hz0
  have HZ1 := Lib.hid hz1
  have HZ2 := Lib.hid hz2
  clear hi hz0 hz1 hz2
  cases hv : okN ⟨nm, PA, ps, pc, TA, ts, tc⟩
  · rw [hv] at CV
    have E : Hid (([] : List Int) = S) := by show _ = _; rw [hD, hv]; rfl
    clear hD hv
    replace CV := Lib.hid CV
    go_enter Try.func24, Try.ntmps24
    go_wp2_with fail
    refine (CV.out _ B0.out).mono ?_
    rintro e w1 ⟨rfl, K⟩
    have K2 := Lib.hid (B0.out.trans (K.mono (by rw [World.size_alloc]; omega)))
    clear K
    go_wp2
    go_ret
    exact ⟨none, 0, by rw [← E.out]; rfl, by rw [← E.out]; exact FreshG.nil _ _ _, K2.out⟩
  · rw [hv] at CV
    have E : Hid (tab ps.length (iniF ps) = S) := by show _ = _; rw [hD, hv]; rfl
    clear hD hv
    replace CV := Lib.hid CV
    generalize hn : ps.length = n at *
    have HN := Lib.hid hn
    clear hn
    go_enter Try.func24, Try.ntmps24
    go_wp2_with fail
    refine (CV.out _ B0.out).mono ?_
    rintro e w1 ⟨rfl, K⟩
    have c0w1 : w1.cell? ⟨w.heap.size, 0, none⟩ = some (.string nm) := by rw [K.cell (by simp)]; simp
    have c1w1 : w1.cell? ⟨w.heap.size, 1, none⟩ = some (.slice PA n pc) := by rw [K.cell (by simp)]; simp
    have c2w1 : w1.cell? ⟨w.heap.size, 2, none⟩ = some (.slice TA ts.length tc) := by rw [K.cell (by simp)]; simp
    have K2 := Lib.hid (B0.out.trans (K.mono (by rw [World.size_alloc]; omega)))
    clear K
    have hs1 := K2.out.size
    go_wp2_with (at_make; refine wpList_make_full _ rfl _ _ 26 rfl w1.heap.size 3 i0 (.int .i64 0) 1 Try.underlying26 HI.out HZ0.out HZ1.out .i64 .i64 _ _ n rfl rfl rfl rfl (by rw [HZ2.out]; omega) (by unfold maxLen; omega) (Nat.le_refl _) ?_; intro w2 hown2 hgrow2; have d1 : w2.cell? ⟨w.heap.size, 1, none⟩ = some (.slice PA n pc) := (((Below.refl _ _).grown (B := w1.heap.size) hgrow2 (Nat.le_refl _) (fun _ h => by cases h)).cell (World.block_lt_of_cell? w1 ⟨w.heap.size, 1, none⟩ c1w1)).trans c1w1)
    have O2 : Hid (w2.ownsRow w1.heap.size 3 1 (.slice (some ⟨w1.heap.size, 0, none⟩) n n) n ((tab n fun j => if j < 0 then iniF ps j else 0).map (Value.int .i64))) := by
      show World.ownsRow _ _ _ _ _ _ _
      rw [tab_none]
      have h : w2.ownsRow w1.heap.size 3 1 (.slice (some ⟨w1.heap.size, 0, none⟩) n n) n (madeCells #[.int .i64 0] (n * 1)).toList := hown2
      rw [toList_madeCells_one, Nat.mul_one] at h
      have e : (tab n fun _ => 0).map (Value.int .i64) = List.replicate n (.int .i64 0) := by
        unfold tab
        rw [List.map_map]
        exact List.map_const'.trans (by rw [List.length_range])
      rw [e]
      exact h
    have B2 : Hid (Below w.heap.size w w2) := K2.out.grown hgrow2 hs1 (fun _ h => by cases h)
    clear hown2 hgrow2
    go_loopw [16] (fun q wr => ∃ k : Nat, k ≤ n ∧ q = .int .i64 k ∧ Hid (wr.ownsRow w1.heap.size 3 1 (.slice (some ⟨w1.heap.size, 0, none⟩) n n) n ((tab n fun j => if j < k then iniF ps j else 0).map (Value.int .i64))) ∧ Hid (Below w.heap.size w wr)) (fun q _ => n - (intOf q).toNat)
    case atStart => exact ⟨0, by omega, rfl, O2, B2⟩
    case round =>
      clear c0w1 c1w1 c2w1 d1 O2 B2
      obtain ⟨k, hk, rfl, O, BB⟩ := hrel
      by_cases hlt2 : k < n
      · obtain ⟨b0, off, rfl, hb0, d0, d1, d2⟩ := RP.out wr BB.out k (by rw [HN.out]; exact hlt2)
        have hz := own_cell O.out k (by rw [tab_len]; exact hlt2)
        have fx := O.out.frozenAt k
        have HS := Lib.hid (tab_set n k (iniF ps) (fun _ => 0))
        have HX : Hid ((pA ps k).ini = iniF ps k) := rfl
        generalize (pA ps k).nm = pn at *
        generalize (pA ps k).ini = x at *
        generalize (pA ps k).cap = y at *
        generalize at0 (tab n fun j => if j < k then iniF ps j else 0) k = z at hz
        have hw1 : w1.heap.size < wr.heap.size := World.block_lt_of_cell? wr ⟨w1.heap.size, k, none⟩ hz
        go_wp2
        go_roundw
        case rel => exact ⟨k + 1, by omega, by go_num, by show World.ownsRow _ _ _ _ _ _ _; rw [← HS.out, ← HX.out]; exact (own_put O.out k x).alloc _, (BB.out.setCell (p := ⟨w1.heap.size, k, none⟩) hs1 _).alloc (by simpa using BB.out.size) _⟩
        case measure => simp [intOf]; omega
      · obtain rfl : k = n := by omega
        rw [tab_all] at O
        obtain ⟨A2, c2, h1, h2⟩ := FreshG.row O.out
        have H2 := Lib.hid h2
        clear O h2
        rw [tab_len] at h1
        cases h1
        go_wp2
        go_ret
        exact ⟨_, _, by rw [← E.out, tab_len]; rfl, by rw [← E.out]; exact H2.out.mono hs1, BB.out⟩

set_option maxHeartbeats 4000000 in
set_option maxRecDepth 100000 in
theorem rinitialN_f (n : NetV)  (w : World) (hr : NetR w n)  :
    Calls Try.prog 19 #[.agg #[.string n.nm, .slice n.PA n.ps.length n.pc, .slice n.TA n.ts.length n.tc]] w (FIs w.heap.size w (initialN n)) := by
  have CV := fun W (hW : Below w.heap.size w W) => rvalidN_any n W (hr.below hW (Nat.le_refl _))
  have RP := fun W (hW : Below w.heap.size w W) => (hr.below hW (Nat.le_refl _)).rp
  have RT := fun W (hW : Below w.heap.size w W) => (hr.below hW (Nat.le_refl _)).rt
  have hD : initialN n = if okN n = true then tab n.ps.length (iniF n.ps) else [] := rfl
  generalize initialN n = S at *
  obtain ⟨nm, PA, ps, pc, TA, ts, tc⟩ := n
  obtain ⟨hnm, ⟨hlp, hzp⟩, ⟨hlt, hzt⟩, hpc, htc, _, _⟩ := hr
  dsimp only at hnm hlp hzp hlt hzt hpc htc RP RT
  dsimp only at hD CV
  replace RP := Lib.hid RP
  replace RT := Lib.hid RT
  have HZT := Lib.hid hzt
  have HZP := Lib.hid hzp
  clear hzt hzp
  have B0 : Hid (Below w.heap.size w (w.alloc (.cells #[.string nm, .slice PA ps.length pc, .slice TA ts.length tc] 25))) := (Below.refl _ _).alloc (Nat.le_refl _) _
  obtain ⟨i0, hi, hz0, hz1, hz2⟩ := info_parts infoI
  have HI := Lib.hid hi
  have HZ0 := Lib.hid hz0
  have HZ1 := Lib.hid hz1
  have HZ2 := Lib.hid hz2
  clear hi hz0 hz1 hz2
  cases hv : okN ⟨nm, PA, ps, pc, TA, ts, tc⟩
  · rw [hv] at CV
    have E : Hid (([] : List Int) = S) := by show _ = _; rw [hD, hv]; rfl
    clear hD hv
    replace CV := Lib.hid CV
    by_cases h0 : 0 < ps.length
    · have h0b : decide (0 < ps.length) = true := by simpa using h0
      go_enter Try.func19, Try.ntmps19
      go_wp2_with fail
      refine wp_loop_rounds 1 ?_
      rw [rounds_succ]
      go_wp2_with fail
      refine (CV.out _ B0.out).mono ?_
      rintro e w1 ⟨rfl, K⟩
      have K2 := Lib.hid (B0.out.trans (K.mono (by rw [World.size_alloc]; omega)))
      clear K
      go_wp2
      go_ret
      exact ⟨none, 0, by rw [← E.out]; rfl, by rw [← E.out]; exact FreshG.nil _ _ _, K2.out⟩
    · have h0b : decide (0 < ps.length) = false := by simpa using h0
      go_enter Try.func19, Try.ntmps19
      go_wp2_with fail
      refine wp_loop_rounds 1 ?_
      rw [rounds_succ]
      go_wp2
      go_ret
      exact ⟨none, 0, by rw [← E.out]; rfl, by rw [← E.out]; exact FreshG.nil _ _ _, B0.out⟩
  · rw [hv] at CV
    have E : Hid (tab ps.length (iniF ps) = S) := by show _ = _; rw [hD, hv]; rfl
    clear hD hv
    replace CV := Lib.hid CV
    generalize hg : w.heap.size = g at *
    have HG := Lib.hid hg
    clear hg
    go_enter Try.func19, Try.ntmps19
    go_wp2_with fail
    go_loopw [3, 4] (fun v q wr => ∃ k : Nat, k ≤ ps.length ∧ q = .int .i64 k ∧ Hid (wr.ownsRow (g + 1) 3 1 v k (vI (tab k (iniF ps)))) ∧ Hid (Below (g + 1) (w.alloc (.cells #[.string nm, .slice PA ps.length pc, .slice TA ts.length tc] 25)) wr)) (fun _ q _ => ps.length - (intOf q).toNat)
    case atStart => exact ⟨0, by omega, rfl, World.ownsRow_nil _ _ _ _, Below.refl _ _⟩
    case round =>
      obtain ⟨k, hk, rfl, O, HB0⟩ := hrel
      have HB : Hid (Below g w wr) := B0.out.trans (HB0.out.mono (Nat.le_succ _))
      have hsz := HB0.out.size
      rw [World.size_alloc, HG.out] at hsz
      have c0 : wr.cell? ⟨w.heap.size, 0, none⟩ = some (.string nm) := by rw [HB0.out.cell (by rw [← HG.out]; simp)]; simp
      have c1 : wr.cell? ⟨w.heap.size, 1, none⟩ = some (.slice PA ps.length pc) := by rw [HB0.out.cell (by rw [← HG.out]; simp)]; simp
      have c2 : wr.cell? ⟨w.heap.size, 2, none⟩ = some (.slice TA ts.length tc) := by rw [HB0.out.cell (by rw [← HG.out]; simp)]; simp
      by_cases hlt2 : k < ps.length
      · have ltb : decide (k < ps.length) = true := by simpa using hlt2
        go_wp2_with fail
        refine (CV.out _ HB.out).mono ?_
        rintro e w2 ⟨rfl, K⟩
        have HB2 : Hid (Below (g + 1) (w.alloc (.cells #[.string nm, .slice PA ps.length pc, .slice TA ts.length tc] 25)) w2) := HB0.out.trans (K.mono hsz)
        have O2 : Hid (w2.ownsRow (g + 1) 3 1 u3 k (vI (tab k (iniF ps)))) := own_below O.out K (Nat.le_refl _)
        clear K c0 c1 c2 HB0 HB O
        have HB : Hid (Below g w w2) := B0.out.trans (HB2.out.mono (Nat.le_succ _))
        have c1 : w2.cell? ⟨w.heap.size, 1, none⟩ = some (.slice PA ps.length pc) := by rw [HB2.out.cell (by rw [← HG.out]; simp)]; simp
        have hs2 := HB2.out.size
        rw [World.size_alloc, HG.out] at hs2
        obtain ⟨b0, off, rfl, hb0, d0, d1, d2⟩ := RP.out w2 HB.out k hlt2
        have HE : Hid (tab (k + 1) (iniF ps) = tab k (iniF ps) ++ [(pA ps k).ini]) := tab_snoc k (iniF ps)
        generalize (pA ps k).ini = x at *
        have b1 : k + 1 ≤ maxLen := by unfold maxLen; omega
        have b2 : (k + 1) * 8 ≤ 140737488355328 := by omega
        have b3 : g + 1 ≤ (w2.alloc (.cells #[.int .i64 x] 3)).heap.size := by rw [World.size_alloc]; omega
        have b4 : Hid (∀ q, u3.ownBlock = some q → g + 1 ≤ q) := fun q e => (O2.out.lt q e).1
        have BA : Hid (Below (g + 1) (w.alloc (.cells #[.string nm, .slice (some ⟨b0, off, none⟩) ps.length pc, .slice TA ts.length tc] 25)) (w2.alloc (.cells #[.int .i64 x] 3))) := HB2.out.alloc hs2 _
        go_wp2_with (at_builtin; (refine wpList_append_own _ rfl (.tmp 16) (.tmp 23) 26 rfl (g + 1) 3 i0 (.int .i64 0) 1 8 Try.underlying26 HI.out HZ0.out HZ1.out HZ2.out rfl (by decide) u3 k _ rfl (O2.out.alloc _) ⟨w2.heap.size, 0, none⟩ 1 1 [.int .i64 x] rfl rfl (cell_one_new _ _ _) (one_cellI _) b1 b2 b3 ?_); intro v' w5 hown' hgrow _)
        have O5 : Hid (w5.ownsRow (g + 1) 3 1 v' (k + 1) (vI (tab (k + 1) (iniF ps)))) := by
          show World.ownsRow _ _ _ _ _ _ _
          rw [HE.out, vI_snoc]
          exact hown'
        have B5 := Lib.hid (BA.out.grown hgrow b3 b4.out)
        clear hown' hgrow
        go_wp2
        go_roundw
        case rel => exact ⟨k + 1, by omega, by go_num, O5, B5⟩
        case measure => simp [intOf]; omega
      · have ltb : decide (k < ps.length) = false := by simpa using hlt2
        obtain rfl : k = ps.length := by omega
        obtain ⟨A2, c2', h1, h2⟩ := FreshG.row O.out
        rw [E.out] at h1 h2
        have H2 := Lib.hid h2
        clear O h2
        subst h1
        go_wp2
        go_ret
        exact ⟨A2, c2', rfl, H2.out.mono (Nat.le_succ _), HB.out⟩
def maxL (a b : List Int) : List Int := if a.length = b.length then tab a.length fun k => max (at0 a k) (at0 b k) else []
theorem max1 (x y : Int) (w : World) : Calls Try.prog 53 #[.int .i64 x, .int .i64 y] w fun e w' => e = .returned (.int .i64 (max x y)) ∧ w = w' := by
  have hm : max (x : Int) (y : Int) = max x y := rfl
  generalize hz : max x y = z at *
  go_enter Try.func53, Try.ntmps53
  go_wp2
  go_ret
  exact ⟨rfl, rfl⟩
set_option maxHeartbeats 4000000 in
set_option maxRecDepth 100000 in
theorem comb_max_f (A B : Option Addr) (a b : List Int) (ca cb : Nat) (w : World) (ra : ReadsV w A a) (rb : ReadsV w B b) (hab : b.length = a.length) (hl : a.length * 8 ≤ 140737488351232) :
    Calls Try.prog 52 #[.slice A a.length ca, .slice B b.length cb, .func (.func 53) #[] #[]] w (FIs w.heap.size w (maxL a b)) := by
  have E : Hid (maxL a b = tab a.length fun k => max (at0 a k) (at0 b k)) := if_pos hab.symm
  have C := Lib.hid max1
  have RA := Lib.hid ra
  have RB := Lib.hid rb
  have HL := Lib.hid hab
  clear ra rb
  rw [hab]
  clear hab
  obtain ⟨i0, hi, hz0, hz1, hz2⟩ := info_parts infoI
  have HI := Lib.hid hi
  have HZ0 := Lib.hid hz0
  have HZ1 := Lib.hid hz1
  have HZ2 := Lib.hid hz2
  clear hi hz0 hz1 hz2
  generalize hn : a.length = n at *
  have HN := Lib.hid hn
  clear hn
  generalize hg : w.heap.size = g at *
  have HG := Lib.hid hg
  clear hg
  go_enter Try.func52, Try.ntmps52
  go_wp2_with (at_make; refine wpList_make_full _ rfl _ _ 26 rfl w.heap.size 3 i0 (.int .i64 0) 1 Try.underlying26 HI.out HZ0.out HZ1.out .i64 .i64 _ _ n rfl rfl rfl rfl (by rw [HZ2.out]; omega) (by unfold maxLen; omega) (Nat.le_refl _) ?_; intro w2 hown2 hgrow2)
  rw [HG.out] at hown2
  have O2 : Hid (w2.ownsRow g 3 1 (.slice (some ⟨g, 0, none⟩) n n) n ((tab n fun j => if j < 0 then max (at0 a j) (at0 b j) else 0).map (Value.int .i64))) := by
    show World.ownsRow _ _ _ _ _ _ _
    rw [tab_none]
    have h : w2.ownsRow g 3 1 (.slice (some ⟨g, 0, none⟩) n n) n (madeCells #[.int .i64 0] (n * 1)).toList := hown2
    rw [toList_madeCells_one, Nat.mul_one] at h
    have e : (tab n fun _ => 0).map (Value.int .i64) = List.replicate n (.int .i64 0) := by
      unfold tab
      rw [List.map_map]
      exact List.map_const'.trans (by rw [List.length_range])
    rw [e]
    exact h
  have B2 : Hid (Below g w w2) := (Below.refl g w).grown hgrow2 (by rw [HG.out]; exact Nat.le_refl _) (fun _ h => by cases h)
  clear hown2 hgrow2
  rw [HG.out]
  go_wp2_with fail
  go_loopw [19] (fun q wr => ∃ k : Nat, k ≤ n ∧ q = .int .i64 k ∧ Hid (wr.ownsRow g 3 1 (.slice (some ⟨g, 0, none⟩) n n) n ((tab n fun j => if j < k then max (at0 a j) (at0 b j) else 0).map (Value.int .i64))) ∧ Hid (Below g w wr)) (fun q _ => n - (intOf q).toNat)
  case atStart => exact ⟨0, by omega, rfl, O2, B2⟩
  case round =>
    obtain ⟨k, hk, rfl, O, BB⟩ := hrel
    by_cases hlt : k < n
    · obtain ⟨ba, oa, e1, lx, hx⟩ := RA.out k (by rw [HN.out]; exact hlt)
      subst e1
      rw [HG.out] at lx
      have hx := (BB.out.cell lx).trans hx
      obtain ⟨bb, ob, e2, ly, hy⟩ := RB.out k (by rw [HL.out]; exact hlt)
      subst e2
      rw [HG.out] at ly
      have hy := (BB.out.cell ly).trans hy
      have hz := own_cell O.out k (by rw [tab_len]; exact hlt)
      have fx := O.out.frozenAt k
      have HS := Lib.hid (tab_set n k (fun j => max (at0 a j) (at0 b j)) (fun _ => 0))
      generalize hxa : at0 a k = x at hx
      generalize hyb : at0 b k = y at hy
      generalize at0 (tab n fun j => if j < k then max (at0 a j) (at0 b j) else 0) k = z at hz
      have HX := Lib.hid hxa
      have HY := Lib.hid hyb
      clear hxa hyb
      have OD : Hid (wr.drew.ownsRow g 3 1 (.slice (some ⟨g, 0, none⟩) n n) n ((tab n fun j => if j < k then max (at0 a j) (at0 b j) else 0).map (Value.int .i64))) := own_below O.out (Below.refl _ _).drew (Nat.le_refl _)
      have BD : Hid (Below g w wr.drew) := BB.out.drew
      go_wp2_with fail
      have B7 : Hid (∀ v, Below g wr (wr.setCell ⟨g, k, none⟩ v).drew) := fun v => ((Below.refl g wr).setCell (p := ⟨g, k, none⟩) (Nat.le_refl _) v).drew
      have Z7 : Hid (∀ v, (wr.setCell ⟨g, k, none⟩ v).drew.cell? ⟨g, k, none⟩ = some v) := fun v => by
        show (wr.setCell ⟨g, k, none⟩ v).cell? ⟨g, k, none⟩ = some v
        exact World.cell?_setCell_same' _ _ _ (by rw [hz]; rfl)
      have F7 : Hid (∀ v, (wr.setCell ⟨g, k, none⟩ v).drew.frozen? ⟨g, k, none⟩ = false) := fun v => by
        show (wr.setCell ⟨g, k, none⟩ v).frozen? ⟨g, k, none⟩ = false
        rw [World.frozen?_setCell]; exact fx
      go_region_held3 (fun w' => w'.cell? ⟨ba, oa + k, none⟩ = some (.int .i64 x) ∧ w'.cell? ⟨bb, ob + k, none⟩ = some (.int .i64 y) ∧ (∃ z, w'.cell? ⟨g, k, none⟩ = some (.int .i64 z)) ∧ w'.frozen? ⟨g, k, none⟩ = false)
        (first
          | (go_keep; done)
          | exact ⟨((B7.out _).cell (p := ⟨ba, oa + k, none⟩) lx).trans hx, ((B7.out _).cell (p := ⟨bb, ob + k, none⟩) ly).trans hy, ⟨_, Z7.out _⟩, F7.out _⟩)
        ((go_at_call 53; refine (C.out _ _ _).mono ?_; rintro _ _ ⟨rfl, rfl⟩))
      rename_i hHeld
      clear hHeld B7 Z7 F7
      have O3 : Hid ((wr.setCell ⟨g, k, none⟩ (.int .i64 (max x y))).drew.ownsRow g 3 1 (.slice (some ⟨g, 0, none⟩) n n) n ((tab n fun j => if j < k + 1 then max (at0 a j) (at0 b j) else 0).map (Value.int .i64))) := by
        show World.ownsRow _ _ _ _ _ _ _
        rw [← HS.out, HX.out, HY.out]
        exact own_below (own_put O.out k _) (Below.refl _ _).drew (Nat.le_refl _)
      have B3 : Hid (Below g w (wr.setCell ⟨g, k, none⟩ (.int .i64 (max x y))).drew) := (BB.out.setCell (p := ⟨g, k, none⟩) (Nat.le_refl _) _).drew
      go_wp2
      go_roundw
      case rel => exact ⟨k + 1, by omega, by go_num, O3, B3⟩
      case measure => simp [intOf]; omega
    · obtain rfl : k = n := by omega
      have R2 : Hid (∃ A c, Value.slice (some ⟨g, 0, none⟩) k k = .slice A (maxL a b).length c ∧ FreshG wr g A (maxL a b)) := by
        have h := O.out
        rw [tab_all] at h
        rw [E.out]
        exact FreshG.row h
      obtain ⟨A2, c2, e, R3⟩ := R2.out
      replace R3 := Lib.hid R3
      replace e := Lib.hid e
      clear R2
      go_wp2
      go_ret
      exact ⟨A2, c2, congrArg Ending.returned e.out, R3.out, BB.out⟩
theorem max_f (A B : Option Addr) (a b : List Int) (ca cb : Nat) (w : World) (ra : ReadsV w A a) (rb : ReadsV w B b) (hl : a.length * 8 ≤ 140737488351232) :
    Calls Try.prog 33 #[.slice A a.length ca, .slice B b.length cb] w (FIs w.heap.size w (maxL a b)) := by
  have C : Calls Try.prog 52 #[.slice A a.length ca, .slice B b.length cb, .func (.func 53) #[] #[]] w (FIs w.heap.size w (maxL a b)) := by
    by_cases h : b.length = a.length
    · exact comb_max_f A B a b ca cb w ra rb h hl
    · have E : maxL a b = [] := if_neg (fun e => h e.symm)
      rw [E]
      have h2 : ((a.length : Int) != (b.length : Int)) = true := by simp; omega
      clear ra rb
      generalize a.length = n at *
      generalize b.length = m at *
      go_enter Try.func52, Try.ntmps52
      go_wp2
      go_ret
      exact ⟨none, 0, rfl, FreshG.nil _ _ _, Below.refl _ _⟩
  have C := Lib.hid C
  clear ra rb
  generalize maxL a b = L at *
  generalize a.length = n at *
  generalize b.length = m at *
  go_enter Try.func33, Try.ntmps33
  go_wp2_with fail
  refine C.out.mono ?_
  rintro e w1 ⟨A1, c1, rfl, R1, B1⟩
  go_wp2
  go_ret
  exact ⟨A1, c1, rfl, R1, B1⟩
set_option maxHeartbeats 4000000 in
set_option maxRecDepth 100000 in
theorem rmax_eq_f (A B : Option Addr) (a b : List Int) (ca cb : Nat) (w : World) (ra : ReadsV w A a) (rb : ReadsV w B b) (hab : b.length = a.length) (hl : a.length * 8 ≤ 140737488351232) :
    Calls Try.prog 22 #[.slice A a.length ca, .slice B b.length cb] w (FIs w.heap.size w (maxL a b)) := by
  have E : Hid (maxL a b = tab a.length fun k => max (at0 a k) (at0 b k)) := if_pos hab.symm
  have RA := Lib.hid ra
  have RB := Lib.hid rb
  have HL := Lib.hid hab
  clear ra rb
  rw [hab]
  clear hab
  obtain ⟨i0, hi, hz0, hz1, hz2⟩ := info_parts infoI
  have HI := Lib.hid hi
  have HZ0 := Lib.hid hz0
  have HZ1 := Lib.hid hz1
  have HZ2 := Lib.hid hz2
  clear hi hz0 hz1 hz2
  generalize hn : a.length = n at *
  have HN := Lib.hid hn
  clear hn
  generalize hg : w.heap.size = g at *
  have HG := Lib.hid hg
  clear hg
  go_enter Try.func22, Try.ntmps22
  go_wp2_with fail
  go_loopw [5, 6] (fun v q wr => ∃ k : Nat, k ≤ n ∧ q = .int .i64 k ∧ Hid (wr.ownsRow g 3 1 v k ((tab k fun j => max (at0 a j) (at0 b j)).map (Value.int .i64))) ∧ Hid (Below g w wr)) (fun _ q _ => n - (intOf q).toNat)
  case atStart => exact ⟨0, by omega, rfl, World.ownsRow_nil _ _ _ _, Below.refl _ _⟩
  case round =>
    obtain ⟨k, hk, rfl, O, B1⟩ := hrel
    by_cases hlt : k < n
    · have hs := B1.out.size
      rw [HG.out] at hs
      obtain ⟨ba, oa, e1, lx, hx⟩ := RA.out k (by rw [HN.out]; exact hlt)
      subst e1
      rw [HG.out] at lx
      have hx := (B1.out.cell lx).trans hx
      obtain ⟨bb, ob, e2, ly, hy⟩ := RB.out k (by rw [HL.out]; exact hlt)
      subst e2
      rw [HG.out] at ly
      have hy := (B1.out.cell ly).trans hy
      have HZ := Lib.hid (tab_snoc k fun j => max (at0 a j) (at0 b j))
      generalize hxa : at0 a k = x at *
      generalize hyb : at0 b k = y at *
      have b1 : k + 1 ≤ maxLen := by unfold maxLen; omega
      have b2 : (k + 1) * 8 ≤ 140737488355328 := by omega
      have b4 : Hid (∀ q, u5.ownBlock = some q → g ≤ q) := fun q e => (O.out.lt q e).1
      go_wp2_with fail
      have na : u5.ownBlock ≠ some ba := fun e => by have := b4.out _ e; omega
      have nb : u5.ownBlock ≠ some bb := fun e => by have := b4.out _ e; omega
      go_region_held3 (fun w' => w'.cell? ⟨ba, oa + k, none⟩ = some (.int .i64 x) ∧ w'.cell? ⟨bb, ob + k, none⟩ = some (.int .i64 y))
        (first
          | go_keep
          | (go_split_ands
             refine ⟨?_, ?_⟩
             · (rw [hgrow.cell_far _ (by simp; omega) (by first | exact na | exact na.symm)]; assumption)
             · (rw [hgrow.cell_far _ (by simp; omega) (by first | exact nb | exact nb.symm)]; assumption)))
        ((refine step_append_lies _ (by rfl) _ _ _ (by rfl) g 3 i0 _ 1 8 Try.underlying26 HI.out HZ0.out HZ1.out HZ2.out rfl (by omega) u5 k _ (by rfl) ((O.out.alloc _).drew)
            ⟨wr.heap.size, 0, none⟩ 1 1 [_] (by rfl) (by rfl) (World.news_of_block (cs := #[_]) (t := 3) (fr := (0, 0)) (heap_alloc_new wr _)) (by simp [Value.oneCell'])
            (by omega) b1 b2 (by simp; omega) (wr.heap.size + 1) (by simp) ?_; intro gg cap w5 hown' hgrow hat hlt2))
      rename_i hHeld
      clear hHeld
      have O5 : Hid (w5.ownsRow g 3 1 (.slice (some ⟨gg, 0, none⟩) (k + 1) cap) (k + 1) ((tab (k + 1) fun j => max (at0 a j) (at0 b j)).map (Value.int .i64))) := by
        show World.ownsRow _ _ _ _ _ _ _
        rw [HZ.out, List.map_append]
        exact hown'
      have B5 : Hid (Below g w w5) := ((B1.out.alloc hs _).drew).grown hgrow (by show g ≤ (World.alloc wr _).heap.size; rw [World.size_alloc]; omega) b4.out
      clear hown' hgrow
      go_wp2
      go_roundw
      case rel => exact ⟨k + 1, by omega, by go_num, O5, B5⟩
      case measure => simp [intOf]; omega
    · obtain rfl : k = n := by omega
      have R2 : Hid (∃ A c, u5 = .slice A (maxL a b).length c ∧ FreshG wr g A (maxL a b)) := by
        have h := O.out
        rw [E.out]
        exact FreshG.row h
      obtain ⟨A2, c2, e, R3⟩ := R2.out
      replace R3 := Lib.hid R3
      subst e
      clear R2 O
      generalize maxL a b = L at *
      go_wp2
      go_ret
      exact ⟨A2, c2, rfl, R3.out, B1.out⟩
theorem rmax_f (A B : Option Addr) (a b : List Int) (ca cb : Nat) (w : World) (ra : ReadsV w A a) (rb : ReadsV w B b) (hl : a.length * 8 ≤ 140737488351232) :
    Calls Try.prog 22 #[.slice A a.length ca, .slice B b.length cb] w (FIs w.heap.size w (maxL a b)) := by
  by_cases h : b.length = a.length
  · exact rmax_eq_f A B a b ca cb w ra rb h hl
  · have E : maxL a b = [] := if_neg (fun e => h e.symm)
    rw [E]
    have h2 : ((a.length : Int) != (b.length : Int)) = true := by simp; omega
    clear ra rb
    generalize a.length = n at *
    generalize b.length = m at *
    go_enter Try.func22, Try.ntmps22
    go_wp2
    go_ret
    exact ⟨none, 0, rfl, FreshG.nil _ _ _, Below.refl _ _⟩
end Go.Proofs.Ytpfkkjgklhcejaa

namespace Go.Proofs.Ytpfkkjgklhcejaa
open Go.RowKit

theorem blk_set {w : World} {b : Nat} {cs : Array Value} {t : TypeId} {fz : Nat × Nat} (h : w.heap[b]? = some (.cells cs t fz)) (i : Nat) (v : Value) : (w.setCell ⟨b, i, none⟩ v).heap[b]? = some (.cells (cs.setIfInBounds i v) t fz) := by
  simp [World.setCell, Array.getElem?_modify, h]
theorem cell_blk {w : World} {b : Nat} {cs : Array Value} {t : TypeId} {fz : Nat × Nat} (h : w.heap[b]? = some (.cells cs t fz)) (i : Nat) : w.cell? ⟨b, i, none⟩ = cs[i]? := by
  simp [World.cell?, h]
theorem frozen_blk {w : World} {b : Nat} {cs : Array Value} {t : TypeId} (h : w.heap[b]? = some (.cells cs t (0, 0))) (o : Nat) : w.frozen? ⟨b, o, none⟩ = false := by
  simp [World.frozen?, h]
theorem wpList_int_l {ops : Array Oper} {rest : List Oper} {o : Oper} {a : Act} {w : World} {Q : Exit → Act → World → Prop} (hgd : o.guard = none) (s x : Operand)
    (ho : o.op = .call { callee := .builtin .append, args := #[s, x], argTypes := #[26, 26] })
    (base : Nat) (v : Value) (zs : List Int) (z : Int) (hs : a.eval s = v) (hO : OwnI w base v zs) (g : Nat) (hx : a.eval x = .slice (some ⟨g, 0, none⟩) 1 1)
    (hc : w.cell? ⟨g, 0, none⟩ = some (.int .i64 z)) (hl : zs.length ≤ 17592186043904) (hbase : base ≤ w.heap.size)
    (h : ∀ g' c' w', OwnI w' base (.slice (some ⟨g', 0, none⟩) (zs.length + 1) c') (zs ++ [z]) → w.grownBy w' v.ownBlock → (v.ownBlock = some g' ∨ g' = w.heap.size) → wpList Try.prog ops Q rest (a.put o.dst (.slice (some ⟨g', 0, none⟩) (zs.length + 1) c')) w') : wpList Try.prog ops Q (o :: rest) a w := by
  obtain ⟨i, hi, hz, h1, h2⟩ := info_parts infoI
  refine wpList_append_lies _ hgd s x 26 ho base 3 i (.int .i64 0) 1 8 Try.underlying26 hi hz h1 h2 rfl (by decide) v zs.length (zs.map (Value.int .i64)) hs hO ⟨g, 0, none⟩ 1 1 [.int .i64 z] hx rfl ?_ ?_ (by decide) (by unfold maxLen; omega) (by omega) hbase _ rfl ?_
  · intro j u hj
    cases j with
    | zero => simp at hj; subst hj; simpa [Addr.add] using hc
    | succ j => simp at hj
  · intro u hu
    simp at hu
    subst hu
    simp [Value.oneCell']
  · intro g' c' w' hown hgrow hlies _
    refine h g' c' w' ?_ hgrow hlies
    unfold OwnI
    rw [List.map_append, List.length_append]
    exact hown
def Ge (g : Nat) (A : Option Addr) (L : List Int) : Prop := L ≠ [] → ∀ b off, A = some ⟨b, off, none⟩ → g ≤ b
def Apart (v : Value) (A : Option Addr) (L : List Int) : Prop := L ≠ [] → ∀ b off, A = some ⟨b, off, none⟩ → v.ownBlock ≠ some b
def resObj (v1 v2 : Value) (st : Nat) : Obj := .cells #[v1, v2, .int .u64 (st : Nat)] 42 (0, 0)
structure RI (n : NetV) (ws : List Int) (R : Option (Hist × Nat)) (g : Nat) (w0 : World) (z lb ob N : Nat) (m0 : List Int) (i : Nat) (h : Hist) (m : List Int) (st : Nat) (B : Option Addr) (v1 v2 : Value) (L : List Row) (wr : World) : Prop where
  sim : SimAt n ws R h (N - i) m st
  len : h.length = i
  good : goodN n m = true
  rd : ReadsV wr B m
  apm : Apart v1 B m
  blk : wr.heap[z]? = some (netObj n)
  res : wr.heap[z + 1]? = some (resObj (.slice none 0 0) (.slice none 0 0) 0)
  out : wr.heap[ob]? = some (resObj v1 v2 st)
  o1 : OwnI wr lb v1 (seqT h)
  o2 : OwnL wr lb v2 L
  rows : rowsL L = m0 :: marks h
  apl : ∀ r ∈ L, Apart v1 r.A r.zs
  low : Below g w0 wr
  ge : ∀ r ∈ L, Ge g r.A r.zs
variable {n : NetV} {ws : List Int} {R : Option (Hist × Nat)} {g : Nat} {w0 : World} {z lb ob N : Nat} {m0 : List Int} {i : Nat} {h : Hist} {m : List Int} {st : Nat} {B : Option Addr} {v1 v2 : Value} {L : List Row} {wr w' : World}
theorem RI.below (H : RI n ws R g w0 z lb ob N m0 i h m st B v1 v2 L wr) (hg : g ≤ wr.heap.size) (hb : Below wr.heap.size wr w') : RI n ws R g w0 z lb ob N m0 i h m st B v1 v2 L w' :=
  ⟨H.sim, H.len, H.good, H.rd.below hb (Nat.le_refl _), H.apm, (hb.block _ (Array.getElem?_eq_some_iff.1 H.blk).1).trans H.blk, (hb.block _ (Array.getElem?_eq_some_iff.1 H.res).1).trans H.res, (hb.block _ (Array.getElem?_eq_some_iff.1 H.out).1).trans H.out,
    own_of H.o1 (fun b e => hb.block _ (own_ge H.o1 e).2), H.o2.below hb (Nat.le_refl _), H.rows, H.apl, H.low.trans (hb.mono hg), H.ge⟩
theorem RI.q0 (H : RI n ws R g w0 z lb ob N m0 i h m st B v1 v2 L wr) : wr.cell? ⟨z, 0, none⟩ = some (.string n.nm) := cell_blk H.blk 0
theorem RI.q1 (H : RI n ws R g w0 z lb ob N m0 i h m st B v1 v2 L wr) : wr.cell? ⟨z, 1, none⟩ = some (.slice n.PA n.ps.length n.pc) := cell_blk H.blk 1
theorem RI.q2 (H : RI n ws R g w0 z lb ob N m0 i h m st B v1 v2 L wr) : wr.cell? ⟨z, 2, none⟩ = some (.slice n.TA n.ts.length n.tc) := cell_blk H.blk 2
/-- behind the first append -/
theorem ri_one (H : RI n ws R g w0 z lb ob N m0 i h m st B v1 v2 L wr) (st2 : Nat) (t : Int) {w5 : World} (hgr : ((wr.setCell ⟨ob, 2, none⟩ (.int .u64 (st2 : Nat))).alloc (.cells #[.int .i64 t] 3)).grownBy w5 v1.ownBlock) :
    w5.heap[ob]? = some (resObj v1 v2 st2) ∧ wr.heap.size + 1 ≤ w5.heap.size ∧ ∀ k, k < wr.heap.size → k ≠ ob → (∀ b, v1.ownBlock = some b → k ≠ b) → w5.heap[k]? = wr.heap[k]? := by
  have hA : (wr.setCell ⟨ob, 2, none⟩ (.int .u64 (st2 : Nat))).heap[ob]? = some (resObj v1 v2 st2) := blk_set H.out 2 _
  have hs : (wr.setCell ⟨ob, 2, none⟩ (.int .u64 (st2 : Nat))).heap.size = wr.heap.size := by simp
  have hob : ob < wr.heap.size := (Array.getElem?_eq_some_iff.1 H.out).1
  refine ⟨?_, by have := hgr.size; rw [World.size_alloc, hs] at this; exact this, fun k hk hne hno => ?_⟩
  · refine (hgr.block ob (by rw [World.size_alloc, hs]; omega) (fun e => ?_)).trans ((Deep.blk_alloc_lt _ _ _ (by rw [hs]; exact hob)).trans hA)
    obtain ⟨_, cur, hc⟩ := own_typed H.o1 e.symm
    exact blk_ne H.out hc (by decide) rfl
  · refine (hgr.block k (by rw [World.size_alloc, hs]; omega) (fun e => hno k e.symm rfl)).trans ((Deep.blk_alloc_lt _ _ _ (by rw [hs]; exact hk)).trans (Below.heap_setCell _ _ _ k hne))
/-- behind the first store: what the second append wants -/
theorem ri_two (H : RI n ws R g w0 z lb ob N m0 i h m st B v1 v2 L wr) (hlo : lb < ob) {st2 : Nat} {t : Int} {w5 : World} (hgr : ((wr.setCell ⟨ob, 2, none⟩ (.int .u64 (st2 : Nat))).alloc (.cells #[.int .i64 t] 3)).grownBy w5 v1.ownBlock) {u1 : Value}
    {B6 : Option Addr} {m2 : List Int} {c6 p : Nat} (hF : FreshG wr p B6 m2) (hp : ∀ b, v1.ownBlock = some b → b < p) (hm : m2.length ≤ 24) :
    (w5.setCell ⟨ob, 0, none⟩ u1).heap[ob]? = some (resObj u1 v2 st2) ∧ OwnL (w5.setCell ⟨ob, 0, none⟩ u1) lb v2 L ∧ FarR (w5.setCell ⟨ob, 0, none⟩ u1) lb ⟨B6, m2, c6⟩ := by
  obtain ⟨h1, h2, h3⟩ := ri_one H st2 t hgr
  have key : ∀ k, k < wr.heap.size → k ≠ ob → (∀ b, v1.ownBlock = some b → k ≠ b) → (w5.setCell ⟨ob, 0, none⟩ u1).heap[k]? = wr.heap[k]? := fun k hk hne hno => (Below.heap_setCell _ _ _ k hne).trans (h3 k hk hne hno)
  refine ⟨blk_set h1 0 _, H.o2.of (fun b e => ?_) (fun r hr hn b off e => ?_), ?_⟩
  · obtain ⟨_, cur, hc⟩ := own_typed H.o2.1 e
    exact key b (Array.getElem?_eq_some_iff.1 hc).1 (blk_ne hc H.out (by decide)) (fun b' e' => by
      obtain ⟨_, cur', hc'⟩ := own_typed H.o1 e'
      exact blk_ne hc hc' (by decide))
  · refine key b (block_reads (H.o2.2 r hr).1.1 hn e) ?_ (fun b' e' e2 => H.apl r hr hn b off e (by rw [e2]; exact e'))
    rcases (H.o2.2 r hr).2 hn b off e with h4 | ⟨cs, hc⟩
    · omega
    · exact blk_ne hc H.out (by decide)
  · have hk : m2 ≠ [] → ∀ b off, B6 = some ⟨b, off, none⟩ → (w5.setCell ⟨ob, 0, none⟩ u1).heap[b]? = wr.heap[b]? := fun hn b off e => by
      obtain ⟨h4, cs, hc⟩ := hF.2 hn b off e
      exact key b (block_reads hF.1 hn e) (blk_ne hc H.out (by decide)) (fun b' e' => by have := hp b' e'; omega)
    exact ⟨⟨reads_of hF.1 hk, by show m2.length ≤ 1000; omega⟩, fun hn b off e => .inr (by
      obtain ⟨_, cs, hc⟩ := hF.2 hn b off e
      exact ⟨cs, by rw [hk hn b off e]; exact hc⟩)⟩
/-- behind both -/
theorem ri_next (H : RI n ws R g w0 z lb ob N m0 i h m st B v1 v2 L wr) (hlo : lb < ob) (hgl : g ≤ lb) (hzo : z + 1 < ob) {st2 : Nat} {t : Nat} {w5 : World} (hgr : ((wr.setCell ⟨ob, 2, none⟩ (.int .u64 (st2 : Nat))).alloc (.cells #[.int .i64 (t : Int)] 3)).grownBy w5 v1.ownBlock)
    {g' c' : Nat} (ho : OwnI w5 lb (.slice (some ⟨g', 0, none⟩) ((seqT h).length + 1) c') (seqT h ++ [(t : Int)])) (hl : v1.ownBlock = some g' ∨ g' = ((wr.setCell ⟨ob, 2, none⟩ (.int .u64 (st2 : Nat))).alloc (.cells #[.int .i64 (t : Int)] 3)).heap.size)
    {B6 : Option Addr} {m2 : List Int} {c6 p : Nat} (hF : FreshG wr p B6 m2) (hgp : g ≤ p) (hp : ∀ b, v1.ownBlock = some b → b < p) (hm : m2.length ≤ 24) (hgood : goodN n m2 = true) (hsim : SimAt n ws R (h ++ [(t, m2)]) (N - (i + 1)) m2 st2)
    {w8 : World} {u2 : Value} (hgr2 : ((w5.setCell ⟨ob, 0, none⟩ (.slice (some ⟨g', 0, none⟩) ((seqT h).length + 1) c')).alloc (.cells #[.slice B6 m2.length c6] 26)).grownBy w8 v2.ownBlock) (ho2 : OwnL w8 lb u2 (L ++ [⟨B6, m2, c6⟩])) :
    w8.heap[ob]? = some (resObj (.slice (some ⟨g', 0, none⟩) ((seqT h).length + 1) c') v2 st2) ∧ RI n ws R g w0 z lb ob N m0 (i + 1) (h ++ [(t, m2)]) m2 st2 B6 (.slice (some ⟨g', 0, none⟩) ((seqT h).length + 1) c') u2 (L ++ [⟨B6, m2, c6⟩]) (w8.setCell ⟨ob, 1, none⟩ u2) := by
  obtain ⟨h1, h2, h3⟩ := ri_one H st2 t hgr
  obtain ⟨k1, k2, k3⟩ := ri_two (u1 := .slice (some ⟨g', 0, none⟩) ((seqT h).length + 1) c') (c6 := c6) H hlo hgr hF hp hm
  have hob : ob < wr.heap.size := (Array.getElem?_eq_some_iff.1 H.out).1
  obtain ⟨wC, hwC⟩ : ∃ wC, wC = w5.setCell ⟨ob, 0, none⟩ (.slice (some ⟨g', 0, none⟩) ((seqT h).length + 1) c') := ⟨_, rfl⟩
  have hsC : wC.heap.size = w5.heap.size := by rw [hwC]; simp
  have hC : ∀ k, k ≠ ob → wC.heap[k]? = w5.heap[k]? := fun k hk => by rw [hwC]; exact Below.heap_setCell _ _ _ k hk
  have lowC : Below g w0 wC := by
    rw [hwC]
    exact (((H.low.setCell (p := ⟨ob, 2, none⟩) (by show g ≤ ob; omega) _).alloc (by simp; omega) _).grown hgr (by rw [World.size_alloc]; simp; omega) (fun b e => by have := (own_typed H.o1 e).1; omega)).setCell (p := ⟨ob, 0, none⟩) (by show g ≤ ob; omega) _
  rw [← hwC] at hgr2 k1 k2 k3
  have D : ∀ k, k < wC.heap.size → (∀ b, v2.ownBlock = some b → k ≠ b) → w8.heap[k]? = wC.heap[k]? := fun k hk hno => (hgr2.block k (by rw [World.size_alloc]; omega) (fun e => hno k e.symm rfl)).trans (Deep.blk_alloc_lt _ _ _ hk)
  have D2 : ∀ k cc t' fz, k < wC.heap.size → wC.heap[k]? = some (.cells cc t' fz) → t' ≠ 26 → w8.heap[k]? = wC.heap[k]? := fun k cc t' fz hk hc ht => D k hk fun b e => by
    obtain ⟨_, cur, hc'⟩ := own_typed k2.1 e
    exact blk_ne hc hc' ht
  have E : ∀ k, k ≠ ob → (w8.setCell ⟨ob, 1, none⟩ u2).heap[k]? = w8.heap[k]? := fun k hk => Below.heap_setCell _ _ _ k hk
  have hobC : ob < wC.heap.size := by omega
  have O8 : w8.heap[ob]? = some (resObj (.slice (some ⟨g', 0, none⟩) ((seqT h).length + 1) c') v2 st2) := (D2 ob _ _ _ hobC k1 (by decide)).trans k1
  have key : ∀ k cc t' fz, k < wr.heap.size → wr.heap[k]? = some (.cells cc t' fz) → t' ≠ 26 → k ≠ ob → (∀ b, v1.ownBlock = some b → k ≠ b) → (w8.setCell ⟨ob, 1, none⟩ u2).heap[k]? = wr.heap[k]? := fun k cc t' fz hk hc ht hne hno => by
    have e1 := (hC k hne).trans (h3 k hk hne hno)
    exact (E k hne).trans ((D2 k cc t' fz (by omega) (e1.trans hc) ht).trans e1)
  have no1 : ∀ {k : Nat} {cc : Array Value} {t' : TypeId} {fz : Nat × Nat}, wr.heap[k]? = some (.cells cc t' fz) → t' ≠ 3 → ∀ b, v1.ownBlock = some b → k ≠ b := fun hc ht b e => by
    obtain ⟨_, cur, hc'⟩ := own_typed H.o1 e
    exact blk_ne hc hc' ht
  have m2k : m2 ≠ [] → ∀ b off, B6 = some ⟨b, off, none⟩ → b < wr.heap.size ∧ (w8.setCell ⟨ob, 1, none⟩ u2).heap[b]? = wr.heap[b]? := fun hn b off e => by
    obtain ⟨h4, cs, hc⟩ := hF.2 hn b off e
    exact ⟨block_reads hF.1 hn e, key b cs _ _ (block_reads hF.1 hn e) hc (by decide) (blk_ne hc H.out (by decide)) (fun b' e' => by have := hp b' e'; omega)⟩
  have hg'6 : ∀ b, b < wr.heap.size → (∀ b', v1.ownBlock = some b' → b ≠ b') → g' ≠ b := fun b hb hno e => by
    rcases hl with hl | hl
    · exact hno g' hl e.symm
    · rw [World.size_alloc] at hl
      simp at hl
      omega
  have ap2 : Apart (.slice (some ⟨g', 0, none⟩) ((seqT h).length + 1) c') B6 m2 := fun hn b off e e2 => by
    have e3 : g' = b := by simpa [Value.ownBlock] using e2
    exact hg'6 b (m2k hn b off e).1 (fun b' e' => by have := hp b' e'; have := (hF.2 hn b off e).1; omega) e3
  refine ⟨O8, ⟨hsim, by rw [List.length_append, H.len]; rfl, hgood, reads_of hF.1 (fun hn b off e => (m2k hn b off e).2), ap2, ?_, ?_, blk_set O8 1 _, ?_, ?_, ?_, ?_, ?_, ?_⟩⟩
  · exact (key z _ _ _ (Array.getElem?_eq_some_iff.1 H.blk).1 H.blk (by decide) (by omega) (no1 H.blk (by decide))).trans H.blk
  · exact (key (z + 1) _ _ _ (Array.getElem?_eq_some_iff.1 H.res).1 H.res (by decide) (by omega) (no1 H.res (by decide))).trans H.res
  · rw [seqT_snoc]
    refine own_of ho fun b e => ?_
    obtain ⟨_, cur, hc⟩ := own_typed ho e
    have hbo : b ≠ ob := blk_ne hc h1 (by decide)
    have e1 := hC b hbo
    exact (E b hbo).trans ((D2 b cur _ _ (by have := (Array.getElem?_eq_some_iff.1 hc).1; omega) (e1.trans hc) (by decide)).trans e1)
  · refine ho2.of (fun b e => ?_) (fun r hr hn b off e => ?_)
    · obtain ⟨_, cur, hc⟩ := own_typed ho2.1 e
      exact E b (blk_ne hc O8 (by decide))
    · refine E b ?_
      rcases (ho2.2 r hr).2 hn b off e with h4 | ⟨cs, hc⟩
      · omega
      · exact blk_ne hc O8 (by decide)
  · rw [rowsL_snoc, H.rows, marks_snoc]; rfl
  · intro r hr hn b off e e2
    rcases List.mem_append.1 hr with hr | hr
    · have e3 : g' = b := by simpa [Value.ownBlock] using e2
      exact hg'6 b (block_reads (H.o2.2 r hr).1.1 hn e) (fun b' e' e4 => H.apl r hr hn b off e (by rw [e4]; exact e')) e3
    · rw [List.mem_singleton.1 hr] at hn e
      exact ap2 hn b off e e2
  · have hb2 : ∀ b, v2.ownBlock = some b → g ≤ b := fun b e => by have := (own_typed k2.1 e).1; omega
    exact (((lowC.alloc (by omega) _).grown hgr2 (by rw [World.size_alloc]; omega) hb2).setCell (p := ⟨ob, 1, none⟩) (by show g ≤ ob; omega) _)
  · intro r hr
    rcases List.mem_append.1 hr with hr | hr
    · exact H.ge r hr
    · rw [List.mem_singleton.1 hr]
      exact fun hn b off e => Nat.le_trans hgp (hF.2 hn b off e).1
end Go.Proofs.Ytpfkkjgklhcejaa
