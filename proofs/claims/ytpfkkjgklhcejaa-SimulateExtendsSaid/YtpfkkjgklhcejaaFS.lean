/- Which transitions may fire: the reference. -/
import Derived.Test.YtpfkkjgklhcejaaFR
namespace Go.Proofs.Ytpfkkjgklhcejaa
open Go.RowKit


set_option maxHeartbeats 2000000 in
set_option maxRecDepth 100000 in
theorem good_any (n : NetV) (A : Option Addr) (m : List Int) (c : Nat) (w : World) (hr : NetR w n) (hm : ReadsV w A m) (hl : m.length ≤ 9223372036854775807) :
    Calls Try.prog 38 #[.agg #[.string n.nm, .slice n.PA n.ps.length n.pc, .slice n.TA n.ts.length n.tc], .slice A m.length c] w (VPost w.heap.size w (.bool (goodN n m))) := by
  have CK : Hid (∀ W, Below w.heap.size w W → Calls Try.prog 28 #[.agg #[.string n.nm, .slice n.PA n.ps.length n.pc, .slice n.TA n.ts.length n.tc]] W (FPost W.heap.size W (chkV n))) := fun W hW => rcheck_any n W (hr.below hW (Nat.le_refl _))
  have CV : Hid (∀ W, Below w.heap.size w W → Calls Try.prog 34 #[.slice A m.length c, .int .i64 n.ps.length] W (fun e w' => e = .returned (.bool (validL m n.ps.length)) ∧ Below W.heap.size W w')) := fun W hW => (rvalidn_law A m n.ps.length c W (hm.below hW (Nat.le_refl _)) hl).mono fun e w' h => ⟨h.1, by rw [← h.2]; exact Below.refl _ _⟩
  have B0 : Hid (Below w.heap.size w (w.alloc (.cells #[.string n.nm, .slice n.PA n.ps.length n.pc, .slice n.TA n.ts.length n.tc] 25))) := ((Below.refl _ _).alloc (Nat.le_refl _) _)
  have HD : goodN n m = (decide ((chkV n).1 = 0) && validL m n.ps.length) := rfl
  rw [HD]
  clear HD hr hm
  have hfd : ∀ (a b : Int) (w : World), (Instr.field 57 (.agg #[.int .i64 a, .int .i64 b]) 0).run Try.prog w = .ok (.int .i64 a) w := fun _ _ _ => by kernel_rfl
  generalize hcv : chkV n = cv at *
  obtain ⟨e0, e1⟩ := cv
  dsimp only at *
  clear hcv
  generalize validL m n.ps.length = vb at *
  by_cases h0 : e0 = 0
  · subst h0
    have z1 : decide ((0 : Int) = 0) = true := by simp
    rw [z1, Bool.true_and]
    clear z1
    go_enter Try.func38, Try.ntmps38
    go_wp2_with fail
    refine (CK.out _ B0.out).mono ?_
    rintro e w1 ⟨rfl, K⟩
    have b0_0 : w1.cell? ⟨w.heap.size, 0, none⟩ = some (.string n.nm) := by rw [K.cell (by simp [go_sem] <;> omega)]; simp [go_sem]
    have b0_1 : w1.cell? ⟨w.heap.size, 1, none⟩ = some (.slice n.PA n.ps.length n.pc) := by rw [K.cell (by simp [go_sem] <;> omega)]; simp [go_sem]
    have b0_2 : w1.cell? ⟨w.heap.size, 2, none⟩ = some (.slice n.TA n.ts.length n.tc) := by rw [K.cell (by simp [go_sem] <;> omega)]; simp [go_sem]
    have Bw1 := Lib.hid (B0.out.trans (K.mono (by simp [go_sem] <;> omega)))
    have hs1 : w.heap.size + 1 ≤ w1.heap.size := by have := K.size; (try simp [go_sem] at this); omega
    clear K
    go_wp2_with fail
    refine (CV.out _ Bw1.out).mono ?_
    rintro e w2 ⟨rfl, K⟩
    have b0_0 : w2.cell? ⟨w.heap.size, 0, none⟩ = some (.string n.nm) := by rw [K.cell (by show w.heap.size < _; omega)]; exact b0_0
    have b0_1 : w2.cell? ⟨w.heap.size, 1, none⟩ = some (.slice n.PA n.ps.length n.pc) := by rw [K.cell (by show w.heap.size < _; omega)]; exact b0_1
    have b0_2 : w2.cell? ⟨w.heap.size, 2, none⟩ = some (.slice n.TA n.ts.length n.tc) := by rw [K.cell (by show w.heap.size < _; omega)]; exact b0_2
    have Bw2 := Lib.hid (Bw1.out.trans (K.mono Bw1.out.size))
    have hs2 : w.heap.size + 1 ≤ w2.heap.size := by have := K.size; (try simp [go_sem] at this); omega
    clear K
    go_wp2
    go_ret
    exact ⟨rfl, Bw2.out⟩
  · have z1 : decide (e0 = 0) = false := by simpa using h0
    have z0 : (e0 == 0) = false := by simpa using h0
    rw [z1, Bool.false_and]
    clear h0 z1
    go_enter Try.func38, Try.ntmps38
    go_wp2_with fail
    refine (CK.out _ B0.out).mono ?_
    rintro e w1 ⟨rfl, K⟩
    have b0_0 : w1.cell? ⟨w.heap.size, 0, none⟩ = some (.string n.nm) := by rw [K.cell (by simp [go_sem] <;> omega)]; simp [go_sem]
    have b0_1 : w1.cell? ⟨w.heap.size, 1, none⟩ = some (.slice n.PA n.ps.length n.pc) := by rw [K.cell (by simp [go_sem] <;> omega)]; simp [go_sem]
    have b0_2 : w1.cell? ⟨w.heap.size, 2, none⟩ = some (.slice n.TA n.ts.length n.tc) := by rw [K.cell (by simp [go_sem] <;> omega)]; simp [go_sem]
    have Bw1 := Lib.hid (B0.out.trans (K.mono (by simp [go_sem] <;> omega)))
    have hs1 : w.heap.size + 1 ≤ w1.heap.size := by have := K.size; (try simp [go_sem] at this); omega
    clear K
    go_wp2
    go_ret
    exact ⟨rfl, Bw1.out⟩

theorem max_if (a b : Int) : (if a < b then b else a) = max a b := by split <;> omega
theorem at0_mem {L : List Int} {k : Nat} (h : k < L.length) : at0 L k ∈ L := by
  unfold at0
  rw [List.getElem?_eq_getElem h]
  exact List.getElem_mem h

set_option maxHeartbeats 2000000 in
set_option maxRecDepth 100000 in
theorem has_any (A : Option Addr) (L : List Int) (c : Nat) (x : Int) (w : World) (hr : ReadsV w A L) (hl : L.length ≤ 1000) :
    Calls Try.prog 54 #[.slice A L.length c, .int .i64 x] w (VPost w.heap.size w (.bool (decide (x ∈ L)))) := by
  have HY : Hid (∀ k, k < L.length → at0 L k = x → decide (x ∈ L) = true) := fun k hk h => decide_eq_true (by rw [← h]; exact at0_mem hk)
  have HN : Hid ((∀ k, k < L.length → at0 L k ≠ x) → decide (x ∈ L) = false) := fun h => decide_eq_false fun hx => by
    obtain ⟨k, hk, e⟩ := List.getElem_of_mem hx
    exact h k hk (by simp [at0, hk, e])
  generalize decide (x ∈ L) = S at *
  have HR := Lib.hid hr
  clear hr
  generalize hg : w.heap.size = g at *
  have HG := Lib.hid hg
  clear hg
  generalize hn : L.length = n at *
  have HL := Lib.hid hn
  clear hn
  go_enter Try.func54, Try.ntmps54
  go_wp2_with fail
  go_loopw [5] (fun q wr => ∃ k : Nat, k ≤ n ∧ q = .int .i64 k ∧ Hid (Below g w wr) ∧ Hid (∀ j, j < k → at0 L j ≠ x)) (fun q _ => n - (intOf q).toNat)
  case atStart => exact ⟨0, by omega, rfl, Below.refl _ _, fun j hj => absurd hj (by omega)⟩
  case round =>
    obtain ⟨k, hk, rfl, HB, HM⟩ := hrel
    by_cases hlt : k < n
    · obtain ⟨ba, oa, eA, hx⟩ := at_of_reads (HR.out.below HB.out (by rw [HG.out]; exact Nat.le_refl _)) k (by rw [HL.out]; exact hlt)
      subst eA
      have HYk := Lib.hid (HY.out k hlt)
      have HF : Hid (at0 L k ≠ x → ∀ j, j < k + 1 → at0 L j ≠ x) := fun h j hj => by
        by_cases e : j < k
        · exact HM.out j e
        · obtain rfl : j = k := by omega
          exact h
      clear HM
      generalize at0 L k = y at *
      by_cases hxy : y = x
      · subst hxy
        have E := Lib.hid (HYk.out rfl)
        clear HYk HF
        go_wp2_with fail
        (try go_quiet (fail))
        (try go_wp2)
        go_ret
        exact ⟨by rw [E.out]; rfl, by first | exact HB.out | exact below_drewN HB.out _⟩
      · have z1 : (y == x) = false := by simpa using hxy
        have GG := Lib.hid (HF.out hxy)
        clear HYk HF hxy
        go_wp2_with fail
        (try go_quiet (fail))
        (try go_wp2)
        go_roundw
        case rel => exact ⟨k + 1, by omega, by go_num, by first | exact HB | exact below_drewN HB.out _, GG⟩
        case measure => simp [intOf]; omega
    · have E := Lib.hid (HN.out (fun j hj => HM.out j (by omega)))
      clear HM
      go_wp2
      go_ret
      exact ⟨by rw [E.out]; rfl, HB.out⟩

theorem filt_step (f : Int → Bool) {L : List Int} {k : Nat} (hk : k < L.length) : (L.take (k + 1)).filter f = (L.take k).filter f ++ if f (at0 L k) = true then [at0 L k] else [] := by
  have e : at0 L k = L[k] := by simp [at0, hk]
  rw [List.take_succ_eq_append_getElem hk, List.filter_append, e]
  congr 1
  cases h : f L[k] <;> simp [h]
theorem pick_at (f : Nat → Bool) (n k : Nat) (hk : k < (pickI f n).length) : ∃ j : Nat, j < n ∧ at0 (pickI f n) k = (j : Int) := by
  have h := at0_mem hk
  rw [pickI_eq, List.mem_map] at h
  obtain ⟨j, hj, e⟩ := h
  exact ⟨j, List.mem_range.1 (List.mem_filter.1 hj).1, by rw [pickI_eq]; exact e.symm⟩
theorem OwnI.mono {w : World} {s t : Nat} {v : Value} {zs : List Int} (h : OwnI w s v zs) (ht : t ≤ s) : OwnI w t v zs := by
  refine ⟨h.1, ?_⟩
  rcases h.2 with h0 | ⟨g, cap, cur, h1, h2, h3⟩
  · exact .inl h0
  · exact .inr ⟨g, cap, cur, h1, by omega, h3⟩
def mostF (n : NetV) (m : List Int) (v : Int) : Bool := decide ((tA n.ts v.toNat).prio = mostK n m n.ts.length)

set_option maxHeartbeats 8000000 in
set_option maxRecDepth 100000 in
theorem fires_any (n : NetV) (A : Option Addr) (m : List Int) (c : Nat) (w : World) (hr : NetR w n) (hm : ReadsV w A m) (hok : goodN n m = true) :
    Calls Try.prog 29 #[.agg #[.string n.nm, .slice n.PA n.ps.length n.pc, .slice n.TA n.ts.length n.tc], .slice A m.length c] w (IsPost w.heap.size w (firesV n m)) := by
  have hokn : okN n = true := by unfold goodN at hok; rw [Bool.and_eq_true] at hok; exact hok.1
  have FF : Hid ((pickI (readyB n m) n.ts.length).filter (mostF n m) = firesV n m) := fires_filter hokn m
  have MF : Hid (∀ j : Nat, mostF n m (j : Int) = decide ((tA n.ts j).prio = mostK n m n.ts.length)) := fun j => by unfold mostF; rw [Int.toNat_natCast]
  have PB : Hid (∀ j, j < n.ts.length → 0 ≤ (tA n.ts j).prio ∧ (tA n.ts j).prio ≤ 9) := fun j hj => okN_prio hokn j hj
  have MS : Hid (∀ k, readyB n m k = true → mostK n m (k + 1) = max (mostK n m k) (tA n.ts k).prio) := fun k h => by rw [mostK, if_pos h]
  have MN : Hid (∀ k, readyB n m k = false → mostK n m (k + 1) = mostK n m k) := fun k h => by rw [mostK, if_neg (by rw [h]; simp)]
  have MB : Hid (∀ k, k ≤ n.ts.length → 0 ≤ mostK n m k ∧ mostK n m k ≤ 9) := fun k hk => by
    rcases mostK_at (n := n) (m := m) k with h | ⟨j, h1, h2, h3⟩
    · omega
    · have := okN_prio hokn j (by omega)
      omega
  have CR : Hid (∀ W t, Below w.heap.size w W → t < n.ts.length → Calls Try.prog 49 #[.agg #[.string n.nm, .slice n.PA n.ps.length n.pc, .slice n.TA n.ts.length n.tc], .slice A m.length c, .int .i64 (t : Nat)] W (VPost W.heap.size W (.bool (readyB n m t)))) := fun W t hW ht => ready_any n A m c t W (hr.below hW (Nat.le_refl _)) (hm.below hW (Nat.le_refl _)) hok ht
  have htl : n.ts.length ≤ 1000 := hr.okt.1
  have RT := Lib.hid hr.rt
  have M0 : Hid (mostK n m 0 = 0) := rfl
  clear hr hm hok hokn
  generalize firesV n m = R at *
  generalize readyB n m = rf at *
  generalize mostK n m = mk at *
  generalize mostF n m = mf at *
  obtain ⟨nm, PA, ps, pc, TA, ts, tc⟩ := n
  dsimp only at *
  generalize hpl : ps.length = pl at *
  generalize htn : ts.length = tl at *
  have HTN := Lib.hid htn
  clear hpl htn
  obtain ⟨g, hg⟩ : ∃ g, g = w.heap.size := ⟨_, rfl⟩
  have HG := Lib.hid hg
  have B0 : Hid (Below g w (w.alloc (.cells #[.string nm, .slice PA pl pc, .slice TA tl tc] 25))) := (Below.refl _ _).alloc (by rw [hg]; exact Nat.le_refl _) _
  have PL := Lib.hid (pickI_len rf)
  go_enter Try.func29, Try.ntmps29
  rw [← hg] at CR ⊢
  clear hg
  go_wp2_with fail
  have NBX : ∀ W, Below (w.heap.size + 1) (w.alloc (.cells #[.string nm, .slice PA pl pc, .slice TA tl tc] 25)) W → W.cell? ⟨w.heap.size, 0, none⟩ = some (.string nm) ∧ W.cell? ⟨w.heap.size, 1, none⟩ = some (.slice PA pl pc) ∧ W.cell? ⟨w.heap.size, 2, none⟩ = some (.slice TA tl tc) ∧ w.heap.size < W.heap.size := fun W hW =>
    ⟨by rw [hW.cell (by simp)]; simp, by rw [hW.cell (by simp)]; simp, by rw [hW.cell (by simp)]; simp, by have := hW.size; simp at this; omega⟩
  replace NBX := Lib.hid NBX
  go_loopw [5, 6, 7] (fun p v q wr => ∃ k : Nat, k ≤ tl ∧ q = .int .i64 k ∧ v = .int .i64 (mk k) ∧ Hid (OwnI wr (w.heap.size + 1) p (pickI rf k)) ∧ Hid (Below (w.heap.size + 1) (w.alloc (.cells #[.string nm, .slice PA pl pc, .slice TA tl tc] 25)) wr)) (fun _ _ q _ => tl - (intOf q).toNat)
  case atStart => exact ⟨0, by omega, rfl, by rw [M0.out], OwnI.nil _ _, Below.refl _ _⟩
  case round =>
    obtain ⟨k, hk, rfl, rfl, O, HB⟩ := hrel
    obtain ⟨e0, e1, e2, lz⟩ := NBX.out wr HB.out
    have BA : Hid (Below g w wr) := B0.out.trans (HB.out.mono (by rw [HG.out]; omega))
    have hsz : w.heap.size + 1 ≤ wr.heap.size := lz
    by_cases hlt : k < tl
    · obtain ⟨bt, ot, eT, hbt, _, _, _, _, f4, _, _, _⟩ := (RT.out.below BA.out (by rw [HG.out]; exact Nat.le_refl _)) k (by rw [HTN.out]; exact hlt)
      subst eT
      have C := CR.out wr k BA.out hlt
      have PY : Hid (rf k = true → pickI rf (k + 1) = pickI rf k ++ [(k : Int)]) := pickI_yes rf k
      have PN : Hid (rf k = false → pickI rf (k + 1) = pickI rf k) := pickI_no rf k
      have MYk := Lib.hid (MS.out k)
      have MNk := Lib.hid (MN.out k)
      have hpl := PL.out k
      have hmb := MB.out k hk
      have hpb := PB.out k hlt
      generalize hpk : (tA ts k).prio = pk at *
      have PK := Lib.hid hpk.symm
      clear hpk
      generalize rf k = b at *
      cases b
      · have PN2 := Lib.hid (PN.out rfl)
        have MN2 := Lib.hid (MNk.out rfl)
        clear PN PY MYk MNk
        replace C := Lib.hid C
        go_wp2_with fail
        refine C.out.mono ?_
        rintro e w3 ⟨rfl, K⟩
        have O3 : Hid (OwnI w3 (w.heap.size + 1) u5 (pickI rf (k + 1))) := by
          show OwnI _ _ _ _
          rw [PN2.out]
          exact O.out.below K (Nat.le_refl _)
        have B3 := Lib.hid (HB.out.trans (K.mono hsz))
        clear K C
        go_wp2
        go_roundw
        case rel => exact ⟨k + 1, by omega, by go_num, by rw [MN2.out], O3, B3⟩
        case measure => simp [intOf]; omega
      · have PY2 := Lib.hid (PY.out rfl)
        have MY2 := Lib.hid (MYk.out rfl)
        clear PN PY MYk MNk
        replace C := Lib.hid C
        go_wp2_with fail
        refine C.out.mono ?_
        rintro e w3 ⟨rfl, K⟩
        have O3 := Lib.hid (O.out.below K (Nat.le_refl _))
        have B3 := Lib.hid (HB.out.trans (K.mono hsz))
        have hs3 := Nat.le_trans hsz K.size
        have FC : Hid (∀ W, Below g w W → W.cell? ⟨bt, ot + k * 5 + 4, none⟩ = some (.int .i64 pk)) := fun W hW => by
          obtain ⟨b', o', e', _, _, _, _, _, f', _, _, _⟩ := (RT.out.below hW (by rw [HG.out]; exact Nat.le_refl _)) k (by rw [HTN.out]; exact hlt)
          injection e' with e'
          injection e' with h1 h2
          subst h1 h2
          rw [PK.out]
          exact f'
        clear K C O
        go_wp2_with (at_builtin; refine wpList_int rfl (.tmp 21) (.tmp 23) rfl (w.heap.size + 1) _ (pickI rf k) k rfl (O3.out.alloc _) _ rfl (cell_new1 _ _ _) (by omega) (size_le_alloc hs3 _) ?_; intro v' w5 hown' hb'; have O5 := Lib.hid hown'; have B5 := Lib.hid ((B3.out.alloc hs3 _).trans hb'); have e25 := (NBX.out w5 B5.out).2.2.1; have f45 := FC.out w5 (B0.out.trans (B5.out.mono (by rw [HG.out]; omega))); clear hown' hb')
        have O6 : Hid (OwnI w5 (w.heap.size + 1) v' (pickI rf (k + 1))) := by
          show OwnI _ _ _ _
          rw [PY2.out]
          exact O5.out
        clear O5
        go_roundw
        case rel => exact ⟨k + 1, by omega, by go_num, by rw [MY2.out, max_if], O6, B5⟩
        case measure => simp [intOf]; omega
    · obtain rfl : k = tl := by omega
      obtain ⟨A2, c2, eO, R2⟩ := ReadsV.own O.out
      subst eO
      have R2 := Lib.hid R2
      have hLb := PL.out k
      have PA2 : Hid (∀ i, i < (pickI rf k).length → ∃ j : Nat, j < k ∧ at0 (pickI rf k) i = (j : Int)) := fun i hi => pick_at rf k i hi
      have PS : Hid (∀ i, i < (pickI rf k).length → ((pickI rf k).take (i + 1)).filter mf = ((pickI rf k).take i).filter mf ++ if mf (at0 (pickI rf k) i) = true then [at0 (pickI rf k) i] else []) := fun i hi => filt_step mf hi
      have PF : Hid (((pickI rf k).take (pickI rf k).length).filter mf = R) := by
        show _ = _
        rw [List.take_length]
        exact FF.out
      have PT : Hid (∀ i, (((pickI rf k).take i).filter mf).length ≤ i) := fun i => Nat.le_trans (List.length_filter_le _ _) (by rw [List.length_take]; omega)
      obtain ⟨wq, rfl⟩ : ∃ wq, wq = wr := ⟨_, rfl⟩
      obtain ⟨s, hs⟩ : ∃ s, s = wq.heap.size := ⟨_, rfl⟩
      have HS := Lib.hid hs
      clear hs O FF
      generalize pickI rf k = L at *
      generalize hnl : L.length = nl at *
      have HNL := Lib.hid hnl
      clear hnl
      generalize mk k = mx at *
      go_wp2_with fail
      go_loopw [8, 9] (fun p q wr => ∃ i : Nat, i ≤ nl ∧ q = .int .i64 i ∧ Hid (OwnI wr s p ((L.take i).filter mf)) ∧ Hid (Below s wq wr)) (fun _ q _ => nl - (intOf q).toNat)
      case atStart => exact ⟨0, by omega, rfl, OwnI.nil _ _, Below.refl _ _⟩
      case round =>
        obtain ⟨i, hi, rfl, O, HB2⟩ := hrel
        have HBw : Hid (Below (w.heap.size + 1) (w.alloc (.cells #[.string nm, .slice PA pl pc, .slice TA k tc] 25)) wr) := HB.out.trans (HB2.out.mono (by rw [HS.out]; exact hsz))
        obtain ⟨e0, e1, e2, lz2⟩ := NBX.out wr HBw.out
        have BA2 : Hid (Below g w wr) := B0.out.trans (HBw.out.mono (by rw [HG.out]; omega))
        have hs2 := HB2.out.size
        rw [← HS.out] at hs2
        by_cases hlt2 : i < nl
        · obtain ⟨j, hj, ej⟩ := PA2.out i hlt2
          obtain ⟨bt, ot, eT, hbt, _, _, _, _, f4, _, _, _⟩ := (RT.out.below BA2.out (by rw [HG.out]; exact Nat.le_refl _)) j (by rw [HTN.out]; exact hj)
          subst eT
          obtain ⟨bl, ol, eL, fl⟩ := at_of_reads (R2.out.below HB2.out (by rw [HS.out]; exact Nat.le_refl _)) i (by rw [HNL.out]; exact hlt2)
          subst eL
          have PSi := Lib.hid (PS.out i hlt2)
          have MFj := Lib.hid (MF.out j)
          rw [ej] at PSi fl
          have EJ := Lib.hid ej
          clear ej
          have hpt := PT.out i
          have R2i : Hid (∀ W, Below s wq W → W.cell? ⟨bl, ol + i, none⟩ = some (.int .i64 (j : Int))) := fun W hW => by
            obtain ⟨b', o', e', f'⟩ := at_of_reads (R2.out.below hW (by rw [HS.out]; exact Nat.le_refl _)) i (by rw [HNL.out]; exact hlt2)
            injection e' with e'
            injection e' with h1 h2
            subst h1 h2
            rw [EJ.out] at f'
            exact f'
          generalize (tA ts j).prio = pj at *
          generalize mf (j : Int) = bf at *
          by_cases hp : pj = mx
          · subst hp
            have G : Hid ((L.take (i + 1)).filter mf = (L.take i).filter mf ++ [(j : Int)]) := by
              show _ = _
              rw [PSi.out, MFj.out, decide_eq_true rfl, if_pos rfl]
            have z1 : (pj == pj) = true := by simp
            clear PSi MFj
            go_wp2_with fail
            go_quiet (fail)
            have O3a : Hid (∀ nn, OwnI (wr.drewN nn) s u8 ((L.take i).filter mf)) := fun nn => O.out.below (below_drewN (Below.refl wr.heap.size wr) nn) (Nat.le_refl _)
            have B4a : Hid (∀ nn, Below s wq (wr.drewN nn)) := fun nn => below_drewN HB2.out nn
            clear O HB2 fl f4 e0 e1 e2 BA2 HBw lz2 hs2 hbt
            generalize hw4 : wr.drewN _ = w4
            have O3 : Hid (OwnI w4 s u8 ((L.take i).filter mf)) := by rw [← hw4]; exact O3a.out _
            have B4 : Hid (Below s wq w4) := by rw [← hw4]; exact B4a.out _
            clear hw4 O3a B4a
            have hs4 := B4.out.size
            rw [← HS.out] at hs4
            have fl4 := R2i.out w4 B4.out
            go_wp2_with (at_builtin; refine wpList_int rfl (.tmp 50) (.tmp 55) rfl s _ ((L.take i).filter mf) j rfl (O3.out.alloc _) _ rfl (cell_new1 _ _ _) (by omega) (size_le_alloc hs4 _) ?_; intro v' w5 hown' hb')
            have O5 : Hid (OwnI w5 s v' ((L.take (i + 1)).filter mf)) := by
              show OwnI _ _ _ _
              rw [G.out]
              exact hown'
            have B5 : Hid (Below s wq w5) := (B4.out.alloc hs4 _).trans hb'
            clear hown' hb'
            go_wp2
            go_roundw
            case rel => exact ⟨i + 1, by omega, by go_num, O5, B5⟩
            case measure => simp [intOf]; omega
          · have z1 : (pj == mx) = false := by simpa using hp
            have G : Hid ((L.take (i + 1)).filter mf = (L.take i).filter mf) := by
              show _ = _
              rw [PSi.out, MFj.out, decide_eq_false hp, if_neg (by simp), List.append_nil]
            clear PSi MFj hp
            go_wp2_with fail
            go_quiet (fail)
            go_wp2
            go_roundw
            case rel => exact ⟨i + 1, by omega, by go_num, by show OwnI _ _ _ _; rw [G.out]; exact O.out.below (below_drewN (Below.refl wr.heap.size wr) _) (Nat.le_refl _), below_drewN HB2.out _⟩
            case measure => simp [intOf]; omega
        · obtain rfl : i = nl := by omega
          rw [PF.out] at O
          go_wp2
          go_ret
          exact IsPost.own (OwnI.mono O.out (by rw [HS.out, HG.out]; omega)) BA2.out
end Go.Proofs.Ytpfkkjgklhcejaa
