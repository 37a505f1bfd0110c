/- The laws on maximal elements. -/
import Derived.Test.YtkjdgkndlfhhjaaDoorON
import Derived.Test.YtkjdgkndlfhhjaaDoorH
namespace Go.Proofs.YtkjdgkndlfhhjaaDoor
open Go.RowKit

theorem maximals_law (A : Option Addr) (L : List Row) (c : Nat) (w : World) (hr : ReadsL w A L) (hl : L.length ≤ maxLen) :
    Calls Tryd.prog 3 #[.slice A L.length c] w fun e w' => e = .returned (.bool true) ∧ Below w.heap.size w w' := by
  have CE : Hid (∀ W, Calls Tryd.prog 5 #[] W fun e w' => e = .returned (.bool true) ∧ Below W.heap.size W w') := example_any
  unfold maxLen at hl
  by_cases h : 60 < L.length
  · have h1 : decide ((60 : Int) < (L.length : Int)) = true := by simp; omega
    clear hr
    generalize L.length = n at *
    go_enter Tryd.func3, Tryd.ntmps3
    go_wp2_with fail
    refine (CE.out w).mono ?_
    rintro e w1 ⟨rfl, K⟩
    have B1 := Lib.hid K
    clear K
    go_wp2
    go_ret
    exact ⟨rfl, B1.out⟩
  · have h1 : decide ((60 : Int) < (L.length : Int)) = false := by simp; omega
    have HR : Hid (∀ W, Below w.heap.size w W → ReadsL W A L) := fun W hW => hr.below hW (Nat.le_refl _)
    clear hr
    have PM : Hid (∀ W, Below w.heap.size w W → Calls Tryd.prog 7 #[.slice A L.length c] W (MPost L.length W (maxO (rowsL L)))) := fun W hW => maximal_any A L c W (HR.out W hW) (by omega)
    have QM : Hid (∀ W, Below w.heap.size w W → Calls Tryd.prog 8 #[.slice A L.length c] W (MPost L.length W (maxO (rowsL L)))) := fun W hW => rmaximal_any A L c W (HR.out W hW) (by omega)
    have B0 : Hid (Below w.heap.size w w) := Below.refl _ _
    clear HR
    generalize hg : w.heap.size = g at *
    generalize maxO (rowsL L) = R at *
    generalize L.length = n at *
    have HG := Lib.hid hg
    clear hg
    go_enter Tryd.func3, Tryd.ntmps3
    go_wp2_with fail
    refine (PM.out w B0.out).mono ?_
    rintro e w1 ⟨Au, cu, Lu, rfl, Eu, Nu, Ru, K⟩
    have hs1 : g ≤ w.heap.size := by rw [HG.out]; exact Nat.le_refl _
    have B1 := Lib.hid (B0.out.trans (K.mono hs1))
    have Ru : Hid (∀ W, Below w1.heap.size w1 W → ReadsL W Au Lu) := fun W hW => Ru.below hW (Nat.le_refl _)
    have Eu := Lib.hid Eu
    have hs2 := B1.out.size
    rw [HG.out] at hs2
    clear K
    go_wp2_with fail
    refine (QM.out w1 B1.out).mono ?_
    rintro e w2 ⟨Av, cv, Lv, rfl, Ev, Nv, Rv, K⟩
    have B2 := Lib.hid (B1.out.trans (K.mono hs2))
    have D2 := Lib.hid K
    have Rv := Lib.hid Rv
    have hs3 := B2.out.size
    rw [HG.out] at hs3
    clear K
    have CL := lists_any Au Av Lu Lv cu cv w2 (Ru.out _ D2.out) (by omega) Rv.out (by omega)
    rw [sameR_of Eu.out Ev] at CL
    replace CL := Lib.hid CL
    clear Ev
    go_wp2_with fail
    refine CL.out.mono ?_
    rintro e w3 ⟨rfl, K⟩
    have B3 := Lib.hid (B2.out.trans (K.mono hs3))
    have hs4 := B3.out.size
    rw [HG.out] at hs4
    clear K CL
    go_wp2_with fail
    refine (CE.out w3).mono ?_
    rintro e w4 ⟨rfl, K⟩
    have B4 := Lib.hid (B3.out.trans (K.mono hs4))
    clear K
    go_wp2
    go_ret
    exact ⟨rfl, B4.out⟩

def orK (X : List Row) (x : List Int) (k : Nat) : Bool := (List.range k).any fun j => leqW x (rA X j).zs
theorem orK_succ (X : List Row) (x : List Int) (k : Nat) : orK X x (k + 1) = (orK X x k || leqW x (rA X k).zs) := by
  unfold orK
  rw [List.range_succ, List.any_append]
  simp
theorem orK_dom {l : List (List Int)} {X T : List Row} (hX : rowsL X = conO l) (hT : rowsL T = maxO l) {i : Nat} (hi : i < X.length) : orK T (rA X i).zs T.length = true := by
  have hm : (rA X i).zs ∈ conO l := by rw [← hX]; exact List.mem_map.2 ⟨_, rA_mem hi, rfl⟩
  obtain ⟨t, ht, hle⟩ := max_dom hm
  rw [← hT] at ht
  obtain ⟨j, hj, e⟩ := List.getElem_of_mem ht
  unfold orK
  rw [List.any_eq_true]
  refine ⟨j, List.mem_range.2 (by rw [← rowsL_len T]; exact hj), ?_⟩
  rw [← rA_get (L := T) (by rw [← rowsL_len T]; exact hj), e]
  exact hle
theorem max_ne {l : List (List Int)} {T : List Row} (hT : rowsL T = maxO l) {i k : Nat} (hi : i < T.length) (hk : k < T.length) (h : i ≠ k) : leqW (rA T i).zs (rA T k).zs = false := by
  cases e : leqW (rA T i).zs (rA T k).zs
  · rfl
  · have h1 : (rA T i).zs ∈ maxO l := by rw [← hT]; exact List.mem_map.2 ⟨_, rA_mem hi, rfl⟩
    have h2 : (rA T k).zs ∈ maxO l := by rw [← hT]; exact List.mem_map.2 ⟨_, rA_mem hk, rfl⟩
    have e2 := max_anti h1 h2 e
    have d := desc_max l
    rw [← hT] at d
    unfold Desc at d
    rw [List.pairwise_iff_getElem] at d
    have h3 : i < (rowsL T).length := by rw [rowsL_len]; exact hi
    have h4 : k < (rowsL T).length := by rw [rowsL_len]; exact hk
    rcases Nat.lt_or_ge i k with hlt | hge
    · have := d i k h3 h4 hlt
      rw [rA_get hi, rA_get hk, e2, cmpL_refl] at this
      omega
    · have := d k i h4 h3 (by omega)
      rw [rA_get hi, rA_get hk, e2, cmpL_refl] at this
      omega
theorem some_len {l : List (List Int)} {X T : List Row} (hX : rowsL X = conO l) (hT : rowsL T = maxO l) : (0 < T.length) ↔ (0 < X.length) := by
  have := max_some l
  rw [← hX, ← hT, rowsL_len, rowsL_len] at this
  exact this
set_option maxHeartbeats 8000000 in
set_option maxRecDepth 1000000 in
theorem dominates_law (A : Option Addr) (L : List Row) (c : Nat) (w : World) (hr : ReadsL w A L) (hl : L.length ≤ maxLen) :
    Calls Tryd.prog 4 #[.slice A L.length c] w fun e w' => e = .returned (.bool true) ∧ Below w.heap.size w w' := by
  have CE : Hid (∀ W, Calls Tryd.prog 5 #[] W fun e w' => e = .returned (.bool true) ∧ Below W.heap.size W w') := example_any
  unfold maxLen at hl
  by_cases h : 60 < L.length
  · have h1 : decide ((60 : Int) < (L.length : Int)) = true := by simp; omega
    clear hr
    generalize L.length = n at *
    go_enter Tryd.func4, Tryd.ntmps4
    go_wp2_with fail
    refine (CE.out w).mono ?_
    rintro e w1 ⟨rfl, K⟩
    have B1 := Lib.hid K
    clear K
    go_wp2
    go_ret
    exact ⟨rfl, B1.out⟩
  · have h1 : decide ((60 : Int) < (L.length : Int)) = false := by simp; omega
    have HR : Hid (∀ W, Below w.heap.size w W → ReadsL W A L) := fun W hW => hr.below hW (Nat.le_refl _)
    clear hr
    have PM : Hid (∀ W, Below w.heap.size w W → Calls Tryd.prog 7 #[.slice A L.length c] W (MPost L.length W (maxO (rowsL L)))) := fun W hW => maximal_any A L c W (HR.out W hW) (by omega)
    have QC : Hid (∀ W, Below w.heap.size w W → Calls Tryd.prog 9 #[.slice A L.length c] W fun e w' => ∃ v L', e = .returned v ∧ OwnL w' W.heap.size v L' ∧ rowsL L' = conO (rowsL L) ∧ (∀ r ∈ L', r ∈ L) ∧ L'.length ≤ L.length ∧ Below W.heap.size W w') := fun W hW => rconsidered_any A L c W (HR.out W hW) (by omega)
    have B0 : Hid (Below w.heap.size w w) := Below.refl _ _
    clear HR
    obtain ⟨g, hg⟩ : ∃ g, g = w.heap.size := ⟨_, rfl⟩
    have HG := Lib.hid hg
    rw [← hg] at PM QC B0 ⊢
    clear hg
    have hN : L.length ≤ 60 := by omega
    generalize hn : L.length = n at *
    clear hn
    go_enter Tryd.func4, Tryd.ntmps4
    go_wp2_with fail
    refine (PM.out w B0.out).mono ?_
    rintro e w1 ⟨TA, tc, TT, rfl, ET, NT, RT, K⟩
    have hs1 : g ≤ w.heap.size := by rw [HG.out]; exact Nat.le_refl _
    have B1 := Lib.hid (B0.out.trans (K.mono hs1))
    have RT := Lib.hid RT
    have hs2 := B1.out.size
    rw [← HG.out] at hs2
    clear K
    go_wp2_with fail
    refine (QC.out w1 B1.out).mono ?_
    rintro e w2 ⟨v2, X, rfl, OX, EX, _, NX, K⟩
    obtain ⟨XA, xc, e0, RX⟩ := OX.reads
    subst e0
    have B2 := Lib.hid (B1.out.trans (K.mono hs2))
    have RT2 := Lib.hid (RT.out.below K (Nat.le_refl _))
    have RX := Lib.hid RX
    have hs3 := B2.out.size
    rw [← HG.out] at hs3
    have DOM : Hid (∀ i, i < X.length → orK TT (rA X i).zs TT.length = true) := fun i hi => orK_dom EX ET hi
    have NE : Hid (∀ i k, i < TT.length → k < TT.length → i ≠ k → leqW (rA TT i).zs (rA TT k).zs = false) := fun i k hi hk hne => max_ne ET hi hk hne
    have hsome := some_len EX ET
    clear K OX EX ET RT B1 PM QC
    obtain ⟨s, hs⟩ : ∃ s, s = w2.heap.size := ⟨_, rfl⟩
    have HS := Lib.hid hs
    clear hs
    generalize hnt : TT.length = nt at *
    have HNT := Lib.hid hnt
    clear hnt
    generalize hnx : X.length = nx at *
    have HNX := Lib.hid hnx
    clear hnx
    have HSOME := Lib.hid hsome
    clear hsome
    go_wp2_with fail
    go_loopw [5] (fun q wr => ∃ i : Nat, i ≤ nx ∧ q = .int .i64 i ∧ Hid (Below s w2 wr)) (fun q _ => nx - (intOf q).toNat)
    case atStart => exact ⟨0, by omega, rfl, Below.refl _ _⟩
    case round =>
      obtain ⟨i, hi, rfl, BB⟩ := hrel
      obtain ⟨wo, rfl⟩ : ∃ wo, wo = wr := ⟨_, rfl⟩
      have hsz := BB.out.size
      rw [← HS.out] at hsz
      by_cases hlt : i < nx
      · have hiX : i < X.length := by rw [HNX.out]; exact hlt
        have DI := Lib.hid (DOM.out i hlt)
        have RXo := Lib.hid (RX.out.below BB.out (by rw [HS.out]; exact Nat.le_refl _))
        have RTo := Lib.hid (RT2.out.below BB.out (by rw [HS.out]; exact Nat.le_refl _))
        go_wp2_with fail
        go_loopw [6, 7] (fun p q wi => ∃ (k : Nat) (kb : Bool), k ≤ nt ∧ q = .int .i64 k ∧ p = .bool kb ∧ Hid (orK TT (rA X i).zs k = kb) ∧ Hid (Below wo.heap.size wo wi)) (fun _ q _ => nt - (intOf q).toNat)
        case atStart => exact ⟨0, false, by omega, rfl, rfl, rfl, Below.refl _ _⟩
        case round =>
          obtain ⟨k, kb, hk, rfl, rfl, EK, BI⟩ := hrel
          by_cases hlt2 : k < nt
          · have hkT : k < TT.length := by rw [HNT.out]; exact hlt2
            have KS : Hid (orK TT (rA X i).zs (k + 1) = (kb || leqW (rA X i).zs (rA TT k).zs)) := by
              show _ = _
              rw [orK_succ, EK.out]
            cases kb
            · obtain ⟨ba, oa, e1, hx⟩ := (RXo.out.below BI.out (Nat.le_refl _)).1.at i hiX
              obtain ⟨bb, ob, e2, hy⟩ := (RTo.out.below BI.out (Nat.le_refl _)).1.at k hkT
              subst e1 e2
              have OKi := (RXo.out.below BI.out (Nat.le_refl _)).2 _ (rA_mem hiX)
              have OKk := (RTo.out.below BI.out (Nat.le_refl _)).2 _ (rA_mem hkT)
              have CL : Hid (∀ W, Below wr.heap.size wr W → Calls Tryd.prog 10 #[.slice (rA X i).A (rA X i).zs.length (rA X i).cap, .slice (rA TT k).A (rA TT k).zs.length (rA TT k).cap] W (BPost W.heap.size W (leqW (rA X i).zs (rA TT k).zs))) := fun W hW =>
                leq_law (rA X i).A (rA TT k).A (rA X i).zs (rA TT k).zs (rA X i).cap (rA TT k).cap W (OKi.1.below hW (Nat.le_refl _)) (OKk.1.below hW (Nat.le_refl _)) (by have := OKi.2; omega) (by have := OKk.2; omega)
              clear OKi OKk hkT EK
              have DI2 := DI
              clear DI
              have HRI : Hid (∃ r, r = rA X i) := ⟨_, rfl⟩
              generalize hri : rA X i = r at *
              have HR2 := Lib.hid hri
              clear hri HRI
              generalize hti : rA TT k = t at *
              clear hti
              obtain ⟨xA, xs, xc⟩ := r
              obtain ⟨yA, ys, yc⟩ := t
              dsimp only at *
              generalize leqW xs ys = bv at *
              go_upto_region 12 with fail
              refine wp_region_held_drew (S := fun w' => w'.cell? ⟨ba, oa + i, none⟩ = some (.slice xA xs.length xc) ∧ w'.cell? ⟨bb, ob + k, none⟩ = some (.slice yA ys.length yc) ∧ Hid (Below wr.heap.size wr w')) (by kernel_rfl) ?_ (fun hHeld => ?_)
              · exact ⟨hx, hy, (Below.refl _ _).drew⟩
              refine wpAnyH_take (oi := ⟨_, _, _, _, _, _⟩) (i := 0) (v := ?_) rfl (by kernel_rfl) (by kernel_rfl) (by kernel_rfl) (fun _ _ _ h => h) (Or.inl ⟨by rfl, ?ya0⟩) (by assumption) ?ra0
              case ya0 => (intro w hSw; (try dsimp only at hSw); go_simp; (try with_reducible rfl))
              try simp only [Act.put, List.setIfInBounds_toArray, List.set_cons_zero, List.set_cons_succ]
              refine wpAnyH_take (oi := ⟨_, _, _, _, _, _⟩) (i := 1) (v := ?_) rfl (by kernel_rfl) (by kernel_rfl) (by kernel_rfl) (fun _ _ _ h => h) (Or.inl ⟨by rfl, ?ya1⟩) (by assumption) ?ra1
              case ya1 => (intro w hSw; (try dsimp only at hSw); go_simp; (try with_reducible rfl))
              try simp only [Act.put, List.setIfInBounds_toArray, List.set_cons_zero, List.set_cons_succ]
              refine wpAnyH_take (oi := ⟨_, _, _, _, _, _⟩) (i := 2) (v := ?_) rfl (by kernel_rfl) (by kernel_rfl) (by kernel_rfl) (fun _ _ _ h => h) (Or.inl ⟨by rfl, ?ya2⟩) (by assumption) ?ra2
              case ya2 => (intro w hSw; (try dsimp only at hSw); go_simp; (try with_reducible rfl))
              try simp only [Act.put, List.setIfInBounds_toArray, List.set_cons_zero, List.set_cons_succ]
              refine wpAnyH_take (oi := ⟨_, _, _, _, _, _⟩) (i := 3) (v := ?_) rfl (by kernel_rfl) (by kernel_rfl) (by kernel_rfl) (fun _ _ _ h => h) (Or.inl ⟨by rfl, ?ya3⟩) (by assumption) ?ra3
              case ya3 => (intro w hSw; (try dsimp only at hSw); go_simp; (try with_reducible rfl))
              try simp only [Act.put, List.setIfInBounds_toArray, List.set_cons_zero, List.set_cons_succ]
              refine wpAnyH_take (oi := ⟨_, _, _, _, _, _⟩) (i := 4) (v := ?_) rfl (by kernel_rfl) (by kernel_rfl) (by kernel_rfl) (fun _ _ _ h => h) (Or.inl ⟨by rfl, ?ya4⟩) (by assumption) ?ra4
              case ya4 => (intro w hSw; (try dsimp only at hSw); go_simp; (try with_reducible rfl))
              try simp only [Act.put, List.setIfInBounds_toArray, List.set_cons_zero, List.set_cons_succ]
              refine wpAnyH_take (oi := ⟨_, _, _, _, _, _⟩) (i := 5) (v := ?_) rfl (by kernel_rfl) (by kernel_rfl) (by kernel_rfl) (fun _ _ _ h => h) (Or.inl ⟨by rfl, ?ya5⟩) (by assumption) ?ra5
              case ya5 => (intro w hSw; (try dsimp only at hSw); go_simp; (try with_reducible rfl))
              try simp only [Act.put, List.setIfInBounds_toArray, List.set_cons_zero, List.set_cons_succ]
              refine wpAnyH_take (oi := ⟨_, _, _, _, _, _⟩) (i := 6) (v := ?_) rfl (by kernel_rfl) (by kernel_rfl) (by kernel_rfl) (fun _ _ _ h => h) (Or.inl ⟨by rfl, ?ya6⟩) (by assumption) ?ra6
              case ya6 => (intro w hSw; (try dsimp only at hSw); go_simp; (try with_reducible rfl))
              try simp only [Act.put, List.setIfInBounds_toArray, List.set_cons_zero, List.set_cons_succ]
              refine wpAnyH_take (oi := ⟨_, _, _, _, _, _⟩) (i := 7) (v := ?_) rfl (by kernel_rfl) (by kernel_rfl) (by kernel_rfl) (fun _ _ _ h => h) (Or.inl ⟨by rfl, ?ya7⟩) (by assumption) ?ra7
              case ya7 => (intro w hSw; (try dsimp only at hSw); go_simp; (try with_reducible rfl))
              try simp only [Act.put, List.setIfInBounds_toArray, List.set_cons_zero, List.set_cons_succ]
              refine wpAnyH_take (oi := ⟨_, _, _, _, _, _⟩) (i := 8) (v := ?_) rfl (by kernel_rfl) (by kernel_rfl) (by kernel_rfl) (fun _ _ _ h => h) (Or.inl ⟨by rfl, ?ya8⟩) (by assumption) ?ra8
              case ya8 => (intro w hSw; (try dsimp only at hSw); go_simp; (try with_reducible rfl))
              try simp only [Act.put, List.setIfInBounds_toArray, List.set_cons_zero, List.set_cons_succ]
              refine wpAnyH_take (oi := ⟨_, _, _, _, _, _⟩) (i := 9) (v := ?_) rfl (by kernel_rfl) (by kernel_rfl) (by kernel_rfl) (fun _ _ _ h => h) (Or.inl ⟨by rfl, ?ya9⟩) (by assumption) ?ra9
              case ya9 => (intro w hSw; (try dsimp only at hSw); go_simp; (try with_reducible rfl))
              try simp only [Act.put, List.setIfInBounds_toArray, List.set_cons_zero, List.set_cons_succ]
              refine wpAnyH_ready (rs := [10]) (by kernel_rfl) (by simp) ?_
              refine AllReadyH.cons (o := ⟨_, _, _, _, _, _⟩) rfl (fun K hK => ?_) AllReadyH.nil
              go_simp
              go_at_call 10; refine (CL.out _ hHeld.2.2.out).mono ?_; rintro e w3 ⟨rfl, K⟩; (try go_wp2_with fail)
              refine hK.out _ _ ?_ (fun hHeld2 => ?_)
              · exact ⟨keepc2 hHeld.1 K, keepc2 hHeld.2.1 K, hHeld.2.2.out.trans (K.mono hHeld.2.2.out.size)⟩
              clear hK K hHeld
              have hHeld := hHeld2
              clear hHeld2
              try simp only [Act.put, List.setIfInBounds_toArray, List.set_cons_zero, List.set_cons_succ]
              refine wpAnyH_take (oi := ⟨_, _, _, _, _, _⟩) (i := 11) (v := ?_) rfl (by kernel_rfl) (by kernel_rfl) (by kernel_rfl) (fun _ _ _ h => h) (Or.inl ⟨by rfl, ?ya11⟩) (by assumption) ?ra11
              case ya11 => (intro w hSw; (try dsimp only at hSw); go_simp; (try with_reducible rfl))
              try simp only [Act.put, List.setIfInBounds_toArray, List.set_cons_zero, List.set_cons_succ]
              refine wpAnyH_take (oi := ⟨_, _, _, _, _, _⟩) (i := 12) (v := ?_) rfl (by kernel_rfl) (by kernel_rfl) (by kernel_rfl) (fun _ _ _ h => h) (Or.inl ⟨by rfl, ?ya12⟩) (by assumption) ?ra12
              case ya12 => (intro w hSw; (try dsimp only at hSw); go_simp; (try with_reducible rfl))
              try simp only [Act.put, List.setIfInBounds_toArray, List.set_cons_zero, List.set_cons_succ]
              refine wpAnyH_done (by kernel_rfl) ?_ _
              have B9 := Lib.hid (BI.out.trans (hHeld.2.2.out.mono BI.out.size))
              have KS2 : Hid (orK TT xs (k + 1) = bv) := by
                show _ = _
                rw [KS.out]
                rfl
              clear hHeld CL hx hy
              go_wp2
              go_roundw
              case rel => exact ⟨k + 1, bv, by omega, by go_num, rfl, KS2, B9⟩
              case measure => simp [intOf]; omega
            · have KS2 : Hid (orK TT (rA X i).zs (k + 1) = true) := by
                show _ = _
                rw [KS.out]
                rfl
              clear hkT
              go_upto_region 12 with fail
              refine wp_region_held_drew (S := fun w' => Hid (Below wr.heap.size wr w')) (by kernel_rfl) ?_ (fun hHeld => ?_)
              · exact (Below.refl _ _).drew
              refine wpAnyH_take (oi := ⟨_, _, _, _, _, _⟩) (i := 0) (v := ?_) rfl (by kernel_rfl) (by kernel_rfl) (by kernel_rfl) (fun _ _ _ h => h) (Or.inl ⟨by rfl, ?yb0⟩) (by assumption) ?rb0
              case yb0 => (intro w hSw; (try dsimp only at hSw); go_simp; (try with_reducible rfl))
              try simp only [Act.put, List.setIfInBounds_toArray, List.set_cons_zero, List.set_cons_succ]
              refine wpAnyH_take (oi := ⟨_, _, _, _, _, _⟩) (i := 1) (v := ?_) rfl (by kernel_rfl) (by kernel_rfl) (by kernel_rfl) (fun _ _ _ h => h) (Or.inl ⟨by rfl, ?yb1⟩) (by assumption) ?rb1
              case yb1 => (intro w hSw; (try dsimp only at hSw); go_simp; (try with_reducible rfl))
              try simp only [Act.put, List.setIfInBounds_toArray, List.set_cons_zero, List.set_cons_succ]
              refine wpAnyH_take (oi := ⟨_, _, _, _, _, _⟩) (i := 2) rfl (by kernel_rfl) (by kernel_rfl) (by kernel_rfl) (fun _ _ _ h => h) (Or.inr ⟨by rfl, rfl⟩) (by assumption) ?rb2
              try simp only [Act.put, List.setIfInBounds_toArray, List.set_cons_zero, List.set_cons_succ]
              refine wpAnyH_take (oi := ⟨_, _, _, _, _, _⟩) (i := 3) rfl (by kernel_rfl) (by kernel_rfl) (by kernel_rfl) (fun _ _ _ h => h) (Or.inr ⟨by rfl, rfl⟩) (by assumption) ?rb3
              try simp only [Act.put, List.setIfInBounds_toArray, List.set_cons_zero, List.set_cons_succ]
              refine wpAnyH_take (oi := ⟨_, _, _, _, _, _⟩) (i := 4) rfl (by kernel_rfl) (by kernel_rfl) (by kernel_rfl) (fun _ _ _ h => h) (Or.inr ⟨by rfl, rfl⟩) (by assumption) ?rb4
              try simp only [Act.put, List.setIfInBounds_toArray, List.set_cons_zero, List.set_cons_succ]
              refine wpAnyH_take (oi := ⟨_, _, _, _, _, _⟩) (i := 5) rfl (by kernel_rfl) (by kernel_rfl) (by kernel_rfl) (fun _ _ _ h => h) (Or.inr ⟨by rfl, rfl⟩) (by assumption) ?rb5
              try simp only [Act.put, List.setIfInBounds_toArray, List.set_cons_zero, List.set_cons_succ]
              refine wpAnyH_take (oi := ⟨_, _, _, _, _, _⟩) (i := 6) rfl (by kernel_rfl) (by kernel_rfl) (by kernel_rfl) (fun _ _ _ h => h) (Or.inr ⟨by rfl, rfl⟩) (by assumption) ?rb6
              try simp only [Act.put, List.setIfInBounds_toArray, List.set_cons_zero, List.set_cons_succ]
              refine wpAnyH_take (oi := ⟨_, _, _, _, _, _⟩) (i := 7) rfl (by kernel_rfl) (by kernel_rfl) (by kernel_rfl) (fun _ _ _ h => h) (Or.inr ⟨by rfl, rfl⟩) (by assumption) ?rb7
              try simp only [Act.put, List.setIfInBounds_toArray, List.set_cons_zero, List.set_cons_succ]
              refine wpAnyH_take (oi := ⟨_, _, _, _, _, _⟩) (i := 8) rfl (by kernel_rfl) (by kernel_rfl) (by kernel_rfl) (fun _ _ _ h => h) (Or.inr ⟨by rfl, rfl⟩) (by assumption) ?rb8
              try simp only [Act.put, List.setIfInBounds_toArray, List.set_cons_zero, List.set_cons_succ]
              refine wpAnyH_take (oi := ⟨_, _, _, _, _, _⟩) (i := 9) rfl (by kernel_rfl) (by kernel_rfl) (by kernel_rfl) (fun _ _ _ h => h) (Or.inr ⟨by rfl, rfl⟩) (by assumption) ?rb9
              try simp only [Act.put, List.setIfInBounds_toArray, List.set_cons_zero, List.set_cons_succ]
              refine wpAnyH_take (oi := ⟨_, _, _, _, _, _⟩) (i := 10) rfl (by kernel_rfl) (by kernel_rfl) (by kernel_rfl) (fun _ _ _ h => h) (Or.inr ⟨by rfl, rfl⟩) (by assumption) ?rb10
              try simp only [Act.put, List.setIfInBounds_toArray, List.set_cons_zero, List.set_cons_succ]
              refine wpAnyH_take (oi := ⟨_, _, _, _, _, _⟩) (i := 11) (v := ?_) rfl (by kernel_rfl) (by kernel_rfl) (by kernel_rfl) (fun _ _ _ h => h) (Or.inl ⟨by rfl, ?yb11⟩) (by assumption) ?rb11
              case yb11 => (intro w hSw; (try dsimp only at hSw); go_simp; (try with_reducible rfl))
              try simp only [Act.put, List.setIfInBounds_toArray, List.set_cons_zero, List.set_cons_succ]
              refine wpAnyH_take (oi := ⟨_, _, _, _, _, _⟩) (i := 12) (v := ?_) rfl (by kernel_rfl) (by kernel_rfl) (by kernel_rfl) (fun _ _ _ h => h) (Or.inl ⟨by rfl, ?yb12⟩) (by assumption) ?rb12
              case yb12 => (intro w hSw; (try dsimp only at hSw); go_simp; (try with_reducible rfl))
              try simp only [Act.put, List.setIfInBounds_toArray, List.set_cons_zero, List.set_cons_succ]
              refine wpAnyH_done (by kernel_rfl) ?_ _
              have B9 := Lib.hid (BI.out.trans (hHeld.out.mono BI.out.size))
              clear hHeld
              go_wp2
              go_roundw
              case rel => exact ⟨k + 1, true, by omega, by go_num, rfl, KS2, B9⟩
              case measure => simp [intOf]; omega
          · obtain rfl : k = nt := by omega
            obtain rfl : kb = true := EK.out.symm.trans DI.out
            have B3 := Lib.hid (BB.out.trans (BI.out.mono hsz))
            go_wp2
            go_roundw
            case rel => exact ⟨i + 1, by omega, by go_num, B3⟩
            case measure => simp [intOf]; omega
      · obtain rfl : i = nx := by omega
        clear DOM RX
        go_wp2_with fail
        go_loopw [8] (fun q wr => ∃ i : Nat, i ≤ nt ∧ q = .int .i64 i ∧ Hid (Below s w2 wr)) (fun q _ => nt - (intOf q).toNat)
        case atStart => exact ⟨0, by omega, rfl, BB⟩
        case round =>
          clear BB hsz
          obtain ⟨i2, hi2, rfl, BB⟩ := hrel
          obtain ⟨wp, rfl⟩ : ∃ wp, wp = wr := ⟨_, rfl⟩
          have hsz := BB.out.size
          rw [← HS.out] at hsz
          by_cases hlt : i2 < nt
          · have hiT : i2 < TT.length := by rw [HNT.out]; exact hlt
            have RTo := Lib.hid (RT2.out.below BB.out (by rw [HS.out]; exact Nat.le_refl _))
            go_wp2_with fail
            go_loopw [9] (fun q wi => ∃ k : Nat, k ≤ nt ∧ q = .int .i64 k ∧ Hid (Below wp.heap.size wp wi)) (fun q _ => nt - (intOf q).toNat)
            case atStart => exact ⟨0, by omega, rfl, Below.refl _ _⟩
            case round =>
              obtain ⟨k, hk, rfl, BI⟩ := hrel
              by_cases hlt2 : k < nt
              · have hkT : k < TT.length := by rw [HNT.out]; exact hlt2
                by_cases hne : i2 = k
                · subst hne
                  have z1 : ((i2 : Int) != (i2 : Int)) = false := by simp
                  go_upto_region 21 with fail
                  refine wp_region_held_drew (S := fun w' => Hid (Below wr.heap.size wr w')) (by kernel_rfl) ?_ (fun hHeld => ?_)
                  · exact (Below.refl _ _).drew
                  refine wpAnyH_take (oi := ⟨_, _, _, _, _, _⟩) (i := 0) (v := ?_) rfl (by kernel_rfl) (by kernel_rfl) (by kernel_rfl) (fun _ _ _ h => h) (Or.inl ⟨by rfl, ?yc0⟩) (by assumption) ?rc0
                  case yc0 => (intro w hSw; (try dsimp only at hSw); go_simp; (try with_reducible rfl))
                  try simp only [Act.put, List.setIfInBounds_toArray, List.set_cons_zero, List.set_cons_succ]
                  refine wpAnyH_take (oi := ⟨_, _, _, _, _, _⟩) (i := 1) (v := ?_) rfl (by kernel_rfl) (by kernel_rfl) (by kernel_rfl) (fun _ _ _ h => h) (Or.inl ⟨by rfl, ?yc1⟩) (by assumption) ?rc1
                  case yc1 => (intro w hSw; (try dsimp only at hSw); go_simp; (try with_reducible rfl))
                  try simp only [Act.put, List.setIfInBounds_toArray, List.set_cons_zero, List.set_cons_succ]
                  refine wpAnyH_take (oi := ⟨_, _, _, _, _, _⟩) (i := 2) (v := ?_) rfl (by kernel_rfl) (by kernel_rfl) (by kernel_rfl) (fun _ _ _ h => h) (Or.inl ⟨by rfl, ?yc2⟩) (by assumption) ?rc2
                  case yc2 => (intro w hSw; (try dsimp only at hSw); go_simp; (try with_reducible rfl))
                  try simp only [Act.put, List.setIfInBounds_toArray, List.set_cons_zero, List.set_cons_succ]
                  refine wpAnyH_take (oi := ⟨_, _, _, _, _, _⟩) (i := 3) (v := ?_) rfl (by kernel_rfl) (by kernel_rfl) (by kernel_rfl) (fun _ _ _ h => h) (Or.inl ⟨by rfl, ?yc3⟩) (by assumption) ?rc3
                  case yc3 => (intro w hSw; (try dsimp only at hSw); go_simp; (try with_reducible rfl))
                  try simp only [Act.put, List.setIfInBounds_toArray, List.set_cons_zero, List.set_cons_succ]
                  refine wpAnyH_take (oi := ⟨_, _, _, _, _, _⟩) (i := 4) rfl (by kernel_rfl) (by kernel_rfl) (by kernel_rfl) (fun _ _ _ h => h) (Or.inr ⟨by rfl, rfl⟩) (by assumption) ?rc4
                  try simp only [Act.put, List.setIfInBounds_toArray, List.set_cons_zero, List.set_cons_succ]
                  refine wpAnyH_take (oi := ⟨_, _, _, _, _, _⟩) (i := 5) rfl (by kernel_rfl) (by kernel_rfl) (by kernel_rfl) (fun _ _ _ h => h) (Or.inr ⟨by rfl, rfl⟩) (by assumption) ?rc5
                  try simp only [Act.put, List.setIfInBounds_toArray, List.set_cons_zero, List.set_cons_succ]
                  refine wpAnyH_take (oi := ⟨_, _, _, _, _, _⟩) (i := 6) rfl (by kernel_rfl) (by kernel_rfl) (by kernel_rfl) (fun _ _ _ h => h) (Or.inr ⟨by rfl, rfl⟩) (by assumption) ?rc6
                  try simp only [Act.put, List.setIfInBounds_toArray, List.set_cons_zero, List.set_cons_succ]
                  refine wpAnyH_take (oi := ⟨_, _, _, _, _, _⟩) (i := 7) rfl (by kernel_rfl) (by kernel_rfl) (by kernel_rfl) (fun _ _ _ h => h) (Or.inr ⟨by rfl, rfl⟩) (by assumption) ?rc7
                  try simp only [Act.put, List.setIfInBounds_toArray, List.set_cons_zero, List.set_cons_succ]
                  refine wpAnyH_take (oi := ⟨_, _, _, _, _, _⟩) (i := 8) rfl (by kernel_rfl) (by kernel_rfl) (by kernel_rfl) (fun _ _ _ h => h) (Or.inr ⟨by rfl, rfl⟩) (by assumption) ?rc8
                  try simp only [Act.put, List.setIfInBounds_toArray, List.set_cons_zero, List.set_cons_succ]
                  refine wpAnyH_take (oi := ⟨_, _, _, _, _, _⟩) (i := 9) rfl (by kernel_rfl) (by kernel_rfl) (by kernel_rfl) (fun _ _ _ h => h) (Or.inr ⟨by rfl, rfl⟩) (by assumption) ?rc9
                  try simp only [Act.put, List.setIfInBounds_toArray, List.set_cons_zero, List.set_cons_succ]
                  refine wpAnyH_take (oi := ⟨_, _, _, _, _, _⟩) (i := 10) rfl (by kernel_rfl) (by kernel_rfl) (by kernel_rfl) (fun _ _ _ h => h) (Or.inr ⟨by rfl, rfl⟩) (by assumption) ?rc10
                  try simp only [Act.put, List.setIfInBounds_toArray, List.set_cons_zero, List.set_cons_succ]
                  refine wpAnyH_take (oi := ⟨_, _, _, _, _, _⟩) (i := 11) rfl (by kernel_rfl) (by kernel_rfl) (by kernel_rfl) (fun _ _ _ h => h) (Or.inr ⟨by rfl, rfl⟩) (by assumption) ?rc11
                  try simp only [Act.put, List.setIfInBounds_toArray, List.set_cons_zero, List.set_cons_succ]
                  refine wpAnyH_take (oi := ⟨_, _, _, _, _, _⟩) (i := 12) rfl (by kernel_rfl) (by kernel_rfl) (by kernel_rfl) (fun _ _ _ h => h) (Or.inr ⟨by rfl, rfl⟩) (by assumption) ?rc12
                  try simp only [Act.put, List.setIfInBounds_toArray, List.set_cons_zero, List.set_cons_succ]
                  refine wpAnyH_take (oi := ⟨_, _, _, _, _, _⟩) (i := 13) (v := ?_) rfl (by kernel_rfl) (by kernel_rfl) (by kernel_rfl) (fun _ _ _ h => h) (Or.inl ⟨by rfl, ?yc13⟩) (by assumption) ?rc13
                  case yc13 => (intro w hSw; (try dsimp only at hSw); go_simp; (try with_reducible rfl))
                  try simp only [Act.put, List.setIfInBounds_toArray, List.set_cons_zero, List.set_cons_succ]
                  refine wpAnyH_done (by kernel_rfl) ?_ _
                  have B9 := Lib.hid (BI.out.trans (hHeld.out.mono BI.out.size))
                  clear hHeld
                  go_wp2
                  go_roundw
                  case rel => exact ⟨i2 + 1, by omega, by go_num, B9⟩
                  case measure => simp [intOf]; omega
                · have z1 : ((i2 : Int) != (k : Int)) = true := by simp; omega
                  have LN := NE.out i2 k hlt hlt2 hne
                  obtain ⟨ba, oa, e1, hx⟩ := (RTo.out.below BI.out (Nat.le_refl _)).1.at i2 hiT
                  subst e1
                  obtain ⟨bb, ob, e2, hy⟩ := (RTo.out.below BI.out (Nat.le_refl _)).1.at k hkT
                  injection e2 with e2
                  injection e2 with e3 e4
                  subst e3 e4
                  have OKi := (RTo.out.below BI.out (Nat.le_refl _)).2 _ (rA_mem hiT)
                  have OKk := (RTo.out.below BI.out (Nat.le_refl _)).2 _ (rA_mem hkT)
                  have CL : ∀ W, Below wr.heap.size wr W → Calls Tryd.prog 10 #[.slice (rA TT i2).A (rA TT i2).zs.length (rA TT i2).cap, .slice (rA TT k).A (rA TT k).zs.length (rA TT k).cap] W (BPost W.heap.size W (leqW (rA TT i2).zs (rA TT k).zs)) := fun W hW =>
                    leq_law (rA TT i2).A (rA TT k).A (rA TT i2).zs (rA TT k).zs (rA TT i2).cap (rA TT k).cap W (OKi.1.below hW (Nat.le_refl _)) (OKk.1.below hW (Nat.le_refl _)) (by have := OKi.2; omega) (by have := OKk.2; omega)
                  rw [LN] at CL
                  replace CL := Lib.hid CL
                  clear OKi OKk hkT LN hne
                  generalize rA TT i2 = r at *
                  generalize rA TT k = t at *
                  obtain ⟨xA, xs, xc⟩ := r
                  obtain ⟨yA, ys, yc⟩ := t
                  dsimp only at *
                  go_upto_region 21 with fail
                  refine wp_region_held_drew (S := fun w' => w'.cell? ⟨ba, oa + i2, none⟩ = some (.slice xA xs.length xc) ∧ w'.cell? ⟨ba, oa + k, none⟩ = some (.slice yA ys.length yc) ∧ Hid (Below wr.heap.size wr w')) (by kernel_rfl) ?_ (fun hHeld => ?_)
                  · exact ⟨hx, hy, (Below.refl _ _).drew⟩
                  refine wpAnyH_take (oi := ⟨_, _, _, _, _, _⟩) (i := 0) (v := ?_) rfl (by kernel_rfl) (by kernel_rfl) (by kernel_rfl) (fun _ _ _ h => h) (Or.inl ⟨by rfl, ?yd0⟩) (by assumption) ?rd0
                  case yd0 => (intro w hSw; (try dsimp only at hSw); go_simp; (try with_reducible rfl))
                  try simp only [Act.put, List.setIfInBounds_toArray, List.set_cons_zero, List.set_cons_succ]
                  refine wpAnyH_take (oi := ⟨_, _, _, _, _, _⟩) (i := 1) (v := ?_) rfl (by kernel_rfl) (by kernel_rfl) (by kernel_rfl) (fun _ _ _ h => h) (Or.inl ⟨by rfl, ?yd1⟩) (by assumption) ?rd1
                  case yd1 => (intro w hSw; (try dsimp only at hSw); go_simp; (try with_reducible rfl))
                  try simp only [Act.put, List.setIfInBounds_toArray, List.set_cons_zero, List.set_cons_succ]
                  refine wpAnyH_take (oi := ⟨_, _, _, _, _, _⟩) (i := 2) (v := ?_) rfl (by kernel_rfl) (by kernel_rfl) (by kernel_rfl) (fun _ _ _ h => h) (Or.inl ⟨by rfl, ?yd2⟩) (by assumption) ?rd2
                  case yd2 => (intro w hSw; (try dsimp only at hSw); go_simp; (try with_reducible rfl))
                  try simp only [Act.put, List.setIfInBounds_toArray, List.set_cons_zero, List.set_cons_succ]
                  refine wpAnyH_take (oi := ⟨_, _, _, _, _, _⟩) (i := 3) (v := ?_) rfl (by kernel_rfl) (by kernel_rfl) (by kernel_rfl) (fun _ _ _ h => h) (Or.inl ⟨by rfl, ?yd3⟩) (by assumption) ?rd3
                  case yd3 => (intro w hSw; (try dsimp only at hSw); go_simp; (try with_reducible rfl))
                  try simp only [Act.put, List.setIfInBounds_toArray, List.set_cons_zero, List.set_cons_succ]
                  refine wpAnyH_take (oi := ⟨_, _, _, _, _, _⟩) (i := 4) (v := ?_) rfl (by kernel_rfl) (by kernel_rfl) (by kernel_rfl) (fun _ _ _ h => h) (Or.inl ⟨by rfl, ?yd4⟩) (by assumption) ?rd4
                  case yd4 => (intro w hSw; (try dsimp only at hSw); go_simp; (try with_reducible rfl))
                  try simp only [Act.put, List.setIfInBounds_toArray, List.set_cons_zero, List.set_cons_succ]
                  refine wpAnyH_take (oi := ⟨_, _, _, _, _, _⟩) (i := 5) (v := ?_) rfl (by kernel_rfl) (by kernel_rfl) (by kernel_rfl) (fun _ _ _ h => h) (Or.inl ⟨by rfl, ?yd5⟩) (by assumption) ?rd5
                  case yd5 => (intro w hSw; (try dsimp only at hSw); go_simp; (try with_reducible rfl))
                  try simp only [Act.put, List.setIfInBounds_toArray, List.set_cons_zero, List.set_cons_succ]
                  refine wpAnyH_take (oi := ⟨_, _, _, _, _, _⟩) (i := 6) (v := ?_) rfl (by kernel_rfl) (by kernel_rfl) (by kernel_rfl) (fun _ _ _ h => h) (Or.inl ⟨by rfl, ?yd6⟩) (by assumption) ?rd6
                  case yd6 => (intro w hSw; (try dsimp only at hSw); go_simp; (try with_reducible rfl))
                  try simp only [Act.put, List.setIfInBounds_toArray, List.set_cons_zero, List.set_cons_succ]
                  refine wpAnyH_take (oi := ⟨_, _, _, _, _, _⟩) (i := 7) (v := ?_) rfl (by kernel_rfl) (by kernel_rfl) (by kernel_rfl) (fun _ _ _ h => h) (Or.inl ⟨by rfl, ?yd7⟩) (by assumption) ?rd7
                  case yd7 => (intro w hSw; (try dsimp only at hSw); go_simp; (try with_reducible rfl))
                  try simp only [Act.put, List.setIfInBounds_toArray, List.set_cons_zero, List.set_cons_succ]
                  refine wpAnyH_take (oi := ⟨_, _, _, _, _, _⟩) (i := 8) (v := ?_) rfl (by kernel_rfl) (by kernel_rfl) (by kernel_rfl) (fun _ _ _ h => h) (Or.inl ⟨by rfl, ?yd8⟩) (by assumption) ?rd8
                  case yd8 => (intro w hSw; (try dsimp only at hSw); go_simp; (try with_reducible rfl))
                  try simp only [Act.put, List.setIfInBounds_toArray, List.set_cons_zero, List.set_cons_succ]
                  refine wpAnyH_take (oi := ⟨_, _, _, _, _, _⟩) (i := 9) (v := ?_) rfl (by kernel_rfl) (by kernel_rfl) (by kernel_rfl) (fun _ _ _ h => h) (Or.inl ⟨by rfl, ?yd9⟩) (by assumption) ?rd9
                  case yd9 => (intro w hSw; (try dsimp only at hSw); go_simp; (try with_reducible rfl))
                  try simp only [Act.put, List.setIfInBounds_toArray, List.set_cons_zero, List.set_cons_succ]
                  refine wpAnyH_take (oi := ⟨_, _, _, _, _, _⟩) (i := 10) (v := ?_) rfl (by kernel_rfl) (by kernel_rfl) (by kernel_rfl) (fun _ _ _ h => h) (Or.inl ⟨by rfl, ?yd10⟩) (by assumption) ?rd10
                  case yd10 => (intro w hSw; (try dsimp only at hSw); go_simp; (try with_reducible rfl))
                  try simp only [Act.put, List.setIfInBounds_toArray, List.set_cons_zero, List.set_cons_succ]
                  refine wpAnyH_take (oi := ⟨_, _, _, _, _, _⟩) (i := 11) (v := ?_) rfl (by kernel_rfl) (by kernel_rfl) (by kernel_rfl) (fun _ _ _ h => h) (Or.inl ⟨by rfl, ?yd11⟩) (by assumption) ?rd11
                  case yd11 => (intro w hSw; (try dsimp only at hSw); go_simp; (try with_reducible rfl))
                  try simp only [Act.put, List.setIfInBounds_toArray, List.set_cons_zero, List.set_cons_succ]
                  refine wpAnyH_ready (rs := [12]) (by kernel_rfl) (by simp) ?_
                  refine AllReadyH.cons (o := ⟨_, _, _, _, _, _⟩) rfl (fun K hK => ?_) AllReadyH.nil
                  go_simp
                  go_at_call 10; refine (CL.out _ hHeld.2.2.out).mono ?_; rintro e w3 ⟨rfl, K⟩; (try go_wp2_with fail)
                  refine hK.out _ _ ?_ (fun hHeld2 => ?_)
                  · exact ⟨keepc2 hHeld.1 K, keepc2 hHeld.2.1 K, hHeld.2.2.out.trans (K.mono hHeld.2.2.out.size)⟩
                  clear hK K hHeld
                  have hHeld := hHeld2
                  clear hHeld2
                  try simp only [Act.put, List.setIfInBounds_toArray, List.set_cons_zero, List.set_cons_succ]
                  refine wpAnyH_take (oi := ⟨_, _, _, _, _, _⟩) (i := 13) (v := ?_) rfl (by kernel_rfl) (by kernel_rfl) (by kernel_rfl) (fun _ _ _ h => h) (Or.inl ⟨by rfl, ?yd13⟩) (by assumption) ?rd13
                  case yd13 => (intro w hSw; (try dsimp only at hSw); go_simp; (try with_reducible rfl))
                  try simp only [Act.put, List.setIfInBounds_toArray, List.set_cons_zero, List.set_cons_succ]
                  refine wpAnyH_done (by kernel_rfl) ?_ _
                  have B9 := Lib.hid (BI.out.trans (hHeld.2.2.out.mono BI.out.size))
                  clear hHeld CL hx hy
                  go_wp2
                  go_roundw
                  case rel => exact ⟨k + 1, by omega, by go_num, B9⟩
                  case measure => simp [intOf]; omega
              · have B3 := Lib.hid (BB.out.trans (BI.out.mono hsz))
                go_wp2
                go_roundw
                case rel => exact ⟨i2 + 1, by omega, by go_num, B3⟩
                case measure => simp [intOf]; omega
          · have B3 := Lib.hid (B2.out.trans (BB.out.mono (by rw [HS.out]; exact hs3)))
            have hsc := B3.out.size
            rw [← HG.out] at hsc
            by_cases hz : 0 < nt
            · have z1 : decide ((0 : Int) < (nt : Int)) = true := by simp; omega
              have z2 : 0 < i := HSOME.out.1 hz
              go_wp2_with fail
              refine (CE.out _).mono ?_
              rintro e w4 ⟨rfl, K⟩
              have B4 := Lib.hid (B3.out.trans (K.mono hsc))
              clear K
              go_wp2
              go_ret
              exact ⟨rfl, B4.out⟩
            · have z2 : i = 0 := by have := mt HSOME.out.2 hz; omega
              have z3 : nt = 0 := by omega
              subst z2 z3
              go_wp2_with fail
              refine (CE.out _).mono ?_
              rintro e w4 ⟨rfl, K⟩
              have B4 := Lib.hid (B3.out.trans (K.mono hsc))
              clear K
              go_wp2
              go_ret
              exact ⟨rfl, B4.out⟩
end Go.Proofs.YtkjdgkndlfhhjaaDoor
