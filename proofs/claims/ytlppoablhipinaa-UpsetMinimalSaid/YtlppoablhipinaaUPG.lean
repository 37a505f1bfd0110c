/- The law on minimal elements. -/
import Derived.Test.YtlppoablhipinaaUPA
namespace Go.Proofs.Ytlppoablhipinaa
open Go.RowKit

theorem ReadsL.cell {w : World} {b o : Nat} {L : List Row} (h : ReadsL w (some ⟨b, o, none⟩) L) (k : Nat) (hk : k < L.length) : w.cell? ⟨b, o + k, none⟩ = some (.slice (rA L k).A (rA L k).zs.length (rA L k).cap) := by
  obtain ⟨b2, o2, e, h2⟩ := h.1.at k hk
  injection e with e
  injection e with e1 e2
  subst e1 e2
  exact h2
theorem mem_at {U : List Row} {k : Nat} (hk : k < U.length) : (rA U k).zs ∈ rowsL U := List.mem_map.2 ⟨_, rA_mem hk, rfl⟩
theorem asc_at {U : List Row} (h : Asc (rowsL U)) {i j : Nat} (hij : i < j) (hj : j < U.length) : cmpL (rA U i).zs (rA U j).zs < 0 := by
  have h1 := (List.pairwise_iff_getElem.1 h) i j (by rw [rowsL_len]; omega) (by rw [rowsL_len]; omega) hij
  rwa [rA_get (by omega), rA_get hj] at h1
theorem min_there {L U : List Row} (h : rowsL U = makeL (rowsL L)) {i : Nat} (hi : i < U.length) : ∃ k, k < L.length ∧ sameL (rA L k).zs (rA U i).zs = true := by
  have h1 := us_mem (make_us (h ▸ mem_at hi))
  unfold rowsL at h1
  obtain ⟨r, hr, e⟩ := List.mem_map.1 h1
  obtain ⟨k, hk, rfl⟩ := List.getElem_of_mem hr
  refine ⟨k, hk, sameL_iff.2 ?_⟩
  rw [← e]
  unfold rA
  rw [List.getElem?_eq_getElem hk]
  rfl
theorem min_leq {L U : List Row} (h : rowsL U = makeL (rowsL L)) {i k : Nat} (hi : i < U.length) (hk : k < U.length) (hne : k ≠ i) : leqL (rA U k).zs (rA U i).zs = false := by
  cases e : leqL (rA U k).zs (rA U i).zs with
  | false => rfl
  | true =>
    have hA : Asc (rowsL U) := by rw [h]; exact make_asc _
    have e2 := make_anti (l := rowsL L) (h ▸ mem_at hk) (h ▸ mem_at hi) e
    rcases Nat.lt_or_gt_of_ne hne with h1 | h1
    · have := asc_at hA h1 hi
      rw [e2, cmpL_refl] at this
      omega
    · have := asc_at hA h1 hk
      rw [e2, cmpL_refl] at this
      omega
theorem min_cmp {L U : List Row} (h : rowsL U = makeL (rowsL L)) {i : Nat} (hi : i + 1 < U.length) : cmpL (rA U i).zs (rA U (i + 1)).zs = -1 := by
  have hA : Asc (rowsL U) := by rw [h]; exact make_asc _
  have h1 : cmpL (rA U i).zs (rA U (i + 1)).zs < 0 := asc_at hA (Nat.lt_succ_self i) hi
  have h2 := cmpL_cases (rA U i).zs (rA U (i + 1)).zs
  omega

set_option maxHeartbeats 8000000 in
set_option maxRecDepth 100000 in
theorem upsetMinimal_law (A : Option Addr) (L : List Row) (c : Nat) (w : World) (hr : RowsW w A L c) :
    Calls Try.prog 7 #[.slice A L.length c] w fun e w' => e = .returned (.bool true) ∧ Below w.heap.size w w' := by
  have LV : Hid (∀ W, Below w.heap.size w W → Calls Try.prog 11 #[] W (BPost W.heap.size W true)) := fun W _ => lives_any W
  have B0 : Hid (Below w.heap.size w w) := Below.refl _ _
  have Fa := Lib.hid (hr.at)
  cases fa : fewB L
  · rw [fa] at Fa
    clear fa hr
    go_enter Try.func7, Try.ntmps7
    go_wp2_with fail
    refine (LV.out w B0.out).mono ?_
    rintro e w1 ⟨rfl, K⟩
    have Bw1 := Lib.hid (B0.out.trans (K.mono B0.out.size))
    clear K
    go_wp2_with fail
    refine (Fa.out w1 Bw1.out).mono ?_
    rintro e w2 ⟨rfl, K⟩
    have Bw2 := Lib.hid (Bw1.out.trans (K.mono Bw1.out.size))
    clear K
    go_wp2
    go_ret
    exact ⟨rfl, Bw2.out⟩
  rw [fa] at Fa
  obtain ⟨Ra, la⟩ := hr.few fa
  have Ra : Hid (∀ W, Below w.heap.size w W → ReadsL W A L) := fun W hW => Ra.below hW (Nat.le_refl _)
  have nza := Lib.hid hr.nz
  clear hr fa
  have PMa : Hid (∀ W, Below w.heap.size w W → Calls Try.prog 13 #[.slice A L.length c] W (MPost L.length W (makeL (rowsL L)))) := fun W hW => make_any A L c W (Ra.out W hW) (by omega)
  clear nza
  go_enter Try.func7, Try.ntmps7
  go_wp2_with fail
  refine (LV.out w B0.out).mono ?_
  rintro e w1 ⟨rfl, K⟩
  have Bw1 := Lib.hid (B0.out.trans (K.mono B0.out.size))
  clear K
  go_wp2_with fail
  refine (Fa.out w1 Bw1.out).mono ?_
  rintro e w2 ⟨rfl, K⟩
  have Bw2 := Lib.hid (Bw1.out.trans (K.mono Bw1.out.size))
  clear K
  go_wp2_with fail
  refine (PMa.out w2 Bw2.out).mono ?_
  rintro e w3 ⟨Au, cu, Lu, rfl, Eu, Nu, Ru, K⟩
  have Bw3 := Lib.hid (Bw2.out.trans (K.mono Bw2.out.size))
  have Ru : Hid (∀ W, Below w3.heap.size w3 W → ReadsL W Au Lu) := fun W hW => Ru.below hW (Nat.le_refl _)
  have Eu := Lib.hid Eu
  have Duw3 : Hid (Below w3.heap.size w3 w3) := Below.refl _ _
  clear K
  have eu : rowsL Lu = makeL (rowsL L) := Eu.out
  have RL : Hid (∀ W, Below w3.heap.size w3 W → ReadsL W A L) := fun W hW => Ra.out W (Bw3.out.trans (hW.mono Bw3.out.size))
  have RU : Hid (∀ W, Below w3.heap.size w3 W → ReadsL W Au Lu) := fun W hW => Ru.out W hW
  have ln : L.length ≤ 12 := la
  have lm : Lu.length ≤ 12 := by omega
  have CS : Hid (∀ W k i, Below w3.heap.size w3 W → k < L.length → i < Lu.length → Calls Try.prog 27 #[.slice (rA L k).A (rA L k).zs.length (rA L k).cap, .slice (rA Lu i).A (rA Lu i).zs.length (rA Lu i).cap] W (BPost W.heap.size W (sameL (rA L k).zs (rA Lu i).zs))) := fun W k i hW hk hi =>
    same_law _ _ _ _ _ _ W ((RL.out W hW).2 _ (rA_mem hk)).1 ((RU.out W hW).2 _ (rA_mem hi)).1 (by have := ((RL.out W hW).2 _ (rA_mem hk)).2; omega)
  have CH : Hid (∀ W i, Below w3.heap.size w3 W → i < Lu.length → Calls Try.prog 17 #[.slice A L.length c, .slice (rA Lu i).A (rA Lu i).zs.length (rA Lu i).cap] W (BPost W.heap.size W true)) := fun W i hW hi => by
    have h := has_any A (rA Lu i).A L (rA Lu i).zs c (rA Lu i).cap W (RL.out W hW) (by omega) ((RU.out W hW).2 _ (rA_mem hi)).1 ((RU.out W hW).2 _ (rA_mem hi)).2
    rw [has_mem (eu ▸ mem_at hi)] at h
    exact h
  have CC : Hid (∀ W i, Below w3.heap.size w3 W → i + 1 < Lu.length → Calls Try.prog 28 #[.slice (rA Lu i).A (rA Lu i).zs.length (rA Lu i).cap, .slice (rA Lu (i + 1)).A (rA Lu (i + 1)).zs.length (rA Lu (i + 1)).cap] W (fun e w' => e = .returned (.int .i64 (-1)) ∧ Below W.heap.size W w')) := fun W i hW hi => by
    have h1 := (RU.out W hW).2 _ (rA_mem (show i < Lu.length by omega))
    have h2 := (RU.out W hW).2 _ (rA_mem hi)
    have h := rcmp_law _ _ _ _ (rA Lu i).cap (rA Lu (i + 1)).cap W h1.1 h2.1 (by have := h1.2; omega) (by have := h2.2; omega)
    rw [min_cmp eu hi] at h
    exact h
  have CQ : Hid (∀ W k i, Below w3.heap.size w3 W → k < Lu.length → i < Lu.length → k ≠ i → Calls Try.prog 29 #[.slice (rA Lu k).A (rA Lu k).zs.length (rA Lu k).cap, .slice (rA Lu i).A (rA Lu i).zs.length (rA Lu i).cap] W (BPost W.heap.size W false)) := fun W k i hW hk hi hne => by
    have h1 := (RU.out W hW).2 _ (rA_mem hk)
    have h2 := (RU.out W hW).2 _ (rA_mem hi)
    have h := rleq_law _ _ _ _ (rA Lu k).cap (rA Lu i).cap W h1.1 h2.1 (by have := h1.2; omega)
    rw [min_leq eu hi hk hne] at h
    exact h
  have CV : Hid (∀ W k, Below w3.heap.size w3 W → k < L.length → Calls Try.prog 30 #[.slice (rA L k).A (rA L k).zs.length (rA L k).cap, .int .i64 (rA Lu 0).zs.length] W (fun e w' => e = .returned (.bool (validL (rA L k).zs (rA Lu 0).zs.length)) ∧ W = w')) := fun W k hW hk => by
    have h1 := (RL.out W hW).2 _ (rA_mem hk)
    exact rvalidn_law _ _ _ _ W h1.1 (by have := h1.2; omega)
  have CX : Hid (∀ W k, Below w3.heap.size w3 W → k < L.length → 0 < Lu.length → validL (rA L k).zs (rA Lu 0).zs.length = true → Calls Try.prog 17 #[.slice Au Lu.length cu, .slice (rA L k).A (rA L k).zs.length (rA L k).cap] W (BPost W.heap.size W true)) := fun W k hW hk h0 hv => by
    have h1 := (RL.out W hW).2 _ (rA_mem hk)
    have h := has_any Au (rA L k).A Lu (rA L k).zs cu (rA L k).cap W (RU.out W hW) (by omega) h1.1 h1.2
    unfold validL at hv
    rw [Bool.and_eq_true, decide_eq_true_eq] at hv
    rw [eu, has_all (x := (rA Lu 0).zs) (eu ▸ mem_at h0) (mem_at hk) hv.2 (by omega)] at h
    exact h
  have TH : Hid (∀ i, i < Lu.length → ∃ k, k < L.length ∧ sameL (rA L k).zs (rA Lu i).zs = true) := fun i hi => min_there eu hi
  have CM : Hid (∀ W, Below w3.heap.size w3 W → Calls Try.prog 13 #[.slice Au Lu.length cu] W (MPost Lu.length W (rowsL Lu))) := fun W hW => by
    have h := make_any Au Lu cu W (RU.out W hW) (by omega)
    rw [show makeL (rowsL Lu) = rowsL Lu by rw [eu, make_make]] at h
    exact h
  have CL : Hid (∀ W A2 c2 Z, Below w3.heap.size w3 W → ReadsL W A2 Z → Z.length ≤ 1000 → rowsL Z = rowsL Lu → Calls Try.prog 12 #[.slice A2 Z.length c2, .slice Au Lu.length cu] W (BPost W.heap.size W true)) := fun W A2 c2 Z hW h1 h2 h3 => by
    have h := lists_any A2 Au Z Lu c2 cu W h1 h2 (RU.out W hW) (by omega)
    rw [sameR_of h3 rfl] at h
    exact h
  have CE : Hid (∀ W, Below w3.heap.size w3 W → Calls Try.prog 25 #[.slice Au Lu.length cu, .slice A L.length c] W (BPost W.heap.size W true)) := fun W hW => by
    have h := same_any Au A Lu L cu c W (RU.out W hW) (by omega) (RL.out W hW) (by omega)
    rw [show smV (rowsL Lu) (rowsL L) = true by rw [eu]; exact same_self _] at h
    exact h
  have CW : Hid (∀ W, Below w3.heap.size w3 W → 0 < Lu.length → Calls Try.prog 15 #[.slice Au Lu.length cu, .int .i64 (rA Lu 0).zs.length] W (BPost W.heap.size W true)) := fun W hW h0 => by
    have h := valid21_any Au Lu cu (rA Lu 0).zs.length W (RU.out W hW) (by omega)
    rw [show valV (rowsL Lu) (rA Lu 0).zs.length = true by rw [eu]; exact val_make (eu ▸ mem_at h0)] at h
    exact h
  clear eu Eu Ru Ra la Nu Duw3
  have hsW := Bw3.out.size
  generalize hn : L.length = n at *
  have HN := Lib.hid hn
  clear hn
  generalize hm : Lu.length = m at *
  have HM := Lib.hid hm
  clear hm
  have BX : Hid (Below w3.heap.size w3 w3) := Below.refl _ _
  go_wp2_with fail
  go_loopw [4] (fun q wr => ∃ i : Nat, i ≤ m ∧ q = .int .i64 i ∧ Hid (Below w3.heap.size w3 wr)) (fun q _ => m - (intOf q).toNat)
  case atStart => exact ⟨0, by omega, rfl, BX.out⟩
  case round =>
    clear BX
    obtain ⟨i, hi, rfl, BX⟩ := hrel
    by_cases him : i < m
    · obtain ⟨bu, ou, e1, _⟩ := (RU.out wr BX.out).1.at i (by rw [HM.out]; exact him)
      subst e1
      have UC : Hid (∀ W j, Below w3.heap.size w3 W → j < m → W.cell? ⟨bu, ou + j, none⟩ = some (.slice (rA Lu j).A (rA Lu j).zs.length (rA Lu j).cap)) := fun W j hW hj => (RU.out W hW).cell j (by rw [HM.out]; exact hj)
      have uc := UC.out wr i BX.out him
      have Th := Lib.hid (TH.out i him)
      obtain ⟨wo, rfl⟩ : ∃ wo, wo = wr := ⟨_, rfl⟩
      go_wp2_with fail
      go_loopw [5, 6] (fun d q wi => ∃ (k : Nat) (dn : Bool), k ≤ n ∧ q = .int .i64 k ∧ d = .bool dn ∧ Hid (∀ j, j < k → sameL (rA L j).zs (rA Lu i).zs = true → dn = true) ∧ Hid (Below w3.heap.size w3 wi)) (fun _ q _ => n - (intOf q).toNat)
      case atStart => exact ⟨0, false, by omega, rfl, rfl, fun j hj => absurd hj (by omega), BX.out⟩
      case round =>
        obtain ⟨k, dn, hk, rfl, rfl, HE, BI⟩ := hrel
        by_cases hkn : k < n
        · obtain ⟨ba, oa, e2, hx⟩ := (RL.out wr BI.out).1.at k (by rw [HN.out]; exact hkn)
          subst e2
          have hy := UC.out wr i BI.out him
          cases dn
          · have CSk : Hid (∀ W, Below w3.heap.size w3 W → Calls Try.prog 27 #[.slice (rA L k).A (rA L k).zs.length (rA L k).cap, .slice (rA Lu i).A (rA Lu i).zs.length (rA Lu i).cap] W (BPost W.heap.size W (sameL (rA L k).zs (rA Lu i).zs))) := fun W hW => CS.out W k i hW hkn him
            have HE2 : Hid (∀ j, j < k + 1 → sameL (rA L j).zs (rA Lu i).zs = true → sameL (rA L k).zs (rA Lu i).zs = true) := fun j hj h => by
              by_cases e : j < k
              · exact absurd (HE.out j e h) (by simp)
              · obtain rfl : j = k := by omega
                exact h
            generalize sameL (rA L k).zs (rA Lu i).zs = sv at *
            generalize rA L k = rl at *
            generalize hru : rA Lu i = ru at *
            have HRU := Lib.hid hru
            clear hru
            obtain ⟨xA, xs, xc⟩ := rl
            obtain ⟨yA, ys, yc⟩ := ru
            dsimp only at *
            go_upto_region 13 with fail
            refine wp_region_held_drew (S := fun w' => w'.cell? ⟨ba, oa + k, none⟩ = some (.slice xA xs.length xc) ∧ w'.cell? ⟨bu, ou + i, none⟩ = some (.slice yA ys.length yc) ∧ Hid (Below w3.heap.size w3 w')) (by kernel_rfl) ?_ (fun hHeld => ?_)
            · exact ⟨hx, hy, BI.out.drew⟩
            refine wpAnyH_take (oi := ⟨_, _, _, _, _, _⟩) (i := 0) (v := ?_) rfl (by kernel_rfl) (by kernel_rfl) (by kernel_rfl) (fun _ _ _ h => h) (Or.inl ⟨by rfl, ?ya0⟩) (by assumption) ?ra0
            case ya0 => (intro w hSw; (try dsimp only at hSw); go_simp; (try with_reducible rfl))
            try simp only [Act.put, List.setIfInBounds_toArray, List.set_cons_zero, List.set_cons_succ]
            refine wpAnyH_take (oi := ⟨_, _, _, _, _, _⟩) (i := 1) (v := ?_) rfl (by kernel_rfl) (by kernel_rfl) (by kernel_rfl) (fun _ _ _ h => h) (Or.inl ⟨by rfl, ?ya1⟩) (by assumption) ?ra1
            case ya1 => (intro w hSw; (try dsimp only at hSw); go_simp; (try with_reducible rfl))
            try simp only [Act.put, List.setIfInBounds_toArray, List.set_cons_zero, List.set_cons_succ]
            refine wpAnyH_take (oi := ⟨_, _, _, _, _, _⟩) (i := 2) (v := ?_) rfl (by kernel_rfl) (by kernel_rfl) (by kernel_rfl) (fun _ _ _ h => h) (Or.inl ⟨by rfl, ?ya2⟩) (by assumption) ?ra2
            case ya2 => (intro w hSw; (try dsimp only at hSw); go_simp; (try with_reducible rfl))
            try simp only [Act.put, List.setIfInBounds_toArray, List.set_cons_zero, List.set_cons_succ]
            refine wpAnyH_take (oi := ⟨_, _, _, _, _, _⟩) (i := 3) (v := ?_) rfl (by kernel_rfl) (by kernel_rfl) (by kernel_rfl) (fun _ _ _ h => h) (Or.inl ⟨by rfl, ?ya3⟩) (by assumption) ?ra3
            case ya3 => (intro w hSw; (try dsimp only at hSw); go_simp; (try with_reducible rfl))
            try simp only [Act.put, List.setIfInBounds_toArray, List.set_cons_zero, List.set_cons_succ]
            refine wpAnyH_take (oi := ⟨_, _, _, _, _, _⟩) (i := 4) (v := ?_) rfl (by kernel_rfl) (by kernel_rfl) (by kernel_rfl) (fun _ _ _ h => h) (Or.inl ⟨by rfl, ?ya4⟩) (by assumption) ?ra4
            case ya4 => (intro w hSw; (try dsimp only at hSw); go_simp; (try with_reducible rfl))
            try simp only [Act.put, List.setIfInBounds_toArray, List.set_cons_zero, List.set_cons_succ]
            refine wpAnyH_take (oi := ⟨_, _, _, _, _, _⟩) (i := 5) (v := ?_) rfl (by kernel_rfl) (by kernel_rfl) (by kernel_rfl) (fun _ _ _ h => h) (Or.inl ⟨by rfl, ?ya5⟩) (by assumption) ?ra5
            case ya5 => (intro w hSw; (try dsimp only at hSw); go_simp; (try with_reducible rfl))
            try simp only [Act.put, List.setIfInBounds_toArray, List.set_cons_zero, List.set_cons_succ]
            refine wpAnyH_take (oi := ⟨_, _, _, _, _, _⟩) (i := 6) (v := ?_) rfl (by kernel_rfl) (by kernel_rfl) (by kernel_rfl) (fun _ _ _ h => h) (Or.inl ⟨by rfl, ?ya6⟩) (by assumption) ?ra6
            case ya6 => (intro w hSw; (try dsimp only at hSw); go_simp; (try with_reducible rfl))
            try simp only [Act.put, List.setIfInBounds_toArray, List.set_cons_zero, List.set_cons_succ]
            refine wpAnyH_take (oi := ⟨_, _, _, _, _, _⟩) (i := 7) (v := ?_) rfl (by kernel_rfl) (by kernel_rfl) (by kernel_rfl) (fun _ _ _ h => h) (Or.inl ⟨by rfl, ?ya7⟩) (by assumption) ?ra7
            case ya7 => (intro w hSw; (try dsimp only at hSw); go_simp; (try with_reducible rfl))
            try simp only [Act.put, List.setIfInBounds_toArray, List.set_cons_zero, List.set_cons_succ]
            refine wpAnyH_take (oi := ⟨_, _, _, _, _, _⟩) (i := 8) (v := ?_) rfl (by kernel_rfl) (by kernel_rfl) (by kernel_rfl) (fun _ _ _ h => h) (Or.inl ⟨by rfl, ?ya8⟩) (by assumption) ?ra8
            case ya8 => (intro w hSw; (try dsimp only at hSw); go_simp; (try with_reducible rfl))
            try simp only [Act.put, List.setIfInBounds_toArray, List.set_cons_zero, List.set_cons_succ]
            refine wpAnyH_take (oi := ⟨_, _, _, _, _, _⟩) (i := 9) (v := ?_) rfl (by kernel_rfl) (by kernel_rfl) (by kernel_rfl) (fun _ _ _ h => h) (Or.inl ⟨by rfl, ?ya9⟩) (by assumption) ?ra9
            case ya9 => (intro w hSw; (try dsimp only at hSw); go_simp; (try with_reducible rfl))
            try simp only [Act.put, List.setIfInBounds_toArray, List.set_cons_zero, List.set_cons_succ]
            refine wpAnyH_ready (rs := [10]) (by kernel_rfl) (by simp) ?_
            refine AllReadyH.cons (o := ⟨_, _, _, _, _, _⟩) rfl (fun K hK => ?_) AllReadyH.nil
            go_simp
            go_at_call 27; refine (CSk.out _ hHeld.2.2.out).mono ?_; rintro e w8 ⟨rfl, K8⟩; (try go_wp2_with fail)
            refine hK.out _ _ ?_ (fun hHeld2 => ?_)
            · exact ⟨keepc hHeld.1 K8, keepc hHeld.2.1 K8, hHeld.2.2.out.trans (K8.mono hHeld.2.2.out.size)⟩
            clear hK K hHeld
            have hHeld := hHeld2
            clear hHeld2
            try simp only [Act.put, List.setIfInBounds_toArray, List.set_cons_zero, List.set_cons_succ]
            refine wpAnyH_take (oi := ⟨_, _, _, _, _, _⟩) (i := 11) (v := ?_) rfl (by kernel_rfl) (by kernel_rfl) (by kernel_rfl) (fun _ _ _ h => h) (Or.inl ⟨by rfl, ?ya11⟩) (by assumption) ?ra11
            case ya11 => (intro w hSw; (try dsimp only at hSw); go_simp; (try with_reducible rfl))
            try simp only [Act.put, List.setIfInBounds_toArray, List.set_cons_zero, List.set_cons_succ]
            refine wpAnyH_take (oi := ⟨_, _, _, _, _, _⟩) (i := 12) (v := ?_) rfl (by kernel_rfl) (by kernel_rfl) (by kernel_rfl) (fun _ _ _ h => h) (Or.inl ⟨by rfl, ?ya12⟩) (by assumption) ?ra12
            case ya12 => (intro w hSw; (try dsimp only at hSw); go_simp; (try with_reducible rfl))
            try simp only [Act.put, List.setIfInBounds_toArray, List.set_cons_zero, List.set_cons_succ]
            refine wpAnyH_done (by kernel_rfl) ?_ _
            have B5 := Lib.hid hHeld.2.2.out
            clear hHeld
            go_wp2
            go_roundw
            case rel => exact ⟨k + 1, sv, by omega, by go_num, rfl, (by first | exact HE2.out | (rw [HRU.out]; exact HE2.out) | (show ∀ j, _ → _ → _; intro j hj h; exact HE2.out j hj h)), B5⟩
            case measure => simp [intOf]; omega
          · go_upto_region 13 with fail
            refine wp_region_held_drew (S := fun w' => Hid (Below w3.heap.size w3 w')) (by kernel_rfl) ?_ (fun hHeld => ?_)
            · exact BI.out.drew
            refine wpAnyH_take (oi := ⟨_, _, _, _, _, _⟩) (i := 0) (v := ?_) rfl (by kernel_rfl) (by kernel_rfl) (by kernel_rfl) (fun _ _ _ h => h) (Or.inl ⟨by rfl, ?yb0⟩) (by assumption) ?rb0
            case yb0 => (intro w hSw; (try dsimp only at hSw); go_simp; (try with_reducible rfl))
            try simp only [Act.put, List.setIfInBounds_toArray, List.set_cons_zero, List.set_cons_succ]
            refine wpAnyH_take (oi := ⟨_, _, _, _, _, _⟩) (i := 1) (v := ?_) rfl (by kernel_rfl) (by kernel_rfl) (by kernel_rfl) (fun _ _ _ h => h) (Or.inl ⟨by rfl, ?yb1⟩) (by assumption) ?rb1
            case yb1 => (intro w hSw; (try dsimp only at hSw); go_simp; (try with_reducible rfl))
            try simp only [Act.put, List.setIfInBounds_toArray, List.set_cons_zero, List.set_cons_succ]
            refine wpAnyH_take (oi := ⟨_, _, _, _, _, _⟩) (i := 2) rfl (by kernel_rfl) (by kernel_rfl) (by kernel_rfl) (fun _ _ _ h => h) (Or.inr ⟨by rfl, rfl⟩) (by assumption) ?rb2
            try simp only [Act.put, List.setIfInBounds_toArray, List.set_cons_zero, List.set_cons_succ]
            refine wpAnyH_take (oi := ⟨_, _, _, _, _, _⟩) (i := 3) rfl (by kernel_rfl) (by kernel_rfl) (by kernel_rfl) (fun _ _ _ h => h) (Or.inr ⟨by rfl, rfl⟩) (by assumption) ?rb3
            try simp only [Act.put, List.setIfInBounds_toArray, List.set_cons_zero, List.set_cons_succ]
            refine wpAnyH_take (oi := ⟨_, _, _, _, _, _⟩) (i := 4) rfl (by kernel_rfl) (by kernel_rfl) (by kernel_rfl) (fun _ _ _ h => h) (Or.inr ⟨by rfl, rfl⟩) (by assumption) ?rb4
            try simp only [Act.put, List.setIfInBounds_toArray, List.set_cons_zero, List.set_cons_succ]
            refine wpAnyH_take (oi := ⟨_, _, _, _, _, _⟩) (i := 5) rfl (by kernel_rfl) (by kernel_rfl) (by kernel_rfl) (fun _ _ _ h => h) (Or.inr ⟨by rfl, rfl⟩) (by assumption) ?rb5
            try simp only [Act.put, List.setIfInBounds_toArray, List.set_cons_zero, List.set_cons_succ]
            refine wpAnyH_take (oi := ⟨_, _, _, _, _, _⟩) (i := 6) rfl (by kernel_rfl) (by kernel_rfl) (by kernel_rfl) (fun _ _ _ h => h) (Or.inr ⟨by rfl, rfl⟩) (by assumption) ?rb6
            try simp only [Act.put, List.setIfInBounds_toArray, List.set_cons_zero, List.set_cons_succ]
            refine wpAnyH_take (oi := ⟨_, _, _, _, _, _⟩) (i := 7) rfl (by kernel_rfl) (by kernel_rfl) (by kernel_rfl) (fun _ _ _ h => h) (Or.inr ⟨by rfl, rfl⟩) (by assumption) ?rb7
            try simp only [Act.put, List.setIfInBounds_toArray, List.set_cons_zero, List.set_cons_succ]
            refine wpAnyH_take (oi := ⟨_, _, _, _, _, _⟩) (i := 8) rfl (by kernel_rfl) (by kernel_rfl) (by kernel_rfl) (fun _ _ _ h => h) (Or.inr ⟨by rfl, rfl⟩) (by assumption) ?rb8
            try simp only [Act.put, List.setIfInBounds_toArray, List.set_cons_zero, List.set_cons_succ]
            refine wpAnyH_take (oi := ⟨_, _, _, _, _, _⟩) (i := 9) rfl (by kernel_rfl) (by kernel_rfl) (by kernel_rfl) (fun _ _ _ h => h) (Or.inr ⟨by rfl, rfl⟩) (by assumption) ?rb9
            try simp only [Act.put, List.setIfInBounds_toArray, List.set_cons_zero, List.set_cons_succ]
            refine wpAnyH_take (oi := ⟨_, _, _, _, _, _⟩) (i := 10) rfl (by kernel_rfl) (by kernel_rfl) (by kernel_rfl) (fun _ _ _ h => h) (Or.inr ⟨by rfl, rfl⟩) (by assumption) ?rb10
            try simp only [Act.put, List.setIfInBounds_toArray, List.set_cons_zero, List.set_cons_succ]
            refine wpAnyH_take (oi := ⟨_, _, _, _, _, _⟩) (i := 11) (v := ?_) rfl (by kernel_rfl) (by kernel_rfl) (by kernel_rfl) (fun _ _ _ h => h) (Or.inl ⟨by rfl, ?yb11⟩) (by assumption) ?rb11
            case yb11 => (intro w hSw; (try dsimp only at hSw); go_simp; (try with_reducible rfl))
            try simp only [Act.put, List.setIfInBounds_toArray, List.set_cons_zero, List.set_cons_succ]
            refine wpAnyH_take (oi := ⟨_, _, _, _, _, _⟩) (i := 12) (v := ?_) rfl (by kernel_rfl) (by kernel_rfl) (by kernel_rfl) (fun _ _ _ h => h) (Or.inl ⟨by rfl, ?yb12⟩) (by assumption) ?rb12
            case yb12 => (intro w hSw; (try dsimp only at hSw); go_simp; (try with_reducible rfl))
            try simp only [Act.put, List.setIfInBounds_toArray, List.set_cons_zero, List.set_cons_succ]
            refine wpAnyH_done (by kernel_rfl) ?_ _
            have B5 := Lib.hid hHeld.out
            clear hHeld
            go_wp2
            go_roundw
            case rel => exact ⟨k + 1, true, by omega, by go_num, rfl, fun _ _ _ => rfl, B5⟩
            case measure => simp [intOf]; omega
        · obtain rfl : k = n := by omega
          have hd : dn = true := by
            obtain ⟨k0, h0, h1⟩ := Th.out
            exact HE.out k0 h0 h1
          subst hd
          have hy := UC.out wr i BI.out him
          have CHi : Hid (∀ W, Below w3.heap.size w3 W → Calls Try.prog 17 #[.slice A k c, .slice (rA Lu i).A (rA Lu i).zs.length (rA Lu i).cap] W (BPost W.heap.size W true)) := fun W hW => CH.out W i hW him
          clear HE uc
          by_cases hi0 : i = 0
          · subst hi0
            have hy : wr.cell? ⟨bu, ou, none⟩ = some (.slice (rA Lu 0).A (rA Lu 0).zs.length (rA Lu 0).cap) := UC.out wr 0 BI.out him
            go_upto_region 14 with fail
            refine wp_region_held_drew (S := fun w' => w'.cell? ⟨bu, ou, none⟩ = some (.slice (rA Lu 0).A (rA Lu 0).zs.length (rA Lu 0).cap) ∧ Hid (Below w3.heap.size w3 w')) (by kernel_rfl) ?_ (fun hHeld => ?_)
            · exact ⟨hy, BI.out.drew⟩
            refine wpAnyH_take (oi := ⟨_, _, _, _, _, _⟩) (i := 0) (v := ?_) rfl (by kernel_rfl) (by kernel_rfl) (by kernel_rfl) (fun _ _ _ h => h) (Or.inl ⟨by rfl, ?yc0⟩) (by assumption) ?rc0
            case yc0 => (intro w hSw; (try dsimp only at hSw); go_simp; (try with_reducible rfl))
            try simp only [Act.put, List.setIfInBounds_toArray, List.set_cons_zero, List.set_cons_succ]
            refine wpAnyH_take (oi := ⟨_, _, _, _, _, _⟩) (i := 1) (v := ?_) rfl (by kernel_rfl) (by kernel_rfl) (by kernel_rfl) (fun _ _ _ h => h) (Or.inl ⟨by rfl, ?yc1⟩) (by assumption) ?rc1
            case yc1 => (intro w hSw; (try dsimp only at hSw); go_simp; (try with_reducible rfl))
            try simp only [Act.put, List.setIfInBounds_toArray, List.set_cons_zero, List.set_cons_succ]
            refine wpAnyH_take (oi := ⟨_, _, _, _, _, _⟩) (i := 2) (v := ?_) rfl (by kernel_rfl) (by kernel_rfl) (by kernel_rfl) (fun _ _ _ h => h) (Or.inl ⟨by rfl, ?yc2⟩) (by assumption) ?rc2
            case yc2 => (intro w hSw; (try dsimp only at hSw); go_simp; (try with_reducible rfl))
            try simp only [Act.put, List.setIfInBounds_toArray, List.set_cons_zero, List.set_cons_succ]
            refine wpAnyH_take (oi := ⟨_, _, _, _, _, _⟩) (i := 3) (v := ?_) rfl (by kernel_rfl) (by kernel_rfl) (by kernel_rfl) (fun _ _ _ h => h) (Or.inl ⟨by rfl, ?yc3⟩) (by assumption) ?rc3
            case yc3 => (intro w hSw; (try dsimp only at hSw); go_simp; (try with_reducible rfl))
            try simp only [Act.put, List.setIfInBounds_toArray, List.set_cons_zero, List.set_cons_succ]
            refine wpAnyH_take (oi := ⟨_, _, _, _, _, _⟩) (i := 4) (v := ?_) rfl (by kernel_rfl) (by kernel_rfl) (by kernel_rfl) (fun _ _ _ h => h) (Or.inl ⟨by rfl, ?yc4⟩) (by assumption) ?rc4
            case yc4 => (intro w hSw; (try dsimp only at hSw); go_simp; (try with_reducible rfl))
            try simp only [Act.put, List.setIfInBounds_toArray, List.set_cons_zero, List.set_cons_succ]
            refine wpAnyH_take (oi := ⟨_, _, _, _, _, _⟩) (i := 5) (v := ?_) rfl (by kernel_rfl) (by kernel_rfl) (by kernel_rfl) (fun _ _ _ h => h) (Or.inl ⟨by rfl, ?yc5⟩) (by assumption) ?rc5
            case yc5 => (intro w hSw; (try dsimp only at hSw); go_simp; (try with_reducible rfl))
            try simp only [Act.put, List.setIfInBounds_toArray, List.set_cons_zero, List.set_cons_succ]
            refine wpAnyH_take (oi := ⟨_, _, _, _, _, _⟩) (i := 6) (v := ?_) rfl (by kernel_rfl) (by kernel_rfl) (by kernel_rfl) (fun _ _ _ h => h) (Or.inl ⟨by rfl, ?yc6⟩) (by assumption) ?rc6
            case yc6 => (intro w hSw; (try dsimp only at hSw); go_simp; (try with_reducible rfl))
            try simp only [Act.put, List.setIfInBounds_toArray, List.set_cons_zero, List.set_cons_succ]
            refine wpAnyH_take (oi := ⟨_, _, _, _, _, _⟩) (i := 7) (v := ?_) rfl (by kernel_rfl) (by kernel_rfl) (by kernel_rfl) (fun _ _ _ h => h) (Or.inl ⟨by rfl, ?yc7⟩) (by assumption) ?rc7
            case yc7 => (intro w hSw; (try dsimp only at hSw); go_simp; (try with_reducible rfl))
            try simp only [Act.put, List.setIfInBounds_toArray, List.set_cons_zero, List.set_cons_succ]
            refine wpAnyH_ready (rs := [8]) (by kernel_rfl) (by simp) ?_
            refine AllReadyH.cons (o := ⟨_, _, _, _, _, _⟩) rfl (fun K hK => ?_) AllReadyH.nil
            go_simp
            go_at_call 17; refine (CHi.out _ hHeld.2.out).mono ?_; rintro e w8 ⟨rfl, K8⟩; (try go_wp2_with fail)
            refine hK.out _ _ ?_ (fun hHeld2 => ?_)
            · exact ⟨keepc hHeld.1 K8, hHeld.2.out.trans (K8.mono hHeld.2.out.size)⟩
            clear hK K hHeld
            have hHeld := hHeld2
            clear hHeld2
            try simp only [Act.put, List.setIfInBounds_toArray, List.set_cons_zero, List.set_cons_succ]
            refine wpAnyH_take (oi := ⟨_, _, _, _, _, _⟩) (i := 9) (v := ?_) rfl (by kernel_rfl) (by kernel_rfl) (by kernel_rfl) (fun _ _ _ h => h) (Or.inl ⟨by rfl, ?yc9⟩) (by assumption) ?rc9
            case yc9 => (intro w hSw; (try dsimp only at hSw); go_simp; (try with_reducible rfl))
            try simp only [Act.put, List.setIfInBounds_toArray, List.set_cons_zero, List.set_cons_succ]
            refine wpAnyH_take (oi := ⟨_, _, _, _, _, _⟩) (i := 10) (v := ?_) rfl (by kernel_rfl) (by kernel_rfl) (by kernel_rfl) (fun _ _ _ h => h) (Or.inl ⟨by rfl, ?yc10⟩) (by assumption) ?rc10
            case yc10 => (intro w hSw; (try dsimp only at hSw); go_simp; (try with_reducible rfl))
            try simp only [Act.put, List.setIfInBounds_toArray, List.set_cons_zero, List.set_cons_succ]
            refine wpAnyH_take (oi := ⟨_, _, _, _, _, _⟩) (i := 11) (v := ?_) rfl (by kernel_rfl) (by kernel_rfl) (by kernel_rfl) (fun _ _ _ h => h) (Or.inl ⟨by rfl, ?yc11⟩) (by assumption) ?rc11
            case yc11 => (intro w hSw; (try dsimp only at hSw); go_simp; (try with_reducible rfl))
            try simp only [Act.put, List.setIfInBounds_toArray, List.set_cons_zero, List.set_cons_succ]
            refine wpAnyH_take (oi := ⟨_, _, _, _, _, _⟩) (i := 12) (v := ?_) rfl (by kernel_rfl) (by kernel_rfl) (by kernel_rfl) (fun _ _ _ h => h) (Or.inl ⟨by rfl, ?yc12⟩) (by assumption) ?rc12
            case yc12 => (intro w hSw; (try dsimp only at hSw); go_simp; (try with_reducible rfl))
            try simp only [Act.put, List.setIfInBounds_toArray, List.set_cons_zero, List.set_cons_succ]
            refine wpAnyH_take (oi := ⟨_, _, _, _, _, _⟩) (i := 13) (v := ?_) rfl (by kernel_rfl) (by kernel_rfl) (by kernel_rfl) (fun _ _ _ h => h) (Or.inl ⟨by rfl, ?yc13⟩) (by assumption) ?rc13
            case yc13 => (intro w hSw; (try dsimp only at hSw); go_simp; (try with_reducible rfl))
            try simp only [Act.put, List.setIfInBounds_toArray, List.set_cons_zero, List.set_cons_succ]
            refine wpAnyH_take (oi := ⟨_, _, _, _, _, _⟩) (i := 14) (v := ?_) rfl (by kernel_rfl) (by kernel_rfl) (by kernel_rfl) (fun _ _ _ h => h) (Or.inl ⟨by rfl, ?yc14⟩) (by assumption) ?rc14
            case yc14 => (intro w hSw; (try dsimp only at hSw); go_simp; (try with_reducible rfl))
            try simp only [Act.put, List.setIfInBounds_toArray, List.set_cons_zero, List.set_cons_succ]
            refine wpAnyH_take (oi := ⟨_, _, _, _, _, _⟩) (i := 15) rfl (by kernel_rfl) (by kernel_rfl) (by kernel_rfl) (fun _ _ _ h => h) (Or.inr ⟨by rfl, rfl⟩) (by assumption) ?rc15
            try simp only [Act.put, List.setIfInBounds_toArray, List.set_cons_zero, List.set_cons_succ]
            refine wpAnyH_take (oi := ⟨_, _, _, _, _, _⟩) (i := 16) rfl (by kernel_rfl) (by kernel_rfl) (by kernel_rfl) (fun _ _ _ h => h) (Or.inr ⟨by rfl, rfl⟩) (by assumption) ?rc16
            try simp only [Act.put, List.setIfInBounds_toArray, List.set_cons_zero, List.set_cons_succ]
            refine wpAnyH_take (oi := ⟨_, _, _, _, _, _⟩) (i := 17) rfl (by kernel_rfl) (by kernel_rfl) (by kernel_rfl) (fun _ _ _ h => h) (Or.inr ⟨by rfl, rfl⟩) (by assumption) ?rc17
            try simp only [Act.put, List.setIfInBounds_toArray, List.set_cons_zero, List.set_cons_succ]
            refine wpAnyH_take (oi := ⟨_, _, _, _, _, _⟩) (i := 18) rfl (by kernel_rfl) (by kernel_rfl) (by kernel_rfl) (fun _ _ _ h => h) (Or.inr ⟨by rfl, rfl⟩) (by assumption) ?rc18
            try simp only [Act.put, List.setIfInBounds_toArray, List.set_cons_zero, List.set_cons_succ]
            refine wpAnyH_take (oi := ⟨_, _, _, _, _, _⟩) (i := 19) rfl (by kernel_rfl) (by kernel_rfl) (by kernel_rfl) (fun _ _ _ h => h) (Or.inr ⟨by rfl, rfl⟩) (by assumption) ?rc19
            try simp only [Act.put, List.setIfInBounds_toArray, List.set_cons_zero, List.set_cons_succ]
            refine wpAnyH_take (oi := ⟨_, _, _, _, _, _⟩) (i := 20) rfl (by kernel_rfl) (by kernel_rfl) (by kernel_rfl) (fun _ _ _ h => h) (Or.inr ⟨by rfl, rfl⟩) (by assumption) ?rc20
            try simp only [Act.put, List.setIfInBounds_toArray, List.set_cons_zero, List.set_cons_succ]
            refine wpAnyH_take (oi := ⟨_, _, _, _, _, _⟩) (i := 21) rfl (by kernel_rfl) (by kernel_rfl) (by kernel_rfl) (fun _ _ _ h => h) (Or.inr ⟨by rfl, rfl⟩) (by assumption) ?rc21
            try simp only [Act.put, List.setIfInBounds_toArray, List.set_cons_zero, List.set_cons_succ]
            refine wpAnyH_take (oi := ⟨_, _, _, _, _, _⟩) (i := 22) rfl (by kernel_rfl) (by kernel_rfl) (by kernel_rfl) (fun _ _ _ h => h) (Or.inr ⟨by rfl, rfl⟩) (by assumption) ?rc22
            try simp only [Act.put, List.setIfInBounds_toArray, List.set_cons_zero, List.set_cons_succ]
            refine wpAnyH_take (oi := ⟨_, _, _, _, _, _⟩) (i := 23) rfl (by kernel_rfl) (by kernel_rfl) (by kernel_rfl) (fun _ _ _ h => h) (Or.inr ⟨by rfl, rfl⟩) (by assumption) ?rc23
            try simp only [Act.put, List.setIfInBounds_toArray, List.set_cons_zero, List.set_cons_succ]
            refine wpAnyH_take (oi := ⟨_, _, _, _, _, _⟩) (i := 24) rfl (by kernel_rfl) (by kernel_rfl) (by kernel_rfl) (fun _ _ _ h => h) (Or.inr ⟨by rfl, rfl⟩) (by assumption) ?rc24
            try simp only [Act.put, List.setIfInBounds_toArray, List.set_cons_zero, List.set_cons_succ]
            refine wpAnyH_take (oi := ⟨_, _, _, _, _, _⟩) (i := 25) rfl (by kernel_rfl) (by kernel_rfl) (by kernel_rfl) (fun _ _ _ h => h) (Or.inr ⟨by rfl, rfl⟩) (by assumption) ?rc25
            try simp only [Act.put, List.setIfInBounds_toArray, List.set_cons_zero, List.set_cons_succ]
            refine wpAnyH_take (oi := ⟨_, _, _, _, _, _⟩) (i := 26) (v := ?_) rfl (by kernel_rfl) (by kernel_rfl) (by kernel_rfl) (fun _ _ _ h => h) (Or.inl ⟨by rfl, ?yc26⟩) (by assumption) ?rc26
            case yc26 => (intro w hSw; (try dsimp only at hSw); go_simp; (try with_reducible rfl))
            try simp only [Act.put, List.setIfInBounds_toArray, List.set_cons_zero, List.set_cons_succ]
            refine wpAnyH_take (oi := ⟨_, _, _, _, _, _⟩) (i := 27) (v := ?_) rfl (by kernel_rfl) (by kernel_rfl) (by kernel_rfl) (fun _ _ _ h => h) (Or.inl ⟨by rfl, ?yc27⟩) (by assumption) ?rc27
            case yc27 => (intro w hSw; (try dsimp only at hSw); go_simp; (try with_reducible rfl))
            try simp only [Act.put, List.setIfInBounds_toArray, List.set_cons_zero, List.set_cons_succ]
            refine wpAnyH_done (by kernel_rfl) ?_ _
            have BZ := Lib.hid hHeld.2.out
            clear hHeld K8
            go_wp2_with fail
            go_loopw [7] (fun q wi => ∃ k2 : Nat, k2 ≤ m ∧ q = .int .i64 k2 ∧ Hid (Below w3.heap.size w3 wi)) (fun q _ => m - (intOf q).toNat)
            case atStart => exact ⟨0, by omega, rfl, BZ.out⟩
            case round =>
              clear BZ
              obtain ⟨k2, hk2, rfl, BZ⟩ := hrel
              by_cases hk3 : k2 < m
              · by_cases hki : k2 = 0
                · subst hki
                  have hne : ((0 : Int) != 0) = false := by simp
                  go_upto_region 19 with fail
                  refine wp_region_held_drew (S := fun w' => Hid (Below w3.heap.size w3 w')) (by kernel_rfl) ?_ (fun hHeld => ?_)
                  · exact BZ.out.drew
                  refine wpAnyH_take (oi := ⟨_, _, _, _, _, _⟩) (i := 0) (v := ?_) rfl (by kernel_rfl) (by kernel_rfl) (by kernel_rfl) (fun _ _ _ h => h) (Or.inl ⟨by rfl, ?yze0⟩) (by assumption) ?rze0
                  case yze0 => (intro w hSw; (try dsimp only at hSw); go_simp; (try with_reducible rfl))
                  try simp only [Act.put, List.setIfInBounds_toArray, List.set_cons_zero, List.set_cons_succ]
                  refine wpAnyH_take (oi := ⟨_, _, _, _, _, _⟩) (i := 1) (v := ?_) rfl (by kernel_rfl) (by kernel_rfl) (by kernel_rfl) (fun _ _ _ h => h) (Or.inl ⟨by rfl, ?yze1⟩) (by assumption) ?rze1
                  case yze1 => (intro w hSw; (try dsimp only at hSw); go_simp; (try with_reducible rfl))
                  try simp only [Act.put, List.setIfInBounds_toArray, List.set_cons_zero, List.set_cons_succ]
                  refine wpAnyH_take (oi := ⟨_, _, _, _, _, _⟩) (i := 2) (v := ?_) rfl (by kernel_rfl) (by kernel_rfl) (by kernel_rfl) (fun _ _ _ h => h) (Or.inl ⟨by rfl, ?yze2⟩) (by assumption) ?rze2
                  case yze2 => (intro w hSw; (try dsimp only at hSw); go_simp; (try with_reducible rfl))
                  try simp only [Act.put, List.setIfInBounds_toArray, List.set_cons_zero, List.set_cons_succ]
                  refine wpAnyH_take (oi := ⟨_, _, _, _, _, _⟩) (i := 3) (v := ?_) rfl (by kernel_rfl) (by kernel_rfl) (by kernel_rfl) (fun _ _ _ h => h) (Or.inl ⟨by rfl, ?yze3⟩) (by assumption) ?rze3
                  case yze3 => (intro w hSw; (try dsimp only at hSw); go_simp; (try with_reducible rfl))
                  try simp only [Act.put, List.setIfInBounds_toArray, List.set_cons_zero, List.set_cons_succ]
                  refine wpAnyH_take (oi := ⟨_, _, _, _, _, _⟩) (i := 4) rfl (by kernel_rfl) (by kernel_rfl) (by kernel_rfl) (fun _ _ _ h => h) (Or.inr ⟨by rfl, rfl⟩) (by assumption) ?rze4
                  try simp only [Act.put, List.setIfInBounds_toArray, List.set_cons_zero, List.set_cons_succ]
                  refine wpAnyH_take (oi := ⟨_, _, _, _, _, _⟩) (i := 5) rfl (by kernel_rfl) (by kernel_rfl) (by kernel_rfl) (fun _ _ _ h => h) (Or.inr ⟨by rfl, rfl⟩) (by assumption) ?rze5
                  try simp only [Act.put, List.setIfInBounds_toArray, List.set_cons_zero, List.set_cons_succ]
                  refine wpAnyH_take (oi := ⟨_, _, _, _, _, _⟩) (i := 6) rfl (by kernel_rfl) (by kernel_rfl) (by kernel_rfl) (fun _ _ _ h => h) (Or.inr ⟨by rfl, rfl⟩) (by assumption) ?rze6
                  try simp only [Act.put, List.setIfInBounds_toArray, List.set_cons_zero, List.set_cons_succ]
                  refine wpAnyH_take (oi := ⟨_, _, _, _, _, _⟩) (i := 7) rfl (by kernel_rfl) (by kernel_rfl) (by kernel_rfl) (fun _ _ _ h => h) (Or.inr ⟨by rfl, rfl⟩) (by assumption) ?rze7
                  try simp only [Act.put, List.setIfInBounds_toArray, List.set_cons_zero, List.set_cons_succ]
                  refine wpAnyH_take (oi := ⟨_, _, _, _, _, _⟩) (i := 8) rfl (by kernel_rfl) (by kernel_rfl) (by kernel_rfl) (fun _ _ _ h => h) (Or.inr ⟨by rfl, rfl⟩) (by assumption) ?rze8
                  try simp only [Act.put, List.setIfInBounds_toArray, List.set_cons_zero, List.set_cons_succ]
                  refine wpAnyH_take (oi := ⟨_, _, _, _, _, _⟩) (i := 9) rfl (by kernel_rfl) (by kernel_rfl) (by kernel_rfl) (fun _ _ _ h => h) (Or.inr ⟨by rfl, rfl⟩) (by assumption) ?rze9
                  try simp only [Act.put, List.setIfInBounds_toArray, List.set_cons_zero, List.set_cons_succ]
                  refine wpAnyH_take (oi := ⟨_, _, _, _, _, _⟩) (i := 10) rfl (by kernel_rfl) (by kernel_rfl) (by kernel_rfl) (fun _ _ _ h => h) (Or.inr ⟨by rfl, rfl⟩) (by assumption) ?rze10
                  try simp only [Act.put, List.setIfInBounds_toArray, List.set_cons_zero, List.set_cons_succ]
                  refine wpAnyH_take (oi := ⟨_, _, _, _, _, _⟩) (i := 11) rfl (by kernel_rfl) (by kernel_rfl) (by kernel_rfl) (fun _ _ _ h => h) (Or.inr ⟨by rfl, rfl⟩) (by assumption) ?rze11
                  try simp only [Act.put, List.setIfInBounds_toArray, List.set_cons_zero, List.set_cons_succ]
                  refine wpAnyH_take (oi := ⟨_, _, _, _, _, _⟩) (i := 12) rfl (by kernel_rfl) (by kernel_rfl) (by kernel_rfl) (fun _ _ _ h => h) (Or.inr ⟨by rfl, rfl⟩) (by assumption) ?rze12
                  try simp only [Act.put, List.setIfInBounds_toArray, List.set_cons_zero, List.set_cons_succ]
                  refine wpAnyH_take (oi := ⟨_, _, _, _, _, _⟩) (i := 13) (v := ?_) rfl (by kernel_rfl) (by kernel_rfl) (by kernel_rfl) (fun _ _ _ h => h) (Or.inl ⟨by rfl, ?yze13⟩) (by assumption) ?rze13
                  case yze13 => (intro w hSw; (try dsimp only at hSw); go_simp; (try with_reducible rfl))
                  try simp only [Act.put, List.setIfInBounds_toArray, List.set_cons_zero, List.set_cons_succ]
                  refine wpAnyH_done (by kernel_rfl) ?_ _
                  have B5 := Lib.hid hHeld.out
                  clear hHeld
                  go_wp2
                  go_roundw
                  case rel => exact ⟨0 + 1, by omega, by go_num, B5⟩
                  case measure => simp [intOf]; omega
                · have hz1 := UC.out wr k2 BZ.out hk3
                  have hz2 : wr.cell? ⟨bu, ou, none⟩ = some (.slice (rA Lu 0).A (rA Lu 0).zs.length (rA Lu 0).cap) := UC.out wr (0) BZ.out him
                  have CQi : Hid (∀ W, Below w3.heap.size w3 W → Calls Try.prog 29 #[.slice (rA Lu k2).A (rA Lu k2).zs.length (rA Lu k2).cap, .slice (rA Lu 0).A (rA Lu 0).zs.length (rA Lu 0).cap] W (BPost W.heap.size W false)) := fun W hW => CQ.out W k2 _ hW hk3 him hki
                  have hne : ((k2 : Int) != (0 : Int)) = true := by simp; omega
                  go_upto_region 19 with fail
                  refine wp_region_held_drew (S := fun w' => w'.cell? ⟨bu, ou + k2, none⟩ = some (.slice (rA Lu k2).A (rA Lu k2).zs.length (rA Lu k2).cap) ∧ w'.cell? ⟨bu, ou, none⟩ = some (.slice (rA Lu 0).A (rA Lu 0).zs.length (rA Lu 0).cap) ∧ Hid (Below w3.heap.size w3 w')) (by kernel_rfl) ?_ (fun hHeld => ?_)
                  · exact ⟨hz1, hz2, BZ.out.drew⟩
                  refine wpAnyH_take (oi := ⟨_, _, _, _, _, _⟩) (i := 0) (v := ?_) rfl (by kernel_rfl) (by kernel_rfl) (by kernel_rfl) (fun _ _ _ h => h) (Or.inl ⟨by rfl, ?yzf0⟩) (by assumption) ?rzf0
                  case yzf0 => (intro w hSw; (try dsimp only at hSw); go_simp; (try with_reducible rfl))
                  try simp only [Act.put, List.setIfInBounds_toArray, List.set_cons_zero, List.set_cons_succ]
                  refine wpAnyH_take (oi := ⟨_, _, _, _, _, _⟩) (i := 1) (v := ?_) rfl (by kernel_rfl) (by kernel_rfl) (by kernel_rfl) (fun _ _ _ h => h) (Or.inl ⟨by rfl, ?yzf1⟩) (by assumption) ?rzf1
                  case yzf1 => (intro w hSw; (try dsimp only at hSw); go_simp; (try with_reducible rfl))
                  try simp only [Act.put, List.setIfInBounds_toArray, List.set_cons_zero, List.set_cons_succ]
                  refine wpAnyH_take (oi := ⟨_, _, _, _, _, _⟩) (i := 2) (v := ?_) rfl (by kernel_rfl) (by kernel_rfl) (by kernel_rfl) (fun _ _ _ h => h) (Or.inl ⟨by rfl, ?yzf2⟩) (by assumption) ?rzf2
                  case yzf2 => (intro w hSw; (try dsimp only at hSw); go_simp; (try with_reducible rfl))
                  try simp only [Act.put, List.setIfInBounds_toArray, List.set_cons_zero, List.set_cons_succ]
                  refine wpAnyH_take (oi := ⟨_, _, _, _, _, _⟩) (i := 3) (v := ?_) rfl (by kernel_rfl) (by kernel_rfl) (by kernel_rfl) (fun _ _ _ h => h) (Or.inl ⟨by rfl, ?yzf3⟩) (by assumption) ?rzf3
                  case yzf3 => (intro w hSw; (try dsimp only at hSw); go_simp; (try with_reducible rfl))
                  try simp only [Act.put, List.setIfInBounds_toArray, List.set_cons_zero, List.set_cons_succ]
                  refine wpAnyH_take (oi := ⟨_, _, _, _, _, _⟩) (i := 4) (v := ?_) rfl (by kernel_rfl) (by kernel_rfl) (by kernel_rfl) (fun _ _ _ h => h) (Or.inl ⟨by rfl, ?yzf4⟩) (by assumption) ?rzf4
                  case yzf4 => (intro w hSw; (try dsimp only at hSw); go_simp; (try with_reducible rfl))
                  try simp only [Act.put, List.setIfInBounds_toArray, List.set_cons_zero, List.set_cons_succ]
                  refine wpAnyH_take (oi := ⟨_, _, _, _, _, _⟩) (i := 5) (v := ?_) rfl (by kernel_rfl) (by kernel_rfl) (by kernel_rfl) (fun _ _ _ h => h) (Or.inl ⟨by rfl, ?yzf5⟩) (by assumption) ?rzf5
                  case yzf5 => (intro w hSw; (try dsimp only at hSw); go_simp; (try with_reducible rfl))
                  try simp only [Act.put, List.setIfInBounds_toArray, List.set_cons_zero, List.set_cons_succ]
                  refine wpAnyH_take (oi := ⟨_, _, _, _, _, _⟩) (i := 6) (v := ?_) rfl (by kernel_rfl) (by kernel_rfl) (by kernel_rfl) (fun _ _ _ h => h) (Or.inl ⟨by rfl, ?yzf6⟩) (by assumption) ?rzf6
                  case yzf6 => (intro w hSw; (try dsimp only at hSw); go_simp; (try with_reducible rfl))
                  try simp only [Act.put, List.setIfInBounds_toArray, List.set_cons_zero, List.set_cons_succ]
                  refine wpAnyH_take (oi := ⟨_, _, _, _, _, _⟩) (i := 7) (v := ?_) rfl (by kernel_rfl) (by kernel_rfl) (by kernel_rfl) (fun _ _ _ h => h) (Or.inl ⟨by rfl, ?yzf7⟩) (by assumption) ?rzf7
                  case yzf7 => (intro w hSw; (try dsimp only at hSw); go_simp; (try with_reducible rfl))
                  try simp only [Act.put, List.setIfInBounds_toArray, List.set_cons_zero, List.set_cons_succ]
                  refine wpAnyH_take (oi := ⟨_, _, _, _, _, _⟩) (i := 8) (v := ?_) rfl (by kernel_rfl) (by kernel_rfl) (by kernel_rfl) (fun _ _ _ h => h) (Or.inl ⟨by rfl, ?yzf8⟩) (by assumption) ?rzf8
                  case yzf8 => (intro w hSw; (try dsimp only at hSw); go_simp; (try with_reducible rfl))
                  try simp only [Act.put, List.setIfInBounds_toArray, List.set_cons_zero, List.set_cons_succ]
                  refine wpAnyH_take (oi := ⟨_, _, _, _, _, _⟩) (i := 9) (v := ?_) rfl (by kernel_rfl) (by kernel_rfl) (by kernel_rfl) (fun _ _ _ h => h) (Or.inl ⟨by rfl, ?yzf9⟩) (by assumption) ?rzf9
                  case yzf9 => (intro w hSw; (try dsimp only at hSw); go_simp; (try with_reducible rfl))
                  try simp only [Act.put, List.setIfInBounds_toArray, List.set_cons_zero, List.set_cons_succ]
                  refine wpAnyH_take (oi := ⟨_, _, _, _, _, _⟩) (i := 10) (v := ?_) rfl (by kernel_rfl) (by kernel_rfl) (by kernel_rfl) (fun _ _ _ h => h) (Or.inl ⟨by rfl, ?yzf10⟩) (by assumption) ?rzf10
                  case yzf10 => (intro w hSw; (try dsimp only at hSw); go_simp; (try with_reducible rfl))
                  try simp only [Act.put, List.setIfInBounds_toArray, List.set_cons_zero, List.set_cons_succ]
                  refine wpAnyH_take (oi := ⟨_, _, _, _, _, _⟩) (i := 11) (v := ?_) rfl (by kernel_rfl) (by kernel_rfl) (by kernel_rfl) (fun _ _ _ h => h) (Or.inl ⟨by rfl, ?yzf11⟩) (by assumption) ?rzf11
                  case yzf11 => (intro w hSw; (try dsimp only at hSw); go_simp; (try with_reducible rfl))
                  try simp only [Act.put, List.setIfInBounds_toArray, List.set_cons_zero, List.set_cons_succ]
                  refine wpAnyH_ready (rs := [12]) (by kernel_rfl) (by simp) ?_
                  refine AllReadyH.cons (o := ⟨_, _, _, _, _, _⟩) rfl (fun K hK => ?_) AllReadyH.nil
                  go_simp
                  go_at_call 29; refine (CQi.out _ hHeld.2.2.out).mono ?_; rintro e w8 ⟨rfl, K8⟩; (try go_wp2_with fail)
                  refine hK.out _ _ ?_ (fun hHeld2 => ?_)
                  · exact ⟨keepc hHeld.1 K8, keepc hHeld.2.1 K8, hHeld.2.2.out.trans (K8.mono hHeld.2.2.out.size)⟩
                  clear hK K hHeld
                  have hHeld := hHeld2
                  clear hHeld2
                  try simp only [Act.put, List.setIfInBounds_toArray, List.set_cons_zero, List.set_cons_succ]
                  refine wpAnyH_take (oi := ⟨_, _, _, _, _, _⟩) (i := 13) (v := ?_) rfl (by kernel_rfl) (by kernel_rfl) (by kernel_rfl) (fun _ _ _ h => h) (Or.inl ⟨by rfl, ?yzf13⟩) (by assumption) ?rzf13
                  case yzf13 => (intro w hSw; (try dsimp only at hSw); go_simp; (try with_reducible rfl))
                  try simp only [Act.put, List.setIfInBounds_toArray, List.set_cons_zero, List.set_cons_succ]
                  refine wpAnyH_done (by kernel_rfl) ?_ _
                  have B5 := Lib.hid hHeld.2.2.out
                  clear hHeld K8
                  go_wp2
                  go_roundw
                  case rel => exact ⟨k2 + 1, by omega, by go_num, B5⟩
                  case measure => simp [intOf]; omega
              · obtain rfl : k2 = m := by omega
                go_wp2
                go_roundw
                case rel => exact ⟨0 + 1, by omega, by go_num, BZ⟩
                case measure => simp [intOf]; omega
          · obtain ⟨i1, rfl⟩ : ∃ i1, i = i1 + 1 := ⟨i - 1, by omega⟩
            have hy1 := UC.out wr i1 BI.out (by omega)
            have CCi : Hid (∀ W, Below w3.heap.size w3 W → Calls Try.prog 28 #[.slice (rA Lu i1).A (rA Lu i1).zs.length (rA Lu i1).cap, .slice (rA Lu (i1 + 1)).A (rA Lu (i1 + 1)).zs.length (rA Lu (i1 + 1)).cap] W (fun e w' => e = .returned (.int .i64 (-1)) ∧ Below W.heap.size W w')) := fun W hW => CC.out W i1 hW him
            have hgt : (0 : Int) < (i1 : Int) + 1 := by omega
            have hb0 : (0 : Int) ≤ (i1 : Int) + 1 := by omega
            have hb1 : (i1 : Int) + 1 < (m : Int) := by omega
            have hsub : wrap64 ((i1 : Int) + 1 - 1) = (i1 : Int) := by unfold wrap64; omega
            have hsub2 : wrap64 (i1 : Int) = (i1 : Int) := by unfold wrap64; omega
            have hi1m : i1 < m := by omega
            have hsub3 : IntKind.i64.wrap (i1 : Int) = (i1 : Int) := by rw [IntKind.wrap_i64]; omega
            go_upto_region 14 with fail
            refine wp_region_held_drew (S := fun w' => w'.cell? ⟨bu, ou + (i1 + 1), none⟩ = some (.slice (rA Lu (i1 + 1)).A (rA Lu (i1 + 1)).zs.length (rA Lu (i1 + 1)).cap) ∧ w'.cell? ⟨bu, ou + i1, none⟩ = some (.slice (rA Lu i1).A (rA Lu i1).zs.length (rA Lu i1).cap) ∧ Hid (Below w3.heap.size w3 w')) (by kernel_rfl) ?_ (fun hHeld => ?_)
            · exact ⟨hy, hy1, BI.out.drew⟩
            refine wpAnyH_take (oi := ⟨_, _, _, _, _, _⟩) (i := 0) (v := ?_) rfl (by kernel_rfl) (by kernel_rfl) (by kernel_rfl) (fun _ _ _ h => h) (Or.inl ⟨by rfl, ?yd0⟩) (by assumption) ?rd0
            case yd0 => (intro w hSw; (try dsimp only at hSw); go_simp; (try with_reducible rfl))
            try simp only [Act.put, List.setIfInBounds_toArray, List.set_cons_zero, List.set_cons_succ]
            refine wpAnyH_take (oi := ⟨_, _, _, _, _, _⟩) (i := 1) (v := ?_) rfl (by kernel_rfl) (by kernel_rfl) (by kernel_rfl) (fun _ _ _ h => h) (Or.inl ⟨by rfl, ?yd1⟩) (by assumption) ?rd1
            case yd1 => (intro w hSw; (try dsimp only at hSw); go_simp; (try with_reducible rfl))
            try simp only [Act.put, List.setIfInBounds_toArray, List.set_cons_zero, List.set_cons_succ]
            refine wpAnyH_take (oi := ⟨_, _, _, _, _, _⟩) (i := 2) (v := ?_) rfl (by kernel_rfl) (by kernel_rfl) (by kernel_rfl) (fun _ _ _ h => h) (Or.inl ⟨by rfl, ?yd2⟩) (by assumption) ?rd2
            case yd2 => (intro w hSw; (try dsimp only at hSw); go_simp; (try with_reducible rfl))
            try simp only [Act.put, List.setIfInBounds_toArray, List.set_cons_zero, List.set_cons_succ]
            refine wpAnyH_take (oi := ⟨_, _, _, _, _, _⟩) (i := 3) (v := ?_) rfl (by kernel_rfl) (by kernel_rfl) (by kernel_rfl) (fun _ _ _ h => h) (Or.inl ⟨by rfl, ?yd3⟩) (by assumption) ?rd3
            case yd3 => (intro w hSw; (try dsimp only at hSw); go_simp; (try with_reducible rfl))
            try simp only [Act.put, List.setIfInBounds_toArray, List.set_cons_zero, List.set_cons_succ]
            refine wpAnyH_take (oi := ⟨_, _, _, _, _, _⟩) (i := 4) (v := ?_) rfl (by kernel_rfl) (by kernel_rfl) (by kernel_rfl) (fun _ _ _ h => h) (Or.inl ⟨by rfl, ?yd4⟩) (by assumption) ?rd4
            case yd4 => (intro w hSw; (try dsimp only at hSw); go_simp; (try with_reducible rfl))
            try simp only [Act.put, List.setIfInBounds_toArray, List.set_cons_zero, List.set_cons_succ]
            refine wpAnyH_take (oi := ⟨_, _, _, _, _, _⟩) (i := 5) (v := ?_) rfl (by kernel_rfl) (by kernel_rfl) (by kernel_rfl) (fun _ _ _ h => h) (Or.inl ⟨by rfl, ?yd5⟩) (by assumption) ?rd5
            case yd5 => (intro w hSw; (try dsimp only at hSw); go_simp; (try with_reducible rfl))
            try simp only [Act.put, List.setIfInBounds_toArray, List.set_cons_zero, List.set_cons_succ]
            refine wpAnyH_take (oi := ⟨_, _, _, _, _, _⟩) (i := 6) (v := ?_) rfl (by kernel_rfl) (by kernel_rfl) (by kernel_rfl) (fun _ _ _ h => h) (Or.inl ⟨by rfl, ?yd6⟩) (by assumption) ?rd6
            case yd6 => (intro w hSw; (try dsimp only at hSw); go_simp; (try with_reducible rfl))
            try simp only [Act.put, List.setIfInBounds_toArray, List.set_cons_zero, List.set_cons_succ]
            refine wpAnyH_take (oi := ⟨_, _, _, _, _, _⟩) (i := 7) (v := ?_) rfl (by kernel_rfl) (by kernel_rfl) (by kernel_rfl) (fun _ _ _ h => h) (Or.inl ⟨by rfl, ?yd7⟩) (by assumption) ?rd7
            case yd7 => (intro w hSw; (try dsimp only at hSw); go_simp; (try with_reducible rfl))
            try simp only [Act.put, List.setIfInBounds_toArray, List.set_cons_zero, List.set_cons_succ]
            refine wpAnyH_ready (rs := [8]) (by kernel_rfl) (by simp) ?_
            refine AllReadyH.cons (o := ⟨_, _, _, _, _, _⟩) rfl (fun K hK => ?_) AllReadyH.nil
            go_simp
            go_at_call 17; refine (CHi.out _ hHeld.2.2.out).mono ?_; rintro e w8 ⟨rfl, K8⟩; (try go_wp2_with fail)
            refine hK.out _ _ ?_ (fun hHeld2 => ?_)
            · exact ⟨keepc hHeld.1 K8, keepc hHeld.2.1 K8, hHeld.2.2.out.trans (K8.mono hHeld.2.2.out.size)⟩
            clear hK K hHeld
            have hHeld := hHeld2
            clear hHeld2
            try simp only [Act.put, List.setIfInBounds_toArray, List.set_cons_zero, List.set_cons_succ]
            refine wpAnyH_take (oi := ⟨_, _, _, _, _, _⟩) (i := 9) (v := ?_) rfl (by kernel_rfl) (by kernel_rfl) (by kernel_rfl) (fun _ _ _ h => h) (Or.inl ⟨by rfl, ?yd9⟩) (by assumption) ?rd9
            case yd9 => (intro w hSw; (try dsimp only at hSw); go_simp; (try with_reducible rfl))
            try simp only [Act.put, List.setIfInBounds_toArray, List.set_cons_zero, List.set_cons_succ]
            refine wpAnyH_take (oi := ⟨_, _, _, _, _, _⟩) (i := 10) (v := ?_) rfl (by kernel_rfl) (by kernel_rfl) (by kernel_rfl) (fun _ _ _ h => h) (Or.inl ⟨by rfl, ?yd10⟩) (by assumption) ?rd10
            case yd10 => (intro w hSw; (try dsimp only at hSw); go_simp; (try with_reducible rfl))
            try simp only [Act.put, List.setIfInBounds_toArray, List.set_cons_zero, List.set_cons_succ]
            refine wpAnyH_take (oi := ⟨_, _, _, _, _, _⟩) (i := 11) (v := ?_) rfl (by kernel_rfl) (by kernel_rfl) (by kernel_rfl) (fun _ _ _ h => h) (Or.inl ⟨by rfl, ?yd11⟩) (by assumption) ?rd11
            case yd11 => (intro w hSw; (try dsimp only at hSw); go_simp; (try with_reducible rfl))
            try simp only [Act.put, List.setIfInBounds_toArray, List.set_cons_zero, List.set_cons_succ]
            refine wpAnyH_take (oi := ⟨_, _, _, _, _, _⟩) (i := 12) (v := ?_) rfl (by kernel_rfl) (by kernel_rfl) (by kernel_rfl) (fun _ _ _ h => h) (Or.inl ⟨by rfl, ?yd12⟩) (by assumption) ?rd12
            case yd12 => (intro w hSw; (try dsimp only at hSw); go_simp; (try with_reducible rfl))
            try simp only [Act.put, List.setIfInBounds_toArray, List.set_cons_zero, List.set_cons_succ]
            refine wpAnyH_take (oi := ⟨_, _, _, _, _, _⟩) (i := 13) (v := ?_) rfl (by kernel_rfl) (by kernel_rfl) (by kernel_rfl) (fun _ _ _ h => h) (Or.inl ⟨by rfl, ?yd13⟩) (by assumption) ?rd13
            case yd13 => (intro w hSw; (try dsimp only at hSw); go_simp; (try with_reducible rfl))
            try simp only [Act.put, List.setIfInBounds_toArray, List.set_cons_zero, List.set_cons_succ]
            refine wpAnyH_take (oi := ⟨_, _, _, _, _, _⟩) (i := 14) (v := ?_) rfl (by kernel_rfl) (by kernel_rfl) (by kernel_rfl) (fun _ _ _ h => h) (Or.inl ⟨by rfl, ?yd14⟩) (by assumption) ?rd14
            case yd14 => (intro w hSw; (try dsimp only at hSw); go_simp; (try with_reducible rfl))
            try simp only [Act.put, List.setIfInBounds_toArray, List.set_cons_zero, List.set_cons_succ]
            refine wpAnyH_take (oi := ⟨_, _, _, _, _, _⟩) (i := 15) (v := ?_) rfl (by kernel_rfl) (by kernel_rfl) (by kernel_rfl) (fun _ _ _ h => h) (Or.inl ⟨by rfl, ?yd15⟩) (by assumption) ?rd15
            case yd15 => (intro w hSw; (try dsimp only at hSw); go_simp; (try with_reducible rfl))
            try simp only [Act.put, List.setIfInBounds_toArray, List.set_cons_zero, List.set_cons_succ]
            refine wpAnyH_take (oi := ⟨_, _, _, _, _, _⟩) (i := 16) (v := ?_) rfl (by kernel_rfl) (by kernel_rfl) (by kernel_rfl) (fun _ _ _ h => h) (Or.inl ⟨by rfl, ?yd16⟩) (by assumption) ?rd16
            case yd16 => (intro w hSw; (try dsimp only at hSw); go_simp; (try with_reducible rfl))
            try simp only [Act.put, List.setIfInBounds_toArray, List.set_cons_zero, List.set_cons_succ]
            refine wpAnyH_take (oi := ⟨_, _, _, _, _, _⟩) (i := 17) (v := ?_) rfl (by kernel_rfl) (by kernel_rfl) (by kernel_rfl) (fun _ _ _ h => h) (Or.inl ⟨by rfl, ?yd17⟩) (by assumption) ?rd17
            case yd17 => (intro w hSw; (try dsimp only at hSw); go_simp; (try with_reducible rfl))
            try simp only [Act.put, List.setIfInBounds_toArray, List.set_cons_zero, List.set_cons_succ]
            refine wpAnyH_take (oi := ⟨_, _, _, _, _, _⟩) (i := 18) (v := ?_) rfl (by kernel_rfl) (by kernel_rfl) (by kernel_rfl) (fun _ _ _ h => h) (Or.inl ⟨by rfl, ?yd18⟩) (by assumption) ?rd18
            case yd18 => (intro w hSw; (try dsimp only at hSw); go_simp; (try with_reducible rfl))
            try simp only [Act.put, List.setIfInBounds_toArray, List.set_cons_zero, List.set_cons_succ]
            refine wpAnyH_take (oi := ⟨_, _, _, _, _, _⟩) (i := 19) (v := ?_) rfl (by kernel_rfl) (by kernel_rfl) (by kernel_rfl) (fun _ _ _ h => h) (Or.inl ⟨by rfl, ?yd19⟩) (by assumption) ?rd19
            case yd19 => (intro w hSw; (try dsimp only at hSw); go_simp; (try with_reducible rfl))
            try simp only [Act.put, List.setIfInBounds_toArray, List.set_cons_zero, List.set_cons_succ]
            refine wpAnyH_take (oi := ⟨_, _, _, _, _, _⟩) (i := 20) (v := ?_) rfl (by kernel_rfl) (by kernel_rfl) (by kernel_rfl) (fun _ _ _ h => h) (Or.inl ⟨by rfl, ?yd20⟩) (by assumption) ?rd20
            case yd20 => (intro w hSw; (try dsimp only at hSw); go_simp; (try with_reducible rfl))
            try simp only [Act.put, List.setIfInBounds_toArray, List.set_cons_zero, List.set_cons_succ]
            refine wpAnyH_take (oi := ⟨_, _, _, _, _, _⟩) (i := 21) (v := ?_) rfl (by kernel_rfl) (by kernel_rfl) (by kernel_rfl) (fun _ _ _ h => h) (Or.inl ⟨by rfl, ?yd21⟩) (by assumption) ?rd21
            case yd21 => (intro w hSw; (try dsimp only at hSw); go_simp; (try with_reducible rfl))
            try simp only [Act.put, List.setIfInBounds_toArray, List.set_cons_zero, List.set_cons_succ]
            refine wpAnyH_take (oi := ⟨_, _, _, _, _, _⟩) (i := 22) (v := ?_) rfl (by kernel_rfl) (by kernel_rfl) (by kernel_rfl) (fun _ _ _ h => h) (Or.inl ⟨by rfl, ?yd22⟩) (by assumption) ?rd22
            case yd22 => (intro w hSw; (try dsimp only at hSw); go_simp; (try with_reducible rfl))
            try simp only [Act.put, List.setIfInBounds_toArray, List.set_cons_zero, List.set_cons_succ]
            refine wpAnyH_take (oi := ⟨_, _, _, _, _, _⟩) (i := 23) (v := ?_) rfl (by kernel_rfl) (by kernel_rfl) (by kernel_rfl) (fun _ _ _ h => h) (Or.inl ⟨by rfl, ?yd23⟩) (by assumption) ?rd23
            case yd23 => (intro w hSw; (try dsimp only at hSw); go_simp; (try with_reducible rfl))
            try simp only [Act.put, List.setIfInBounds_toArray, List.set_cons_zero, List.set_cons_succ]
            refine wpAnyH_ready (rs := [24]) (by kernel_rfl) (by simp) ?_
            refine AllReadyH.cons (o := ⟨_, _, _, _, _, _⟩) rfl (fun K hK => ?_) AllReadyH.nil
            go_simp
            go_at_call 28; refine (CCi.out _ hHeld.2.2.out).mono ?_; rintro e w9 ⟨rfl, K9⟩; (try go_wp2_with fail)
            refine hK.out _ _ ?_ (fun hHeld2 => ?_)
            · exact ⟨keepc hHeld.1 K9, keepc hHeld.2.1 K9, hHeld.2.2.out.trans (K9.mono hHeld.2.2.out.size)⟩
            clear hK K hHeld
            have hHeld := hHeld2
            clear hHeld2
            try simp only [Act.put, List.setIfInBounds_toArray, List.set_cons_zero, List.set_cons_succ]
            refine wpAnyH_take (oi := ⟨_, _, _, _, _, _⟩) (i := 25) (v := ?_) rfl (by kernel_rfl) (by kernel_rfl) (by kernel_rfl) (fun _ _ _ h => h) (Or.inl ⟨by rfl, ?yd25⟩) (by assumption) ?rd25
            case yd25 => (intro w hSw; (try dsimp only at hSw); go_simp; (try with_reducible rfl))
            try simp only [Act.put, List.setIfInBounds_toArray, List.set_cons_zero, List.set_cons_succ]
            refine wpAnyH_take (oi := ⟨_, _, _, _, _, _⟩) (i := 26) (v := ?_) rfl (by kernel_rfl) (by kernel_rfl) (by kernel_rfl) (fun _ _ _ h => h) (Or.inl ⟨by rfl, ?yd26⟩) (by assumption) ?rd26
            case yd26 => (intro w hSw; (try dsimp only at hSw); go_simp; (try with_reducible rfl))
            try simp only [Act.put, List.setIfInBounds_toArray, List.set_cons_zero, List.set_cons_succ]
            refine wpAnyH_take (oi := ⟨_, _, _, _, _, _⟩) (i := 27) (v := ?_) rfl (by kernel_rfl) (by kernel_rfl) (by kernel_rfl) (fun _ _ _ h => h) (Or.inl ⟨by rfl, ?yd27⟩) (by assumption) ?rd27
            case yd27 => (intro w hSw; (try dsimp only at hSw); go_simp; (try with_reducible rfl))
            try simp only [Act.put, List.setIfInBounds_toArray, List.set_cons_zero, List.set_cons_succ]
            refine wpAnyH_done (by kernel_rfl) ?_ _
            have BZ := Lib.hid hHeld.2.2.out
            clear hHeld K8 K9
            go_wp2_with fail
            go_loopw [7] (fun q wi => ∃ k2 : Nat, k2 ≤ m ∧ q = .int .i64 k2 ∧ Hid (Below w3.heap.size w3 wi)) (fun q _ => m - (intOf q).toNat)
            case atStart => exact ⟨0, by omega, rfl, BZ.out⟩
            case round =>
              clear BZ
              obtain ⟨k2, hk2, rfl, BZ⟩ := hrel
              by_cases hk3 : k2 < m
              · by_cases hki : k2 = (i1 + 1)
                · subst hki
                  have hne : ((((i1 : Int) + 1) : Int) != ((i1 : Int) + 1)) = false := by simp
                  go_upto_region 19 with fail
                  refine wp_region_held_drew (S := fun w' => Hid (Below w3.heap.size w3 w')) (by kernel_rfl) ?_ (fun hHeld => ?_)
                  · exact BZ.out.drew
                  refine wpAnyH_take (oi := ⟨_, _, _, _, _, _⟩) (i := 0) (v := ?_) rfl (by kernel_rfl) (by kernel_rfl) (by kernel_rfl) (fun _ _ _ h => h) (Or.inl ⟨by rfl, ?ype0⟩) (by assumption) ?rpe0
                  case ype0 => (intro w hSw; (try dsimp only at hSw); go_simp; (try with_reducible rfl))
                  try simp only [Act.put, List.setIfInBounds_toArray, List.set_cons_zero, List.set_cons_succ]
                  refine wpAnyH_take (oi := ⟨_, _, _, _, _, _⟩) (i := 1) (v := ?_) rfl (by kernel_rfl) (by kernel_rfl) (by kernel_rfl) (fun _ _ _ h => h) (Or.inl ⟨by rfl, ?ype1⟩) (by assumption) ?rpe1
                  case ype1 => (intro w hSw; (try dsimp only at hSw); go_simp; (try with_reducible rfl))
                  try simp only [Act.put, List.setIfInBounds_toArray, List.set_cons_zero, List.set_cons_succ]
                  refine wpAnyH_take (oi := ⟨_, _, _, _, _, _⟩) (i := 2) (v := ?_) rfl (by kernel_rfl) (by kernel_rfl) (by kernel_rfl) (fun _ _ _ h => h) (Or.inl ⟨by rfl, ?ype2⟩) (by assumption) ?rpe2
                  case ype2 => (intro w hSw; (try dsimp only at hSw); go_simp; (try with_reducible rfl))
                  try simp only [Act.put, List.setIfInBounds_toArray, List.set_cons_zero, List.set_cons_succ]
                  refine wpAnyH_take (oi := ⟨_, _, _, _, _, _⟩) (i := 3) (v := ?_) rfl (by kernel_rfl) (by kernel_rfl) (by kernel_rfl) (fun _ _ _ h => h) (Or.inl ⟨by rfl, ?ype3⟩) (by assumption) ?rpe3
                  case ype3 => (intro w hSw; (try dsimp only at hSw); go_simp; (try with_reducible rfl))
                  try simp only [Act.put, List.setIfInBounds_toArray, List.set_cons_zero, List.set_cons_succ]
                  refine wpAnyH_take (oi := ⟨_, _, _, _, _, _⟩) (i := 4) rfl (by kernel_rfl) (by kernel_rfl) (by kernel_rfl) (fun _ _ _ h => h) (Or.inr ⟨by rfl, rfl⟩) (by assumption) ?rpe4
                  try simp only [Act.put, List.setIfInBounds_toArray, List.set_cons_zero, List.set_cons_succ]
                  refine wpAnyH_take (oi := ⟨_, _, _, _, _, _⟩) (i := 5) rfl (by kernel_rfl) (by kernel_rfl) (by kernel_rfl) (fun _ _ _ h => h) (Or.inr ⟨by rfl, rfl⟩) (by assumption) ?rpe5
                  try simp only [Act.put, List.setIfInBounds_toArray, List.set_cons_zero, List.set_cons_succ]
                  refine wpAnyH_take (oi := ⟨_, _, _, _, _, _⟩) (i := 6) rfl (by kernel_rfl) (by kernel_rfl) (by kernel_rfl) (fun _ _ _ h => h) (Or.inr ⟨by rfl, rfl⟩) (by assumption) ?rpe6
                  try simp only [Act.put, List.setIfInBounds_toArray, List.set_cons_zero, List.set_cons_succ]
                  refine wpAnyH_take (oi := ⟨_, _, _, _, _, _⟩) (i := 7) rfl (by kernel_rfl) (by kernel_rfl) (by kernel_rfl) (fun _ _ _ h => h) (Or.inr ⟨by rfl, rfl⟩) (by assumption) ?rpe7
                  try simp only [Act.put, List.setIfInBounds_toArray, List.set_cons_zero, List.set_cons_succ]
                  refine wpAnyH_take (oi := ⟨_, _, _, _, _, _⟩) (i := 8) rfl (by kernel_rfl) (by kernel_rfl) (by kernel_rfl) (fun _ _ _ h => h) (Or.inr ⟨by rfl, rfl⟩) (by assumption) ?rpe8
                  try simp only [Act.put, List.setIfInBounds_toArray, List.set_cons_zero, List.set_cons_succ]
                  refine wpAnyH_take (oi := ⟨_, _, _, _, _, _⟩) (i := 9) rfl (by kernel_rfl) (by kernel_rfl) (by kernel_rfl) (fun _ _ _ h => h) (Or.inr ⟨by rfl, rfl⟩) (by assumption) ?rpe9
                  try simp only [Act.put, List.setIfInBounds_toArray, List.set_cons_zero, List.set_cons_succ]
                  refine wpAnyH_take (oi := ⟨_, _, _, _, _, _⟩) (i := 10) rfl (by kernel_rfl) (by kernel_rfl) (by kernel_rfl) (fun _ _ _ h => h) (Or.inr ⟨by rfl, rfl⟩) (by assumption) ?rpe10
                  try simp only [Act.put, List.setIfInBounds_toArray, List.set_cons_zero, List.set_cons_succ]
                  refine wpAnyH_take (oi := ⟨_, _, _, _, _, _⟩) (i := 11) rfl (by kernel_rfl) (by kernel_rfl) (by kernel_rfl) (fun _ _ _ h => h) (Or.inr ⟨by rfl, rfl⟩) (by assumption) ?rpe11
                  try simp only [Act.put, List.setIfInBounds_toArray, List.set_cons_zero, List.set_cons_succ]
                  refine wpAnyH_take (oi := ⟨_, _, _, _, _, _⟩) (i := 12) rfl (by kernel_rfl) (by kernel_rfl) (by kernel_rfl) (fun _ _ _ h => h) (Or.inr ⟨by rfl, rfl⟩) (by assumption) ?rpe12
                  try simp only [Act.put, List.setIfInBounds_toArray, List.set_cons_zero, List.set_cons_succ]
                  refine wpAnyH_take (oi := ⟨_, _, _, _, _, _⟩) (i := 13) (v := ?_) rfl (by kernel_rfl) (by kernel_rfl) (by kernel_rfl) (fun _ _ _ h => h) (Or.inl ⟨by rfl, ?ype13⟩) (by assumption) ?rpe13
                  case ype13 => (intro w hSw; (try dsimp only at hSw); go_simp; (try with_reducible rfl))
                  try simp only [Act.put, List.setIfInBounds_toArray, List.set_cons_zero, List.set_cons_succ]
                  refine wpAnyH_done (by kernel_rfl) ?_ _
                  have B5 := Lib.hid hHeld.out
                  clear hHeld
                  go_wp2
                  go_roundw
                  case rel => exact ⟨(i1 + 1) + 1, by omega, by go_num, B5⟩
                  case measure => simp [intOf]; omega
                · have hz1 := UC.out wr k2 BZ.out hk3
                  have hz2 : wr.cell? ⟨bu, ou + (i1 + 1), none⟩ = some (.slice (rA Lu (i1 + 1)).A (rA Lu (i1 + 1)).zs.length (rA Lu (i1 + 1)).cap) := UC.out wr ((i1 + 1)) BZ.out him
                  have CQi : Hid (∀ W, Below w3.heap.size w3 W → Calls Try.prog 29 #[.slice (rA Lu k2).A (rA Lu k2).zs.length (rA Lu k2).cap, .slice (rA Lu (i1 + 1)).A (rA Lu (i1 + 1)).zs.length (rA Lu (i1 + 1)).cap] W (BPost W.heap.size W false)) := fun W hW => CQ.out W k2 _ hW hk3 him hki
                  have hne : ((k2 : Int) != (((i1 : Int) + 1) : Int)) = true := by simp; omega
                  go_upto_region 19 with fail
                  refine wp_region_held_drew (S := fun w' => w'.cell? ⟨bu, ou + k2, none⟩ = some (.slice (rA Lu k2).A (rA Lu k2).zs.length (rA Lu k2).cap) ∧ w'.cell? ⟨bu, ou + (i1 + 1), none⟩ = some (.slice (rA Lu (i1 + 1)).A (rA Lu (i1 + 1)).zs.length (rA Lu (i1 + 1)).cap) ∧ Hid (Below w3.heap.size w3 w')) (by kernel_rfl) ?_ (fun hHeld => ?_)
                  · exact ⟨hz1, hz2, BZ.out.drew⟩
                  refine wpAnyH_take (oi := ⟨_, _, _, _, _, _⟩) (i := 0) (v := ?_) rfl (by kernel_rfl) (by kernel_rfl) (by kernel_rfl) (fun _ _ _ h => h) (Or.inl ⟨by rfl, ?ypf0⟩) (by assumption) ?rpf0
                  case ypf0 => (intro w hSw; (try dsimp only at hSw); go_simp; (try with_reducible rfl))
                  try simp only [Act.put, List.setIfInBounds_toArray, List.set_cons_zero, List.set_cons_succ]
                  refine wpAnyH_take (oi := ⟨_, _, _, _, _, _⟩) (i := 1) (v := ?_) rfl (by kernel_rfl) (by kernel_rfl) (by kernel_rfl) (fun _ _ _ h => h) (Or.inl ⟨by rfl, ?ypf1⟩) (by assumption) ?rpf1
                  case ypf1 => (intro w hSw; (try dsimp only at hSw); go_simp; (try with_reducible rfl))
                  try simp only [Act.put, List.setIfInBounds_toArray, List.set_cons_zero, List.set_cons_succ]
                  refine wpAnyH_take (oi := ⟨_, _, _, _, _, _⟩) (i := 2) (v := ?_) rfl (by kernel_rfl) (by kernel_rfl) (by kernel_rfl) (fun _ _ _ h => h) (Or.inl ⟨by rfl, ?ypf2⟩) (by assumption) ?rpf2
                  case ypf2 => (intro w hSw; (try dsimp only at hSw); go_simp; (try with_reducible rfl))
                  try simp only [Act.put, List.setIfInBounds_toArray, List.set_cons_zero, List.set_cons_succ]
                  refine wpAnyH_take (oi := ⟨_, _, _, _, _, _⟩) (i := 3) (v := ?_) rfl (by kernel_rfl) (by kernel_rfl) (by kernel_rfl) (fun _ _ _ h => h) (Or.inl ⟨by rfl, ?ypf3⟩) (by assumption) ?rpf3
                  case ypf3 => (intro w hSw; (try dsimp only at hSw); go_simp; (try with_reducible rfl))
                  try simp only [Act.put, List.setIfInBounds_toArray, List.set_cons_zero, List.set_cons_succ]
                  refine wpAnyH_take (oi := ⟨_, _, _, _, _, _⟩) (i := 4) (v := ?_) rfl (by kernel_rfl) (by kernel_rfl) (by kernel_rfl) (fun _ _ _ h => h) (Or.inl ⟨by rfl, ?ypf4⟩) (by assumption) ?rpf4
                  case ypf4 => (intro w hSw; (try dsimp only at hSw); go_simp; (try with_reducible rfl))
                  try simp only [Act.put, List.setIfInBounds_toArray, List.set_cons_zero, List.set_cons_succ]
                  refine wpAnyH_take (oi := ⟨_, _, _, _, _, _⟩) (i := 5) (v := ?_) rfl (by kernel_rfl) (by kernel_rfl) (by kernel_rfl) (fun _ _ _ h => h) (Or.inl ⟨by rfl, ?ypf5⟩) (by assumption) ?rpf5
                  case ypf5 => (intro w hSw; (try dsimp only at hSw); go_simp; (try with_reducible rfl))
                  try simp only [Act.put, List.setIfInBounds_toArray, List.set_cons_zero, List.set_cons_succ]
                  refine wpAnyH_take (oi := ⟨_, _, _, _, _, _⟩) (i := 6) (v := ?_) rfl (by kernel_rfl) (by kernel_rfl) (by kernel_rfl) (fun _ _ _ h => h) (Or.inl ⟨by rfl, ?ypf6⟩) (by assumption) ?rpf6
                  case ypf6 => (intro w hSw; (try dsimp only at hSw); go_simp; (try with_reducible rfl))
                  try simp only [Act.put, List.setIfInBounds_toArray, List.set_cons_zero, List.set_cons_succ]
                  refine wpAnyH_take (oi := ⟨_, _, _, _, _, _⟩) (i := 7) (v := ?_) rfl (by kernel_rfl) (by kernel_rfl) (by kernel_rfl) (fun _ _ _ h => h) (Or.inl ⟨by rfl, ?ypf7⟩) (by assumption) ?rpf7
                  case ypf7 => (intro w hSw; (try dsimp only at hSw); go_simp; (try with_reducible rfl))
                  try simp only [Act.put, List.setIfInBounds_toArray, List.set_cons_zero, List.set_cons_succ]
                  refine wpAnyH_take (oi := ⟨_, _, _, _, _, _⟩) (i := 8) (v := ?_) rfl (by kernel_rfl) (by kernel_rfl) (by kernel_rfl) (fun _ _ _ h => h) (Or.inl ⟨by rfl, ?ypf8⟩) (by assumption) ?rpf8
                  case ypf8 => (intro w hSw; (try dsimp only at hSw); go_simp; (try with_reducible rfl))
                  try simp only [Act.put, List.setIfInBounds_toArray, List.set_cons_zero, List.set_cons_succ]
                  refine wpAnyH_take (oi := ⟨_, _, _, _, _, _⟩) (i := 9) (v := ?_) rfl (by kernel_rfl) (by kernel_rfl) (by kernel_rfl) (fun _ _ _ h => h) (Or.inl ⟨by rfl, ?ypf9⟩) (by assumption) ?rpf9
                  case ypf9 => (intro w hSw; (try dsimp only at hSw); go_simp; (try with_reducible rfl))
                  try simp only [Act.put, List.setIfInBounds_toArray, List.set_cons_zero, List.set_cons_succ]
                  refine wpAnyH_take (oi := ⟨_, _, _, _, _, _⟩) (i := 10) (v := ?_) rfl (by kernel_rfl) (by kernel_rfl) (by kernel_rfl) (fun _ _ _ h => h) (Or.inl ⟨by rfl, ?ypf10⟩) (by assumption) ?rpf10
                  case ypf10 => (intro w hSw; (try dsimp only at hSw); go_simp; (try with_reducible rfl))
                  try simp only [Act.put, List.setIfInBounds_toArray, List.set_cons_zero, List.set_cons_succ]
                  refine wpAnyH_take (oi := ⟨_, _, _, _, _, _⟩) (i := 11) (v := ?_) rfl (by kernel_rfl) (by kernel_rfl) (by kernel_rfl) (fun _ _ _ h => h) (Or.inl ⟨by rfl, ?ypf11⟩) (by assumption) ?rpf11
                  case ypf11 => (intro w hSw; (try dsimp only at hSw); go_simp; (try with_reducible rfl))
                  try simp only [Act.put, List.setIfInBounds_toArray, List.set_cons_zero, List.set_cons_succ]
                  refine wpAnyH_ready (rs := [12]) (by kernel_rfl) (by simp) ?_
                  refine AllReadyH.cons (o := ⟨_, _, _, _, _, _⟩) rfl (fun K hK => ?_) AllReadyH.nil
                  go_simp
                  go_at_call 29; refine (CQi.out _ hHeld.2.2.out).mono ?_; rintro e w8 ⟨rfl, K8⟩; (try go_wp2_with fail)
                  refine hK.out _ _ ?_ (fun hHeld2 => ?_)
                  · exact ⟨keepc hHeld.1 K8, keepc hHeld.2.1 K8, hHeld.2.2.out.trans (K8.mono hHeld.2.2.out.size)⟩
                  clear hK K hHeld
                  have hHeld := hHeld2
                  clear hHeld2
                  try simp only [Act.put, List.setIfInBounds_toArray, List.set_cons_zero, List.set_cons_succ]
                  refine wpAnyH_take (oi := ⟨_, _, _, _, _, _⟩) (i := 13) (v := ?_) rfl (by kernel_rfl) (by kernel_rfl) (by kernel_rfl) (fun _ _ _ h => h) (Or.inl ⟨by rfl, ?ypf13⟩) (by assumption) ?rpf13
                  case ypf13 => (intro w hSw; (try dsimp only at hSw); go_simp; (try with_reducible rfl))
                  try simp only [Act.put, List.setIfInBounds_toArray, List.set_cons_zero, List.set_cons_succ]
                  refine wpAnyH_done (by kernel_rfl) ?_ _
                  have B5 := Lib.hid hHeld.2.2.out
                  clear hHeld K8
                  go_wp2
                  go_roundw
                  case rel => exact ⟨k2 + 1, by omega, by go_num, B5⟩
                  case measure => simp [intOf]; omega
              · obtain rfl : k2 = m := by omega
                go_wp2
                go_roundw
                case rel => exact ⟨(i1 + 1) + 1, by omega, by go_num, BZ⟩
                case measure => simp [intOf]; omega
    · obtain rfl : i = m := by omega
      by_cases hm0 : 0 < i
      · obtain ⟨bu, ou, e1, _⟩ := (RU.out wr BX.out).1.at 0 (by rw [HM.out]; exact hm0)
        subst e1
        have UC : Hid (∀ W j, Below w3.heap.size w3 W → j < i → W.cell? ⟨bu, ou + j, none⟩ = some (.slice (rA Lu j).A (rA Lu j).zs.length (rA Lu j).cap)) := fun W j hW hj => (RU.out W hW).cell j (by rw [HM.out]; exact hj)
        have z0 : ((i : Int) == 0) = false := by simp; omega
        have zg : (0 : Int) < (i : Int) := by omega
        go_wp2_with fail
        go_loopw [8] (fun q wi => ∃ k : Nat, k ≤ n ∧ q = .int .i64 k ∧ Hid (Below w3.heap.size w3 wi)) (fun q _ => n - (intOf q).toNat)
        case atStart => exact ⟨0, by omega, rfl, BX.out⟩
        case round =>
          clear BX
          obtain ⟨k, hk, rfl, BZ⟩ := hrel
          by_cases hkn : k < n
          · obtain ⟨ba, oa, e2, hx⟩ := (RL.out wr BZ.out).1.at k (by rw [HN.out]; exact hkn)
            subst e2
            have hy := UC.out wr 0 BZ.out hm0
            have CVk := fun W (hW : Below w3.heap.size w3 W) => CV.out W k hW hkn
            cases hv : validL (rA L k).zs (rA Lu 0).zs.length
            · rw [hv] at CVk
              have CVk := Lib.hid CVk
              clear hv
              go_upto_region 24 with fail
              refine wp_region_held_drew (S := fun w' => w'.cell? ⟨ba, oa + k, none⟩ = some (.slice (rA L k).A (rA L k).zs.length (rA L k).cap) ∧ w'.cell? ⟨bu, ou, none⟩ = some (.slice (rA Lu 0).A (rA Lu 0).zs.length (rA Lu 0).cap) ∧ Hid (Below w3.heap.size w3 w')) (by kernel_rfl) ?_ (fun hHeld => ?_)
              · exact ⟨hx, hy, BZ.out.drew⟩
              refine wpAnyH_take (oi := ⟨_, _, _, _, _, _⟩) (i := 0) (v := ?_) rfl (by kernel_rfl) (by kernel_rfl) (by kernel_rfl) (fun _ _ _ h => h) (Or.inl ⟨by rfl, ?yg0⟩) (by assumption) ?rg0
              case yg0 => (intro w hSw; (try dsimp only at hSw); go_simp; (try with_reducible rfl))
              try simp only [Act.put, List.setIfInBounds_toArray, List.set_cons_zero, List.set_cons_succ]
              refine wpAnyH_take (oi := ⟨_, _, _, _, _, _⟩) (i := 1) (v := ?_) rfl (by kernel_rfl) (by kernel_rfl) (by kernel_rfl) (fun _ _ _ h => h) (Or.inl ⟨by rfl, ?yg1⟩) (by assumption) ?rg1
              case yg1 => (intro w hSw; (try dsimp only at hSw); go_simp; (try with_reducible rfl))
              try simp only [Act.put, List.setIfInBounds_toArray, List.set_cons_zero, List.set_cons_succ]
              refine wpAnyH_take (oi := ⟨_, _, _, _, _, _⟩) (i := 2) (v := ?_) rfl (by kernel_rfl) (by kernel_rfl) (by kernel_rfl) (fun _ _ _ h => h) (Or.inl ⟨by rfl, ?yg2⟩) (by assumption) ?rg2
              case yg2 => (intro w hSw; (try dsimp only at hSw); go_simp; (try with_reducible rfl))
              try simp only [Act.put, List.setIfInBounds_toArray, List.set_cons_zero, List.set_cons_succ]
              refine wpAnyH_take (oi := ⟨_, _, _, _, _, _⟩) (i := 3) (v := ?_) rfl (by kernel_rfl) (by kernel_rfl) (by kernel_rfl) (fun _ _ _ h => h) (Or.inl ⟨by rfl, ?yg3⟩) (by assumption) ?rg3
              case yg3 => (intro w hSw; (try dsimp only at hSw); go_simp; (try with_reducible rfl))
              try simp only [Act.put, List.setIfInBounds_toArray, List.set_cons_zero, List.set_cons_succ]
              refine wpAnyH_take (oi := ⟨_, _, _, _, _, _⟩) (i := 4) (v := ?_) rfl (by kernel_rfl) (by kernel_rfl) (by kernel_rfl) (fun _ _ _ h => h) (Or.inl ⟨by rfl, ?yg4⟩) (by assumption) ?rg4
              case yg4 => (intro w hSw; (try dsimp only at hSw); go_simp; (try with_reducible rfl))
              try simp only [Act.put, List.setIfInBounds_toArray, List.set_cons_zero, List.set_cons_succ]
              refine wpAnyH_take (oi := ⟨_, _, _, _, _, _⟩) (i := 5) (v := ?_) rfl (by kernel_rfl) (by kernel_rfl) (by kernel_rfl) (fun _ _ _ h => h) (Or.inl ⟨by rfl, ?yg5⟩) (by assumption) ?rg5
              case yg5 => (intro w hSw; (try dsimp only at hSw); go_simp; (try with_reducible rfl))
              try simp only [Act.put, List.setIfInBounds_toArray, List.set_cons_zero, List.set_cons_succ]
              refine wpAnyH_take (oi := ⟨_, _, _, _, _, _⟩) (i := 6) (v := ?_) rfl (by kernel_rfl) (by kernel_rfl) (by kernel_rfl) (fun _ _ _ h => h) (Or.inl ⟨by rfl, ?yg6⟩) (by assumption) ?rg6
              case yg6 => (intro w hSw; (try dsimp only at hSw); go_simp; (try with_reducible rfl))
              try simp only [Act.put, List.setIfInBounds_toArray, List.set_cons_zero, List.set_cons_succ]
              refine wpAnyH_take (oi := ⟨_, _, _, _, _, _⟩) (i := 7) (v := ?_) rfl (by kernel_rfl) (by kernel_rfl) (by kernel_rfl) (fun _ _ _ h => h) (Or.inl ⟨by rfl, ?yg7⟩) (by assumption) ?rg7
              case yg7 => (intro w hSw; (try dsimp only at hSw); go_simp; (try with_reducible rfl))
              try simp only [Act.put, List.setIfInBounds_toArray, List.set_cons_zero, List.set_cons_succ]
              refine wpAnyH_ready (rs := [8]) (by kernel_rfl) (by simp) ?_
              refine AllReadyH.cons (o := ⟨_, _, _, _, _, _⟩) rfl (fun K hK => ?_) AllReadyH.nil
              go_simp
              go_at_call 30; refine (CVk.out _ hHeld.2.2.out).mono ?_; rintro e w8 ⟨rfl, rfl⟩; (try go_wp2_with fail)
              refine hK.out _ _ ?_ (fun hHeld2 => ?_)
              · exact hHeld
              clear hK K hHeld
              have hHeld := hHeld2
              clear hHeld2
              try simp only [Act.put, List.setIfInBounds_toArray, List.set_cons_zero, List.set_cons_succ]
              refine wpAnyH_take (oi := ⟨_, _, _, _, _, _⟩) (i := 9) (v := ?_) rfl (by kernel_rfl) (by kernel_rfl) (by kernel_rfl) (fun _ _ _ h => h) (Or.inl ⟨by rfl, ?yg9⟩) (by assumption) ?rg9
              case yg9 => (intro w hSw; (try dsimp only at hSw); go_simp; (try with_reducible rfl))
              try simp only [Act.put, List.setIfInBounds_toArray, List.set_cons_zero, List.set_cons_succ]
              refine wpAnyH_take (oi := ⟨_, _, _, _, _, _⟩) (i := 10) rfl (by kernel_rfl) (by kernel_rfl) (by kernel_rfl) (fun _ _ _ h => h) (Or.inr ⟨by rfl, rfl⟩) (by assumption) ?rg10
              try simp only [Act.put, List.setIfInBounds_toArray, List.set_cons_zero, List.set_cons_succ]
              refine wpAnyH_take (oi := ⟨_, _, _, _, _, _⟩) (i := 11) rfl (by kernel_rfl) (by kernel_rfl) (by kernel_rfl) (fun _ _ _ h => h) (Or.inr ⟨by rfl, rfl⟩) (by assumption) ?rg11
              try simp only [Act.put, List.setIfInBounds_toArray, List.set_cons_zero, List.set_cons_succ]
              refine wpAnyH_take (oi := ⟨_, _, _, _, _, _⟩) (i := 12) rfl (by kernel_rfl) (by kernel_rfl) (by kernel_rfl) (fun _ _ _ h => h) (Or.inr ⟨by rfl, rfl⟩) (by assumption) ?rg12
              try simp only [Act.put, List.setIfInBounds_toArray, List.set_cons_zero, List.set_cons_succ]
              refine wpAnyH_take (oi := ⟨_, _, _, _, _, _⟩) (i := 13) rfl (by kernel_rfl) (by kernel_rfl) (by kernel_rfl) (fun _ _ _ h => h) (Or.inr ⟨by rfl, rfl⟩) (by assumption) ?rg13
              try simp only [Act.put, List.setIfInBounds_toArray, List.set_cons_zero, List.set_cons_succ]
              refine wpAnyH_take (oi := ⟨_, _, _, _, _, _⟩) (i := 14) rfl (by kernel_rfl) (by kernel_rfl) (by kernel_rfl) (fun _ _ _ h => h) (Or.inr ⟨by rfl, rfl⟩) (by assumption) ?rg14
              try simp only [Act.put, List.setIfInBounds_toArray, List.set_cons_zero, List.set_cons_succ]
              refine wpAnyH_take (oi := ⟨_, _, _, _, _, _⟩) (i := 15) rfl (by kernel_rfl) (by kernel_rfl) (by kernel_rfl) (fun _ _ _ h => h) (Or.inr ⟨by rfl, rfl⟩) (by assumption) ?rg15
              try simp only [Act.put, List.setIfInBounds_toArray, List.set_cons_zero, List.set_cons_succ]
              refine wpAnyH_take (oi := ⟨_, _, _, _, _, _⟩) (i := 16) rfl (by kernel_rfl) (by kernel_rfl) (by kernel_rfl) (fun _ _ _ h => h) (Or.inr ⟨by rfl, rfl⟩) (by assumption) ?rg16
              try simp only [Act.put, List.setIfInBounds_toArray, List.set_cons_zero, List.set_cons_succ]
              refine wpAnyH_take (oi := ⟨_, _, _, _, _, _⟩) (i := 17) (v := ?_) rfl (by kernel_rfl) (by kernel_rfl) (by kernel_rfl) (fun _ _ _ h => h) (Or.inl ⟨by rfl, ?yg17⟩) (by assumption) ?rg17
              case yg17 => (intro w hSw; (try dsimp only at hSw); go_simp; (try with_reducible rfl))
              try simp only [Act.put, List.setIfInBounds_toArray, List.set_cons_zero, List.set_cons_succ]
              refine wpAnyH_done (by kernel_rfl) ?_ _
              have B5 := Lib.hid hHeld.2.2.out
              clear hHeld
              go_wp2
              go_roundw
              case rel => exact ⟨k + 1, by omega, by go_num, B5⟩
              case measure => simp [intOf]; omega
            · rw [hv] at CVk
              have CVk := Lib.hid CVk
              have CXk : Hid (∀ W, Below w3.heap.size w3 W → Calls Try.prog 17 #[.slice (some ⟨bu, ou, none⟩) i cu, .slice (rA L k).A (rA L k).zs.length (rA L k).cap] W (BPost W.heap.size W true)) := fun W hW => CX.out W k hW hkn hm0 hv
              clear hv
              go_upto_region 24 with fail
              refine wp_region_held_drew (S := fun w' => w'.cell? ⟨ba, oa + k, none⟩ = some (.slice (rA L k).A (rA L k).zs.length (rA L k).cap) ∧ w'.cell? ⟨bu, ou, none⟩ = some (.slice (rA Lu 0).A (rA Lu 0).zs.length (rA Lu 0).cap) ∧ Hid (Below w3.heap.size w3 w')) (by kernel_rfl) ?_ (fun hHeld => ?_)
              · exact ⟨hx, hy, BZ.out.drew⟩
              refine wpAnyH_take (oi := ⟨_, _, _, _, _, _⟩) (i := 0) (v := ?_) rfl (by kernel_rfl) (by kernel_rfl) (by kernel_rfl) (fun _ _ _ h => h) (Or.inl ⟨by rfl, ?yh0⟩) (by assumption) ?rh0
              case yh0 => (intro w hSw; (try dsimp only at hSw); go_simp; (try with_reducible rfl))
              try simp only [Act.put, List.setIfInBounds_toArray, List.set_cons_zero, List.set_cons_succ]
              refine wpAnyH_take (oi := ⟨_, _, _, _, _, _⟩) (i := 1) (v := ?_) rfl (by kernel_rfl) (by kernel_rfl) (by kernel_rfl) (fun _ _ _ h => h) (Or.inl ⟨by rfl, ?yh1⟩) (by assumption) ?rh1
              case yh1 => (intro w hSw; (try dsimp only at hSw); go_simp; (try with_reducible rfl))
              try simp only [Act.put, List.setIfInBounds_toArray, List.set_cons_zero, List.set_cons_succ]
              refine wpAnyH_take (oi := ⟨_, _, _, _, _, _⟩) (i := 2) (v := ?_) rfl (by kernel_rfl) (by kernel_rfl) (by kernel_rfl) (fun _ _ _ h => h) (Or.inl ⟨by rfl, ?yh2⟩) (by assumption) ?rh2
              case yh2 => (intro w hSw; (try dsimp only at hSw); go_simp; (try with_reducible rfl))
              try simp only [Act.put, List.setIfInBounds_toArray, List.set_cons_zero, List.set_cons_succ]
              refine wpAnyH_take (oi := ⟨_, _, _, _, _, _⟩) (i := 3) (v := ?_) rfl (by kernel_rfl) (by kernel_rfl) (by kernel_rfl) (fun _ _ _ h => h) (Or.inl ⟨by rfl, ?yh3⟩) (by assumption) ?rh3
              case yh3 => (intro w hSw; (try dsimp only at hSw); go_simp; (try with_reducible rfl))
              try simp only [Act.put, List.setIfInBounds_toArray, List.set_cons_zero, List.set_cons_succ]
              refine wpAnyH_take (oi := ⟨_, _, _, _, _, _⟩) (i := 4) (v := ?_) rfl (by kernel_rfl) (by kernel_rfl) (by kernel_rfl) (fun _ _ _ h => h) (Or.inl ⟨by rfl, ?yh4⟩) (by assumption) ?rh4
              case yh4 => (intro w hSw; (try dsimp only at hSw); go_simp; (try with_reducible rfl))
              try simp only [Act.put, List.setIfInBounds_toArray, List.set_cons_zero, List.set_cons_succ]
              refine wpAnyH_take (oi := ⟨_, _, _, _, _, _⟩) (i := 5) (v := ?_) rfl (by kernel_rfl) (by kernel_rfl) (by kernel_rfl) (fun _ _ _ h => h) (Or.inl ⟨by rfl, ?yh5⟩) (by assumption) ?rh5
              case yh5 => (intro w hSw; (try dsimp only at hSw); go_simp; (try with_reducible rfl))
              try simp only [Act.put, List.setIfInBounds_toArray, List.set_cons_zero, List.set_cons_succ]
              refine wpAnyH_take (oi := ⟨_, _, _, _, _, _⟩) (i := 6) (v := ?_) rfl (by kernel_rfl) (by kernel_rfl) (by kernel_rfl) (fun _ _ _ h => h) (Or.inl ⟨by rfl, ?yh6⟩) (by assumption) ?rh6
              case yh6 => (intro w hSw; (try dsimp only at hSw); go_simp; (try with_reducible rfl))
              try simp only [Act.put, List.setIfInBounds_toArray, List.set_cons_zero, List.set_cons_succ]
              refine wpAnyH_take (oi := ⟨_, _, _, _, _, _⟩) (i := 7) (v := ?_) rfl (by kernel_rfl) (by kernel_rfl) (by kernel_rfl) (fun _ _ _ h => h) (Or.inl ⟨by rfl, ?yh7⟩) (by assumption) ?rh7
              case yh7 => (intro w hSw; (try dsimp only at hSw); go_simp; (try with_reducible rfl))
              try simp only [Act.put, List.setIfInBounds_toArray, List.set_cons_zero, List.set_cons_succ]
              refine wpAnyH_ready (rs := [8]) (by kernel_rfl) (by simp) ?_
              refine AllReadyH.cons (o := ⟨_, _, _, _, _, _⟩) rfl (fun K hK => ?_) AllReadyH.nil
              go_simp
              go_at_call 30; refine (CVk.out _ hHeld.2.2.out).mono ?_; rintro e w8 ⟨rfl, rfl⟩; (try go_wp2_with fail)
              refine hK.out _ _ ?_ (fun hHeld2 => ?_)
              · exact hHeld
              clear hK K hHeld
              have hHeld := hHeld2
              clear hHeld2
              try simp only [Act.put, List.setIfInBounds_toArray, List.set_cons_zero, List.set_cons_succ]
              refine wpAnyH_take (oi := ⟨_, _, _, _, _, _⟩) (i := 9) (v := ?_) rfl (by kernel_rfl) (by kernel_rfl) (by kernel_rfl) (fun _ _ _ h => h) (Or.inl ⟨by rfl, ?yh9⟩) (by assumption) ?rh9
              case yh9 => (intro w hSw; (try dsimp only at hSw); go_simp; (try with_reducible rfl))
              try simp only [Act.put, List.setIfInBounds_toArray, List.set_cons_zero, List.set_cons_succ]
              refine wpAnyH_take (oi := ⟨_, _, _, _, _, _⟩) (i := 10) (v := ?_) rfl (by kernel_rfl) (by kernel_rfl) (by kernel_rfl) (fun _ _ _ h => h) (Or.inl ⟨by rfl, ?yh10⟩) (by assumption) ?rh10
              case yh10 => (intro w hSw; (try dsimp only at hSw); go_simp; (try with_reducible rfl))
              try simp only [Act.put, List.setIfInBounds_toArray, List.set_cons_zero, List.set_cons_succ]
              refine wpAnyH_take (oi := ⟨_, _, _, _, _, _⟩) (i := 11) (v := ?_) rfl (by kernel_rfl) (by kernel_rfl) (by kernel_rfl) (fun _ _ _ h => h) (Or.inl ⟨by rfl, ?yh11⟩) (by assumption) ?rh11
              case yh11 => (intro w hSw; (try dsimp only at hSw); go_simp; (try with_reducible rfl))
              try simp only [Act.put, List.setIfInBounds_toArray, List.set_cons_zero, List.set_cons_succ]
              refine wpAnyH_take (oi := ⟨_, _, _, _, _, _⟩) (i := 12) (v := ?_) rfl (by kernel_rfl) (by kernel_rfl) (by kernel_rfl) (fun _ _ _ h => h) (Or.inl ⟨by rfl, ?yh12⟩) (by assumption) ?rh12
              case yh12 => (intro w hSw; (try dsimp only at hSw); go_simp; (try with_reducible rfl))
              try simp only [Act.put, List.setIfInBounds_toArray, List.set_cons_zero, List.set_cons_succ]
              refine wpAnyH_take (oi := ⟨_, _, _, _, _, _⟩) (i := 13) (v := ?_) rfl (by kernel_rfl) (by kernel_rfl) (by kernel_rfl) (fun _ _ _ h => h) (Or.inl ⟨by rfl, ?yh13⟩) (by assumption) ?rh13
              case yh13 => (intro w hSw; (try dsimp only at hSw); go_simp; (try with_reducible rfl))
              try simp only [Act.put, List.setIfInBounds_toArray, List.set_cons_zero, List.set_cons_succ]
              refine wpAnyH_take (oi := ⟨_, _, _, _, _, _⟩) (i := 14) (v := ?_) rfl (by kernel_rfl) (by kernel_rfl) (by kernel_rfl) (fun _ _ _ h => h) (Or.inl ⟨by rfl, ?yh14⟩) (by assumption) ?rh14
              case yh14 => (intro w hSw; (try dsimp only at hSw); go_simp; (try with_reducible rfl))
              try simp only [Act.put, List.setIfInBounds_toArray, List.set_cons_zero, List.set_cons_succ]
              refine wpAnyH_ready (rs := [15]) (by kernel_rfl) (by simp) ?_
              refine AllReadyH.cons (o := ⟨_, _, _, _, _, _⟩) rfl (fun K hK => ?_) AllReadyH.nil
              go_simp
              go_at_call 17; refine (CXk.out _ hHeld.2.2.out).mono ?_; rintro e w9 ⟨rfl, K9⟩; (try go_wp2_with fail)
              refine hK.out _ _ ?_ (fun hHeld2 => ?_)
              · exact ⟨keepc hHeld.1 K9, keepc hHeld.2.1 K9, hHeld.2.2.out.trans (K9.mono hHeld.2.2.out.size)⟩
              clear hK K hHeld
              have hHeld := hHeld2
              clear hHeld2
              try simp only [Act.put, List.setIfInBounds_toArray, List.set_cons_zero, List.set_cons_succ]
              refine wpAnyH_take (oi := ⟨_, _, _, _, _, _⟩) (i := 16) (v := ?_) rfl (by kernel_rfl) (by kernel_rfl) (by kernel_rfl) (fun _ _ _ h => h) (Or.inl ⟨by rfl, ?yh16⟩) (by assumption) ?rh16
              case yh16 => (intro w hSw; (try dsimp only at hSw); go_simp; (try with_reducible rfl))
              try simp only [Act.put, List.setIfInBounds_toArray, List.set_cons_zero, List.set_cons_succ]
              refine wpAnyH_take (oi := ⟨_, _, _, _, _, _⟩) (i := 17) (v := ?_) rfl (by kernel_rfl) (by kernel_rfl) (by kernel_rfl) (fun _ _ _ h => h) (Or.inl ⟨by rfl, ?yh17⟩) (by assumption) ?rh17
              case yh17 => (intro w hSw; (try dsimp only at hSw); go_simp; (try with_reducible rfl))
              try simp only [Act.put, List.setIfInBounds_toArray, List.set_cons_zero, List.set_cons_succ]
              refine wpAnyH_done (by kernel_rfl) ?_ _
              have B5 := Lib.hid hHeld.2.2.out
              clear hHeld K9
              go_wp2
              go_roundw
              case rel => exact ⟨k + 1, by omega, by go_num, B5⟩
              case measure => simp [intOf]; omega
          · obtain rfl : k = n := by omega
            go_wp2_with fail
            refine (CM.out _ BZ.out).mono ?_
            rintro e w5 ⟨A5, c5, Z5, rfl, E5, N5, R5, K5⟩
            have B5 := Lib.hid (BZ.out.trans (K5.mono BZ.out.size))
            have CL5 := Lib.hid (CL.out w5 A5 c5 Z5 B5.out R5 (by omega) E5)
            clear K5 R5
            go_wp2_with fail
            refine CL5.out.mono ?_
            rintro e w6 ⟨rfl, K6⟩
            have B6 := Lib.hid (B5.out.trans (K6.mono B5.out.size))
            clear K6 CL5
            go_wp2_with fail
            refine (CE.out _ B6.out).mono ?_
            rintro e w7 ⟨rfl, K7⟩
            have B7 := Lib.hid (B6.out.trans (K7.mono B6.out.size))
            clear K7
            have hz3 : w7.cell? ⟨bu, ou, none⟩ = some (.slice (rA Lu 0).A (rA Lu 0).zs.length (rA Lu 0).cap) := UC.out w7 0 B7.out hm0
            have CW7 := Lib.hid (CW.out w7 B7.out hm0)
            go_wp2_with fail
            refine CW7.out.mono ?_
            rintro e w8 ⟨rfl, K8⟩
            have B8 := Lib.hid (B7.out.trans (K8.mono B7.out.size))
            clear K8
            go_wp2
            go_ret
            exact ⟨rfl, Bw3.out.trans (B8.out.mono hsW)⟩
      · obtain rfl : i = 0 := by omega
        go_wp2_with fail
        go_loopw [8] (fun q wi => ∃ k : Nat, k ≤ n ∧ q = .int .i64 k ∧ Hid (Below w3.heap.size w3 wi)) (fun q _ => n - (intOf q).toNat)
        case atStart => exact ⟨0, by omega, rfl, BX.out⟩
        case round =>
          clear BX
          obtain ⟨k, hk, rfl, BZ⟩ := hrel
          by_cases hkn : k < n
          · skip
            go_wp2_with fail
            refine (CM.out _ BZ.out).mono ?_
            rintro e w5 ⟨A5, c5, Z5, rfl, E5, N5, R5, K5⟩
            have B5 := Lib.hid (BZ.out.trans (K5.mono BZ.out.size))
            have CL5 := Lib.hid (CL.out w5 A5 c5 Z5 B5.out R5 (by omega) E5)
            clear K5 R5
            go_wp2_with fail
            refine CL5.out.mono ?_
            rintro e w6 ⟨rfl, K6⟩
            have B6 := Lib.hid (B5.out.trans (K6.mono B5.out.size))
            clear K6 CL5
            go_wp2_with fail
            refine (CE.out _ B6.out).mono ?_
            rintro e w7 ⟨rfl, K7⟩
            have B7 := Lib.hid (B6.out.trans (K7.mono B6.out.size))
            clear K7
            go_wp2
            go_ret
            exact ⟨rfl, Bw3.out.trans (B7.out.mono hsW)⟩
          · obtain rfl : k = n := by omega
            go_wp2_with fail
            refine (CM.out _ BZ.out).mono ?_
            rintro e w5 ⟨A5, c5, Z5, rfl, E5, N5, R5, K5⟩
            have B5 := Lib.hid (BZ.out.trans (K5.mono BZ.out.size))
            have CL5 := Lib.hid (CL.out w5 A5 c5 Z5 B5.out R5 (by omega) E5)
            clear K5 R5
            go_wp2_with fail
            refine CL5.out.mono ?_
            rintro e w6 ⟨rfl, K6⟩
            have B6 := Lib.hid (B5.out.trans (K6.mono B5.out.size))
            clear K6 CL5
            go_wp2_with fail
            refine (CE.out _ B6.out).mono ?_
            rintro e w7 ⟨rfl, K7⟩
            have B7 := Lib.hid (B6.out.trans (K7.mono B6.out.size))
            clear K7
            go_wp2
            go_ret
            exact ⟨rfl, Bw3.out.trans (B7.out.mono hsW)⟩
end Go.Proofs.Ytlppoablhipinaa
