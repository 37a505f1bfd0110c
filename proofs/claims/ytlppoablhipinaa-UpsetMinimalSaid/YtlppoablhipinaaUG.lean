/- Contracts of the reference: Few, Lists, Has, Subset, Same, Valid, Union. -/
import Derived.Test.YtlppoablhipinaaUF
import Derived.Laws.AppendOwnNone
namespace Go.Proofs.Ytlppoablhipinaa
open Go.RowKit

def fewB (L : List Row) : Bool := decide (L.length ≤ 12) && L.all fun r => decide (r.zs.length ≤ 26)
theorem rA_all {L : List Row} {p : Row → Bool} (h : ∀ j, j < L.length → p (rA L j) = true) : L.all p = true := by
  rw [List.all_eq_true]
  intro r hr
  obtain ⟨i, hi, rfl⟩ := List.getElem_of_mem hr
  have := h i hi
  unfold rA at this
  rwa [List.getElem?_eq_getElem hi] at this
theorem few_no {L : List Row} {k : Nat} (hk : k < L.length) (h : 26 < (rA L k).zs.length) : fewB L = false := by
  unfold fewB
  rw [Bool.and_eq_false_iff]
  right
  rw [List.all_eq_false]
  exact ⟨_, rA_mem hk, by simpa using h⟩
theorem few_iff {L : List Row} : fewB L = true ↔ L.length ≤ 12 ∧ ∀ r ∈ L, r.zs.length ≤ 26 := by
  unfold fewB
  rw [Bool.and_eq_true, decide_eq_true_eq, List.all_eq_true]
  simp
set_option maxHeartbeats 4000000 in
theorem few_any (A : Option Addr) (L : List Row) (c : Nat) (w : World) (hr : CellsL w A L) (hl : L.length ≤ maxLen) :
    Calls Try.prog 10 #[.slice A L.length c] w (BPost w.heap.size w (fewB L)) := by
  have HL := Lib.hid hr
  clear hr
  unfold maxLen at hl
  obtain ⟨g, hg⟩ : ∃ g, g = w.heap.size := ⟨_, rfl⟩
  have HG := Lib.hid hg
  unfold BPost
  rw [← hg]
  clear hg
  have FN : Hid (∀ k, k < L.length → 26 < (rA L k).zs.length → fewB L = false) := fun k hk => few_no hk
  have F0 : Hid (12 < L.length → fewB L = false) := fun h => by unfold fewB; rw [decide_eq_false (by omega)]; rfl
  have FY : Hid (L.length ≤ 12 → (∀ j, j < L.length → (rA L j).zs.length ≤ 26) → fewB L = true) := fun h h2 => by
    unfold fewB
    rw [decide_eq_true h, rA_all fun j hj => by simpa using h2 j hj]
    rfl
  generalize fewB L = S at *
  generalize hn : L.length = n at *
  have HN := Lib.hid hn
  clear hn
  by_cases h12 : 12 < n
  · have E := Lib.hid (F0.out h12)
    have h12' : (12 : Int) < n := by omega
    go_enter Try.func10, Try.ntmps10
    go_wp2_with fail
    go_ret
    exact ⟨by rw [E.out]; rfl, by rw [HG.out]; exact Below.refl _ _⟩
  · have h12' : ¬ ((12 : Int) < n) := by omega
    go_enter Try.func10, Try.ntmps10
    go_wp2_with fail
    go_loopw [3] (fun q wr => ∃ k : Nat, k ≤ n ∧ q = .int .i64 k ∧ Hid (∀ j, j < k → (rA L j).zs.length ≤ 26) ∧ Hid (Below g w wr)) (fun q _ => n - (intOf q).toNat)
    case atStart => exact ⟨0, by omega, rfl, fun j hj => absurd hj (by omega), Below.refl _ _⟩
    case round =>
      obtain ⟨k, hk, rfl, HE, BB⟩ := hrel
      by_cases hlt : k < n
      · have hkl : k < L.length := by rw [HN.out]; exact hlt
        obtain ⟨ba, oa, e1, hx⟩ := (HL.out.below BB.out (by rw [HG.out]; exact Nat.le_refl _)).at k hkl
        subst e1
        have MK := Lib.hid (FN.out k hlt)
        have HE2 : Hid ((rA L k).zs.length ≤ 26 → ∀ j, j < k + 1 → (rA L j).zs.length ≤ 26) := fun h j hj => by
          by_cases e : j < k
          · exact HE.out j e
          · obtain rfl : j = k := by omega
            exact h
        generalize (rA L k).zs.length = xl at *
        generalize (rA L k).A = xA at *
        generalize (rA L k).cap = xc at *
        by_cases hxl : 26 < xl
        · have E := Lib.hid (MK.out hxl)
          clear HE2 MK
          go_wp2_with fail
          go_ret
          exact ⟨by rw [E.out]; rfl, BB.out⟩
        · have HE3 := Lib.hid (HE2.out (by omega))
          clear HE2 MK
          go_wp2_with fail
          go_roundw
          case rel => exact ⟨k + 1, by omega, by go_num, HE3, BB⟩
          case measure => simp [intOf]; omega
      · obtain rfl : k = n := by omega
        have E := Lib.hid (FY.out (by omega) HE.out)
        go_wp2
        go_ret
        exact ⟨by rw [E.out]; rfl, BB.out⟩

theorem conV_no {L : List Row} {m : List Int} (h : natL m = false) : conV (rowsL L) m = false := by unfold conV; rw [h]; rfl
theorem conV_yes {L : List Row} {m : List Int} {k : Nat} (hm : natL m = true) (hk : k < L.length) (h : leqL (rA L k).zs m = true) : conV (rowsL L) m = true := by
  unfold conV
  rw [hm, any_yes hk h]
  rfl
theorem conV_end {L : List Row} {m : List Int} (h : ∀ i, i < L.length → leqL (rA L i).zs m = false) : conV (rowsL L) m = false := by
  unfold conV
  rw [any_no h, Bool.and_false]
set_option maxHeartbeats 4000000 in
theorem rhas_any (A B : Option Addr) (L : List Row) (m : List Int) (c cb : Nat) (w : World) (hr : ReadsL w A L) (hl : L.length ≤ 1000) (rb : ReadsV w B m) (hm1000 : m.length ≤ 1000) :
    Calls Try.prog 18 #[.slice A L.length c, .slice B m.length cb] w (BPost w.heap.size w (hasV (rowsL L) m)) := by
  have HL := Lib.hid hr
  have RB := Lib.hid rb
  clear hr rb
  obtain ⟨g, hg⟩ : ∃ g, g = w.heap.size := ⟨_, rfl⟩
  have HG := Lib.hid hg
  unfold BPost
  rw [← hg]
  clear hg
  have HV := rvalid_law B m cb w RB.out (by omega)
  have CM := rmake_any A L c w HL.out hl
  unfold MPost at CM
  rw [← HG.out] at CM
  have CM := Lib.hid CM
  have HS : Hid (conV (makeL (rowsL L)) m = hasV (rowsL L) m) := rhas_has _ _
  clear HL
  cases hnat : natL m
  · rw [hnat] at HV
    have HV := Lib.hid HV
    have E : Hid (hasV (rowsL L) m = false) := by show _ = _; rw [← HS.out]; unfold conV; rw [hnat]; rfl
    generalize L.length = n0 at *
    generalize m.length = ml at *
    go_enter Try.func18, Try.ntmps18
    go_wp2_with fail
    refine HV.out.mono ?_
    rintro e w1 ⟨rfl, rfl⟩
    go_wp2
    go_ret
    exact ⟨by rw [E.out]; rfl, by rw [HG.out]; exact Below.refl _ _⟩
  · rw [hnat] at HV
    have HV := Lib.hid HV
    have HNT := Lib.hid hnat
    clear hnat
    generalize L.length = n0 at *
    generalize hml : m.length = ml at *
    have HML := Lib.hid hml
    clear hml
    go_enter Try.func18, Try.ntmps18
    go_wp2_with fail
    refine HV.out.mono ?_
    rintro e w0 ⟨rfl, rfl⟩
    go_wp2_with fail
    refine CM.out.mono ?_
    rintro e w1 ⟨A1, c1, U, rfl, E1, N1, R1, B1⟩
    have HR := Lib.hid R1
    have B1 := Lib.hid B1
    have hs1 := B1.out.size
    rw [← HG.out] at hs1
    rw [← E1] at HS
    have CY : Hid (∀ k, k < U.length → leqL (rA U k).zs m = true → hasV (rowsL L) m = true) := fun k hk h => by rw [← HS.out]; exact conV_yes HNT.out hk h
    have CE : Hid ((∀ i, i < U.length → leqL (rA U i).zs m = false) → hasV (rowsL L) m = false) := fun h => by rw [← HS.out]; exact conV_end h
    clear R1 E1 HS CM HV
    generalize hn : U.length = n at *
    have HN := Lib.hid hn
    clear hn
    go_wp2_with fail
    go_loopw [6] (fun q wr => ∃ k : Nat, k ≤ n ∧ q = .int .i64 k ∧ Hid (∀ j, j < k → leqL (rA U j).zs m = false) ∧ Hid (Below w1.heap.size w1 wr)) (fun q _ => n - (intOf q).toNat)
    case atStart => exact ⟨0, by omega, rfl, fun j hj => absurd hj (by omega), Below.refl _ _⟩
    case round =>
      obtain ⟨k, hk, rfl, HE, BB⟩ := hrel
      have BG := Lib.hid (B1.out.trans (BB.out.mono hs1))
      by_cases hlt : k < n
      · have RW := HR.out.below BB.out (Nat.le_refl _)
        have hkl : k < U.length := by rw [HN.out]; exact hlt
        obtain ⟨ba, oa, e1, hx⟩ := RW.1.at k hkl
        subst e1
        have OKk := RW.2 _ (rA_mem hkl)
        have CL := rleq_law (rA U k).A B (rA U k).zs m (rA U k).cap cb wr OKk.1 (RB.out.below BG.out (by rw [HG.out]; exact Nat.le_refl _)) (by have := OKk.2; omega)
        rw [HML.out] at CL
        have MK := Lib.hid (CY.out k hlt)
        have HE2 : Hid (leqL (rA U k).zs m = false → ∀ j, j < k + 1 → leqL (rA U j).zs m = false) := fun h j hj => by
          by_cases e : j < k
          · exact HE.out j e
          · obtain rfl : j = k := by omega
            exact h
        clear RW OKk hkl
        generalize rA U k = r at *
        obtain ⟨xA, xs, xc⟩ := r
        dsimp only at *
        cases hle : leqL xs m
        · have HE3 := Lib.hid (HE2.out hle)
          rw [hle] at CL
          have CL := Lib.hid CL
          clear HE2 MK hle
          go_wp2_with fail
          refine CL.out.mono ?_
          rintro e w3 ⟨rfl, K⟩
          have B3 := Lib.hid (BB.out.trans (K.mono BB.out.size))
          clear K CL
          go_wp2
          go_roundw
          case rel => exact ⟨k + 1, by omega, by go_num, HE3, B3⟩
          case measure => simp [intOf]; omega
        · have E := Lib.hid (MK.out hle)
          rw [hle] at CL
          have CL := Lib.hid CL
          clear HE2 MK hle
          go_wp2_with fail
          refine CL.out.mono ?_
          rintro e w3 ⟨rfl, K⟩
          have B3 := Lib.hid (BG.out.trans (K.mono (Nat.le_trans hs1 BB.out.size)))
          clear K CL
          go_wp2
          go_ret
          exact ⟨by rw [E.out]; rfl, B3.out⟩
      · obtain rfl : k = n := by omega
        have E := Lib.hid (CE.out HE.out)
        go_wp2
        go_ret
        exact ⟨by rw [E.out]; rfl, BG.out⟩

theorem sub_no {U : List Row} {b : List (List Int)} {k : Nat} (hk : k < U.length) (h : hasV b (rA U k).zs = false) : ((rowsL U).all fun m => hasV b m) = false := by
  rw [List.all_eq_false]
  exact ⟨_, List.mem_map.2 ⟨_, rA_mem hk, rfl⟩, by rw [h]; simp⟩
theorem sub_yes {U : List Row} {b : List (List Int)} (h : ∀ j, j < U.length → hasV b (rA U j).zs = true) : ((rowsL U).all fun m => hasV b m) = true := by
  rw [List.all_eq_true]
  intro x hx
  unfold rowsL at hx
  obtain ⟨r, hr, rfl⟩ := List.mem_map.1 hx
  obtain ⟨i, hi, rfl⟩ := List.getElem_of_mem hr
  have := h i hi
  unfold rA at this
  rwa [List.getElem?_eq_getElem hi] at this
set_option maxHeartbeats 4000000 in
theorem rsubset_any (A B : Option Addr) (L M : List Row) (c cb : Nat) (w : World) (hr : ReadsL w A L) (hl : L.length ≤ 1000) (rb : ReadsL w B M) (hm1000 : M.length ≤ 1000) :
    Calls Try.prog 24 #[.slice A L.length c, .slice B M.length cb] w (BPost w.heap.size w (subV (rowsL L) (rowsL M))) := by
  have RB := Lib.hid rb
  obtain ⟨g, hg⟩ : ∃ g, g = w.heap.size := ⟨_, rfl⟩
  have HG := Lib.hid hg
  unfold BPost
  rw [← hg]
  clear hg
  have CM := rmake_any A L c w hr hl
  unfold MPost at CM
  rw [← HG.out] at CM
  have CM := Lib.hid CM
  have HS : Hid (((makeL (rowsL L)).all fun m => hasV (rowsL M) m) = subV (rowsL L) (rowsL M)) := rfl
  clear hr rb
  generalize L.length = n0 at *
  generalize hml : M.length = ml at *
  have HML := Lib.hid hml
  clear hml
  go_enter Try.func24, Try.ntmps24
  go_wp2_with fail
  refine CM.out.mono ?_
  rintro e w1 ⟨A1, c1, U, rfl, E1, N1, R1, B1⟩
  have HR := Lib.hid R1
  have B1 := Lib.hid B1
  have hs1 := B1.out.size
  rw [← HG.out] at hs1
  rw [← E1] at HS
  have CN : Hid (∀ k, k < U.length → hasV (rowsL M) (rA U k).zs = false → subV (rowsL L) (rowsL M) = false) := fun k hk h => by rw [← HS.out]; exact sub_no hk h
  have CE : Hid ((∀ i, i < U.length → hasV (rowsL M) (rA U i).zs = true) → subV (rowsL L) (rowsL M) = true) := fun h => by rw [← HS.out]; exact sub_yes h
  clear R1 E1 HS CM
  generalize hn : U.length = n at *
  have HN := Lib.hid hn
  clear hn
  go_wp2_with fail
  go_loopw [6] (fun q wr => ∃ k : Nat, k ≤ n ∧ q = .int .i64 k ∧ Hid (∀ j, j < k → hasV (rowsL M) (rA U j).zs = true) ∧ Hid (Below w1.heap.size w1 wr)) (fun q _ => n - (intOf q).toNat)
  case atStart => exact ⟨0, by omega, rfl, fun j hj => absurd hj (by omega), Below.refl _ _⟩
  case round =>
    obtain ⟨k, hk, rfl, HE, BB⟩ := hrel
    have BG := Lib.hid (B1.out.trans (BB.out.mono hs1))
    by_cases hlt : k < n
    · have RW := HR.out.below BB.out (Nat.le_refl _)
      have hkl : k < U.length := by rw [HN.out]; exact hlt
      obtain ⟨ba, oa, e1, hx⟩ := RW.1.at k hkl
      subst e1
      have OKk := RW.2 _ (rA_mem hkl)
      have CL := rhas_any B (rA U k).A M (rA U k).zs cb (rA U k).cap wr (RB.out.below BG.out (by rw [HG.out]; exact Nat.le_refl _)) (by rw [HML.out]; exact hm1000) OKk.1 OKk.2
      rw [HML.out] at CL
      have MK := Lib.hid (CN.out k hlt)
      have HE2 : Hid (hasV (rowsL M) (rA U k).zs = true → ∀ j, j < k + 1 → hasV (rowsL M) (rA U j).zs = true) := fun h j hj => by
        by_cases e : j < k
        · exact HE.out j e
        · obtain rfl : j = k := by omega
          exact h
      clear RW OKk hkl
      generalize rA U k = r at *
      obtain ⟨xA, xs, xc⟩ := r
      dsimp only at *
      cases hle : hasV (rowsL M) xs
      · have E := Lib.hid (MK.out hle)
        rw [hle] at CL
        have CL := Lib.hid CL
        clear HE2 MK hle
        go_wp2_with fail
        refine CL.out.mono ?_
        rintro e w3 ⟨rfl, K⟩
        have B3 := Lib.hid (BG.out.trans (K.mono (Nat.le_trans hs1 BB.out.size)))
        clear K CL
        go_wp2
        go_ret
        exact ⟨by rw [E.out]; rfl, B3.out⟩
      · have HE3 := Lib.hid (HE2.out hle)
        rw [hle] at CL
        have CL := Lib.hid CL
        clear HE2 MK hle
        go_wp2_with fail
        refine CL.out.mono ?_
        rintro e w3 ⟨rfl, K⟩
        have B3 := Lib.hid (BB.out.trans (K.mono BB.out.size))
        clear K CL
        go_wp2
        go_roundw
        case rel => exact ⟨k + 1, by omega, by go_num, HE3, B3⟩
        case measure => simp [intOf]; omega
    · obtain rfl : k = n := by omega
      have E := Lib.hid (CE.out HE.out)
      go_wp2
      go_ret
      exact ⟨by rw [E.out]; rfl, BG.out⟩
theorem rsame21_any (A B : Option Addr) (L M : List Row) (c cb : Nat) (w : World) (hr : ReadsL w A L) (hl : L.length ≤ 1000) (rb : ReadsL w B M) (hm : M.length ≤ 1000) :
    Calls Try.prog 26 #[.slice A L.length c, .slice B M.length cb] w (BPost w.heap.size w (smV (rowsL L) (rowsL M))) := by
  have C1 := Lib.hid (rsubset_any A B L M c cb w hr hl rb hm)
  have C2 : Hid (∀ W, Below w.heap.size w W → Calls Try.prog 24 #[.slice B M.length cb, .slice A L.length c] W (BPost W.heap.size W (subV (rowsL M) (rowsL L)))) := fun W hW => rsubset_any B A M L cb c W (rb.below hW (Nat.le_refl _)) hm (hr.below hW (Nat.le_refl _)) hl
  clear hr rb
  unfold smV
  generalize subV (rowsL L) (rowsL M) = x at *
  generalize subV (rowsL M) (rowsL L) = y at *
  generalize L.length = n at *
  generalize M.length = m at *
  cases x
  · go_enter Try.func26, Try.ntmps26
    go_wp2_with fail
    refine C1.out.mono ?_
    rintro e w1 ⟨rfl, K⟩
    have K1 := Lib.hid K
    clear K
    go_wp2
    go_ret
    exact ⟨rfl, K1.out⟩
  · go_enter Try.func26, Try.ntmps26
    go_wp2_with fail
    refine C1.out.mono ?_
    rintro e w1 ⟨rfl, K⟩
    have K1 := Lib.hid K
    clear K
    go_wp2_with fail
    refine (C2.out _ K1.out).mono ?_
    rintro e w2 ⟨rfl, K⟩
    have K2 := Lib.hid (K1.out.trans (K.mono K1.out.size))
    clear K
    go_wp2
    go_ret
    exact ⟨by rw [Bool.true_and]; rfl, K2.out⟩
end Go.Proofs.Ytlppoablhipinaa
