/- Contracts: above, a clone, the usable rows of the program. -/
import Derived.Test.YtlppoablhipinaaUR
namespace Go.Proofs.Ytlppoablhipinaa
open Go.RowKit

theorem above_any (A B : Option Addr) (a b : List Int) (ca cb : Nat) (w : World) (ra : ReadsV w A a) (rb : ReadsV w B b) (hb : b.length ≤ 1000) :
    Calls Try.prog 34 #[.slice A a.length ca, .slice B b.length cb] w (BPost w.heap.size w (leqL b a)) := by
  have C := Lib.hid (leq_law B A b a cb ca w rb ra (by omega))
  clear ra rb
  generalize leqL b a = S at *
  generalize a.length = n at *
  generalize b.length = m at *
  go_enter Try.func34, Try.ntmps34
  go_wp2_with fail
  refine C.out.mono ?_
  rintro e w1 ⟨rfl, B1⟩
  go_wp2
  go_ret
  exact ⟨rfl, B1⟩

set_option maxHeartbeats 4000000 in
theorem usable_any (A : Option Addr) (L : List Row) (c : Nat) (w : World) (hr : ReadsL w A L) (hl : L.length ≤ 1000) :
    Calls Try.prog 31 #[.slice A L.length c] w fun e w' => ∃ v L', e = .returned v ∧ OwnL w' w.heap.size v L' ∧ rowsL L' = usL (rowsL L) ∧ (∀ r ∈ L', r ∈ L) ∧ L'.length ≤ L.length ∧ Below w.heap.size w w' := by
  have HC := Lib.hid hr.1
  have HR := Lib.hid hr.2
  clear hr
  have UT : Hid (∀ k, k < L.length → usL ((rowsL L).take (k + 1)) = stepU (usL ((rowsL L).take k)) (rA L k).zs) := fun k hk => us_step L hk
  have UL : Hid ((rowsL L).take L.length = rowsL L) := rowsL_all L
  generalize hg : w.heap.size = g at *
  have HG := Lib.hid hg
  clear hg
  generalize hn : L.length = n at *
  have HN := Lib.hid hn
  clear hn
  go_enter Try.func31, Try.ntmps31
  go_wp2_with fail
  go_loopw [3, 8] (fun p q wr => ∃ (k : Nat) (M : List Row), k ≤ n ∧ q = .int .i64 k ∧ M.length ≤ k ∧ Hid (OwnL wr g p M) ∧ Hid (rowsL M = usL ((rowsL L).take k)) ∧ Hid (∀ r ∈ M, r ∈ L) ∧ Hid (Below g w wr)) (fun _ q _ => n - (intOf q).toNat)
  case atStart => exact ⟨0, [], by omega, rfl, Nat.le_refl _, OwnL.nil _ _, rfl, fun _ h => (by cases h), Below.refl _ _⟩
  case round =>
    obtain ⟨k, M, hk, rfl, hM, O, E, S, BB⟩ := hrel
    obtain ⟨pA, pc, e0, RM⟩ := O.out.reads
    subst e0
    have RM := Lib.hid RM
    have hOK2 := fun h xs => okU_first (M := M) h xs
    have hOK3 : M.length = 0 → ∀ xs, okU (rowsL M) xs = (natL xs && decide (1 ≤ xs.length ∧ xs.length ≤ 24)) := fun h xs => by
      obtain rfl : M = [] := List.eq_nil_of_length_eq_zero h
      rfl
    have RM0 : Hid (M.length ≠ 0 → ∃ b off, pA = some ⟨b, off, none⟩ ∧ wr.cell? ⟨b, off, none⟩ = some (.slice (rA M 0).A (rA M 0).zs.length (rA M 0).cap)) := fun h => RM.out.1.at 0 (by omega)
    clear RM
    generalize hml : M.length = ml at *
    have HML := Lib.hid hml
    clear hml
    have hsz := BB.out.size
    rw [HG.out] at hsz
    by_cases hlt : k < n
    · have hkL : k < L.length := by rw [HN.out]; exact hlt
      obtain ⟨ba, oa, e1, hx⟩ := (HC.out.below BB.out (by rw [HG.out]; exact Nat.le_refl _)).at k hkL
      subst e1
      have OKk := HR.out _ (rA_mem hkL)
      have hz1000 := OKk.2
      have FA := Lib.hid (FarR.old (s := g) OKk BB.out (by rw [HG.out]; exact Nat.le_refl _) (by rw [HG.out]; exact Nat.le_refl _))
      have HV := Lib.hid (valid_law (rA L k).A (rA L k).zs (rA L k).cap wr (OKk.1.below BB.out (by rw [HG.out]; exact Nat.le_refl _)) (by omega))
      have HM := rA_mem hkL
      have HT : Hid (usL ((rowsL L).take (k + 1)) = stepU (rowsL M) (rA L k).zs) := by
        have h := UT.out k hlt
        show _ = _
        rw [h, ← E.out]
      clear OKk hkL
      generalize rA L k = r at *
      obtain ⟨xA, xs, xc⟩ := r
      dsimp only at *
      replace HM := Lib.hid HM
      by_cases h0 : ml = 0
      · have hOK := Lib.hid (hOK3 h0 xs)
        clear hOK2 hOK3 RM0
        subst h0
        by_cases c1 : xs.length < 1
        · have EN : Hid (usL ((rowsL L).take (k + 1)) = rowsL M) := by
            show _ = _
            rw [HT.out]
            unfold stepU
            rw [hOK.out]
            exact if_neg (by simp; omega)
          clear hOK HT FA HV
          go_wp2_with fail
          go_roundw
          case rel => exact ⟨k + 1, M, by omega, by go_num, by rw [HML.out]; omega, O, EN.out.symm, S, BB⟩
          case measure => simp [intOf]; omega
        by_cases c2 : 24 < xs.length
        · have EN : Hid (usL ((rowsL L).take (k + 1)) = rowsL M) := by
            show _ = _
            rw [HT.out]
            unfold stepU
            rw [hOK.out]
            exact if_neg (by simp; omega)
          clear hOK HT FA HV
          go_wp2_with fail
          go_roundw
          case rel => exact ⟨k + 1, M, by omega, by go_num, by rw [HML.out]; omega, O, EN.out.symm, S, BB⟩
          case measure => simp [intOf]; omega
        by_cases c3 : natL xs = true
        · rw [c3] at HV
          go_wp2_with fail
          refine HV.out.mono ?_
          rintro e w1 ⟨rfl, rfl⟩
          have EN : Hid (usL ((rowsL L).take (k + 1)) = rowsL (M ++ [⟨xA, xs, xc⟩])) := by
            show _ = _
            rw [HT.out, rowsL_snoc]
            unfold stepU
            rw [hOK.out, c3]
            exact if_pos (by simp; omega)
          have SN : Hid (∀ r ∈ M ++ [⟨xA, xs, xc⟩], r ∈ L) := fun r hr => by
            rcases List.mem_append.1 hr with hr | hr
            · exact S.out r hr
            · simp at hr
              subst hr
              exact HM.out
          clear hOK HT
          have hs2 := BB.out.size
          rw [HG.out] at hs2
          go_wp2_with (at_builtin; refine wpList_row rfl (.tmp 43) (.tmp 45) rfl g _ M ⟨xA, xs, xc⟩ rfl (O.out.alloc _) _ rfl (cell_new1 _ _ _) (FA.out.alloc _) (by rw [HML.out]; omega) (size_le_alloc hs2 _) ?_; intro v' w' hown' hb')
          have O2 := Lib.hid hown'
          have B2 : Hid (Below g w w') := (BB.out.alloc hs2 _).trans hb'
          clear hown' hb'
          go_wp2
          go_roundw
          case rel => exact ⟨k + 1, _, by omega, by go_num, by rw [List.length_append, HML.out]; first | (simp; done) | (simp; omega), O2, EN.out.symm, SN, B2⟩
          case measure => simp [intOf]; omega
        · have c3 : natL xs = false := by simpa using c3
          rw [c3] at HV
          go_wp2_with fail
          refine HV.out.mono ?_
          rintro e w1 ⟨rfl, rfl⟩
          have EN : Hid (usL ((rowsL L).take (k + 1)) = rowsL M) := by
            show _ = _
            rw [HT.out]
            unfold stepU
            rw [hOK.out, c3]
            exact if_neg (by simp)
          clear hOK HT FA HV
          go_wp2
          go_roundw
          case rel => exact ⟨k + 1, M, by omega, by go_num, by rw [HML.out]; omega, O, EN.out.symm, S, BB⟩
          case measure => simp [intOf]; omega
      · have hOK := hOK2 h0 xs
        obtain ⟨bm, om, e5, hm0⟩ := RM0.out h0
        clear hOK2 hOK3 RM0
        subst e5
        have z0 : ((ml : Int) == 0) = false := by simp; omega
        generalize rA M 0 = r0 at *
        obtain ⟨r0A, r0z, r0c⟩ := r0
        dsimp only at *
        replace hOK := Lib.hid hOK
        by_cases c3 : natL xs = true
        · rw [c3] at HV
          by_cases c4 : xs.length = r0z.length
          · have c5 : ((xs.length : Int) == (r0z.length : Int)) = true := by simp; omega
            have c6 := Lib.hid c4
            clear c4
            go_wp2_with fail
            refine HV.out.mono ?_
            rintro e w1 ⟨rfl, rfl⟩
            have EN : Hid (usL ((rowsL L).take (k + 1)) = rowsL (M ++ [⟨xA, xs, xc⟩])) := by
              show _ = _
              rw [HT.out, rowsL_snoc]
              unfold stepU
              rw [hOK.out, c3]
              exact if_pos (by simp; exact c6.out)
            have SN : Hid (∀ r ∈ M ++ [⟨xA, xs, xc⟩], r ∈ L) := fun r hr => by
              rcases List.mem_append.1 hr with hr | hr
              · exact S.out r hr
              · simp at hr
                subst hr
                exact HM.out
            clear hOK HT
            have hs2 := BB.out.size
            rw [HG.out] at hs2
            go_wp2_with (at_builtin; refine wpList_row rfl (.tmp 43) (.tmp 45) rfl g _ M ⟨xA, xs, xc⟩ rfl (O.out.alloc _) _ rfl (cell_new1 _ _ _) (FA.out.alloc _) (by rw [HML.out]; omega) (size_le_alloc hs2 _) ?_; intro v' w' hown' hb')
            have O2 := Lib.hid hown'
            have B2 : Hid (Below g w w') := (BB.out.alloc hs2 _).trans hb'
            clear hown' hb'
            go_wp2
            go_roundw
            case rel => exact ⟨k + 1, _, by omega, by go_num, by rw [List.length_append, HML.out]; first | (simp; done) | (simp; omega), O2, EN.out.symm, SN, B2⟩
            case measure => simp [intOf]; omega
          · have c5 : ((xs.length : Int) == (r0z.length : Int)) = false := by simp; omega
            have c6 := Lib.hid c4
            clear c4
            go_wp2_with fail
            refine HV.out.mono ?_
            rintro e w1 ⟨rfl, rfl⟩
            have EN : Hid (usL ((rowsL L).take (k + 1)) = rowsL M) := by
              show _ = _
              rw [HT.out]
              unfold stepU
              rw [hOK.out, c3]
              exact if_neg (by simp; exact c6.out)
            clear hOK HT FA HV
            go_wp2
            go_roundw
            case rel => exact ⟨k + 1, M, by omega, by go_num, by rw [HML.out]; omega, O, EN.out.symm, S, BB⟩
            case measure => simp [intOf]; omega
        · have c3 : natL xs = false := by simpa using c3
          rw [c3] at HV
          go_wp2_with fail
          refine HV.out.mono ?_
          rintro e w1 ⟨rfl, rfl⟩
          have EN : Hid (usL ((rowsL L).take (k + 1)) = rowsL M) := by
            show _ = _
            rw [HT.out]
            unfold stepU
            rw [hOK.out, c3]
            exact if_neg (by simp)
          clear hOK HT FA HV
          go_wp2
          go_roundw
          case rel => exact ⟨k + 1, M, by omega, by go_num, by rw [HML.out]; omega, O, EN.out.symm, S, BB⟩
          case measure => simp [intOf]; omega
    · obtain rfl : k = n := by omega
      rw [UL.out] at E
      go_wp2
      go_ret
      exact ⟨_, M, rfl, O.out, E.out, S.out, by rw [HML.out]; exact hM, BB.out⟩
end Go.Proofs.Ytlppoablhipinaa
