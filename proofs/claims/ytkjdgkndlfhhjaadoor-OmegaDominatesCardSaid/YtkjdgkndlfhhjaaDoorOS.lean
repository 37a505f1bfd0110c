/- Contracts: the considered rows, their comparison, their sort. -/
import Derived.Test.YtkjdgkndlfhhjaaDoorOR
namespace Go.Proofs.YtkjdgkndlfhhjaaDoor
open Go.RowKit Go.Shelf Go.Sort

theorem cmpW_key {x y : Int} (hx : okW x = true) (hy : okW y = true) : (cmpW x y = 0 ∧ x = y) ∨ (cmpW x y = -1 ∧ keyI y < keyI x) ∨ (cmpW x y = 1 ∧ keyI x < keyI y) := by
  have h1 := ok_iff.1 hx
  have h2 := ok_iff.1 hy
  unfold cmpW keyI
  by_cases e : x = y
  · exact .inl ⟨if_pos e, e⟩
  · rw [if_neg e]
    by_cases e2 : y = -1 ∨ x ≠ -1 ∧ x < y
    · refine .inr (.inl ⟨if_pos e2, ?_⟩)
      split <;> split <;> omega
    · refine .inr (.inr ⟨if_neg e2, ?_⟩)
      split <;> split <;> omega
set_option maxHeartbeats 1000000 in
theorem cmpf_law (A B : Option Addr) (a b : List Int) (ca cb : Nat) (w : World) (ra : ReadsV w A a) (rb : ReadsV w B b) (hab : b.length = a.length) (hl : a.length ≤ 17592186043904) (va : valW a = true) (vb : valW b = true) :
    Calls Tryd.prog 18 #[.slice A a.length ca, .slice B b.length cb, .func (.func 19) #[] #[]] w fun e w' => e = .returned (.int .i64 (cmpL (keyW b) (keyW a))) ∧ w' = w := by
  have KL : Hid (∀ k, k < a.length → (∀ j, j < k → at0 a j = at0 b j) → keyI (at0 b k) < keyI (at0 a k) → cmpL (keyW b) (keyW a) = -1) := fun k hk he h =>
    cmpL_lt _ _ k (by rw [key_len]; omega) (by rw [key_len]; exact hk) (fun j hj => by rw [key_at a j (by omega), key_at b j (by omega), he j hj]) (by rw [key_at a k hk, key_at b k (by omega)]; exact h)
  have KG : Hid (∀ k, k < a.length → (∀ j, j < k → at0 a j = at0 b j) → keyI (at0 a k) < keyI (at0 b k) → cmpL (keyW b) (keyW a) = 1) := fun k hk he h =>
    cmpL_gt _ _ k (by rw [key_len]; omega) (by rw [key_len]; exact hk) (fun j hj => by rw [key_at a j (by omega), key_at b j (by omega), he j hj]) (by rw [key_at a k hk, key_at b k (by omega)]; exact h)
  have KE : Hid ((∀ j, j < a.length → at0 a j = at0 b j) → cmpL (keyW b) (keyW a) = 0) := fun h => by
    have e : a = b := list_ext hab.symm h
    rw [e]
    exact cmpL_refl _
  have VA : Hid (∀ k, k < a.length → okW (at0 a k) = true) := fun k hk => val_at va k hk
  have VB : Hid (∀ k, k < a.length → okW (at0 b k) = true) := fun k hk => val_at vb k (by omega)
  have RA := Lib.hid ra
  have RB := Lib.hid rb
  clear ra rb va vb
  generalize cmpL (keyW b) (keyW a) = S at *
  rw [hab]
  have HAB := Lib.hid hab
  clear hab
  generalize hn : a.length = n at *
  have HN := Lib.hid hn
  clear hn
  have CM : Hid (∀ x y W, Calls Tryd.prog 19 #[.int .i64 x, .int .i64 y] W fun e w' => e = .returned (.int .i64 (cmpW x y)) ∧ W = w') := compare_law
  go_enter Tryd.func18, Tryd.ntmps18
  go_wp2_with fail
  go_loopw [13] (fun q wr => ∃ k : Nat, k ≤ n ∧ q = .int .i64 k ∧ Hid (∀ j, j < k → at0 a j = at0 b j) ∧ wr = w) (fun q _ => n - (intOf q).toNat)
  case atStart => exact ⟨0, by omega, rfl, fun j hj => absurd hj (by omega), rfl⟩
  case round =>
    obtain ⟨k, hk, rfl, HE, rfl⟩ := hrel
    by_cases hlt : k < n
    · obtain ⟨ba, oa, e1, hx⟩ := at_of_reads RA.out k (by rw [HN.out]; exact hlt)
      obtain ⟨bb, ob, e2, hy⟩ := at_of_reads RB.out k (by rw [HAB.out]; exact hlt)
      subst e1 e2
      have h3 := Lib.hid (cmpW_key (VA.out k hlt) (VB.out k hlt))
      have L1 := Lib.hid (KL.out k hlt HE.out)
      have L2 := Lib.hid (KG.out k hlt HE.out)
      have HE2 : Hid (at0 a k = at0 b k → ∀ j, j < k + 1 → at0 a j = at0 b j) := fun h j hj => by
        by_cases e : j < k
        · exact HE.out j e
        · obtain rfl : j = k := by omega
          exact h
      generalize at0 a k = x at *
      generalize at0 b k = y at *
      have CMk := CM.out x y wr
      rcases h3.out with ⟨c1, c2⟩ | ⟨c1, c2⟩ | ⟨c1, c2⟩
      · rw [c1] at CMk
        have CMk := Lib.hid CMk
        have HE3 := Lib.hid (HE2.out c2)
        clear HE2 L1 L2 c1 c2 h3
        go_wp2_with fail
        refine CMk.out.mono ?_
        rintro e w1 ⟨rfl, rfl⟩
        go_wp2
        go_roundw
        case rel => exact ⟨k + 1, by omega, by go_num, HE3, by first | trivial | rfl⟩
        case measure => simp [intOf]; omega
      · rw [c1] at CMk
        have CMk := Lib.hid CMk
        have E := Lib.hid (L1.out c2)
        clear HE2 L1 L2 c1 c2 h3
        go_wp2_with fail
        refine CMk.out.mono ?_
        rintro e w1 ⟨rfl, rfl⟩
        go_wp2
        go_ret
        exact ⟨by rw [E.out]; rfl, rfl⟩
      · rw [c1] at CMk
        have CMk := Lib.hid CMk
        have E := Lib.hid (L2.out c2)
        clear HE2 L1 L2 c1 c2 h3
        go_wp2_with fail
        refine CMk.out.mono ?_
        rintro e w1 ⟨rfl, rfl⟩
        go_wp2
        go_ret
        exact ⟨by rw [E.out]; rfl, rfl⟩
    · obtain rfl : k = n := by omega
      have E := Lib.hid (KE.out HE.out)
      go_wp2
      go_ret
      exact ⟨by rw [E.out]; rfl, rfl⟩
theorem clos_law (A B : Option Addr) (a b : List Int) (ca cb : Nat) (w : World) (ra : ReadsV w A a) (rb : ReadsV w B b) (hab : b.length = a.length) (hl : a.length ≤ 17592186043904) (va : valW a = true) (vb : valW b = true) :
    Calls Tryd.prog 17 #[.slice A a.length ca, .slice B b.length cb] w fun e w' => e = .returned (.int .i64 (cmpL (keyW a) (keyW b))) ∧ w' = w := by
  have C := Lib.hid (cmpf_law B A b a cb ca w rb ra hab.symm (by omega) vb va)
  clear ra rb va vb
  generalize cmpL (keyW a) (keyW b) = S at *
  rw [hab] at *
  clear hab
  generalize a.length = n at *
  go_enter Tryd.func17, Tryd.ntmps17
  go_wp2_with fail
  refine C.out.mono ?_
  rintro e w1 ⟨rfl, rfl⟩
  go_wp2
  go_ret
  exact ⟨rfl, rfl⟩
set_option maxHeartbeats 4000000 in
theorem considered_any (A : Option Addr) (L : List Row) (c : Nat) (w : World) (hr : ReadsL w A L) (hl : L.length ≤ 1000) :
    Calls Tryd.prog 15 #[.slice A L.length c] w fun e w' => ∃ v L', e = .returned v ∧ OwnL w' w.heap.size v L' ∧ rowsL L' = conO (rowsL L) ∧ (∀ r ∈ L', r ∈ L) ∧ L'.length ≤ L.length ∧ Below w.heap.size w w' := by
  have HC := Lib.hid hr.1
  have HR := Lib.hid hr.2
  clear hr
  have UT : Hid (∀ k, k < L.length → conO ((rowsL L).take (k + 1)) = stepC (conO ((rowsL L).take k)) (rA L k).zs) := fun k hk => con_step L hk
  have UL : Hid ((rowsL L).take L.length = rowsL L) := rowsL_all L
  generalize hg : w.heap.size = g at *
  have HG := Lib.hid hg
  clear hg
  generalize hn : L.length = n at *
  have HN := Lib.hid hn
  clear hn
  go_enter Tryd.func15, Tryd.ntmps15
  go_wp2_with fail
  go_loopw [3, 8] (fun p q wr => ∃ (k : Nat) (M : List Row), k ≤ n ∧ q = .int .i64 k ∧ M.length ≤ k ∧ Hid (OwnL wr g p M) ∧ Hid (rowsL M = conO ((rowsL L).take k)) ∧ Hid (∀ r ∈ M, r ∈ L) ∧ Hid (Below g w wr)) (fun _ q _ => n - (intOf q).toNat)
  case atStart => exact ⟨0, [], by omega, rfl, Nat.le_refl _, OwnL.nil _ _, rfl, fun _ h => (by cases h), Below.refl _ _⟩
  case round =>
    obtain ⟨k, M, hk, rfl, hM, O, E, S, BB⟩ := hrel
    obtain ⟨pA, pc, e0, RM⟩ := O.out.reads
    subst e0
    have RM := Lib.hid RM
    have hOK2 := fun h xs => okC_first (M := M) h xs
    have hOK3 : M.length = 0 → ∀ xs, okC (rowsL M) xs = valW xs := fun h xs => okC_nil h xs
    have RM0 : Hid (M.length ≠ 0 → ∃ b off, pA = some ⟨b, off, none⟩ ∧ wr.cell? ⟨b, off, none⟩ = some (.slice (rA M 0).A (rA M 0).zs.length (rA M 0).cap)) := fun h => RM.out.1.at 0 (by omega)
    clear RM
    generalize hml : M.length = ml at *
    have HML := Lib.hid hml
    clear hml
    have hsz := BB.out.size
    rw [HG.out] at hsz
    by_cases hlt : k < n
    · have hkL : k < L.length := by rw [HN.out]; exact hlt
      obtain ⟨ba, oa, e1, hx⟩ := (HC.out.below BB.out (by rw [HG.out]; exact Nat.le_refl _)).at k hkL
      subst e1
      have OKk := HR.out _ (rA_mem hkL)
      have FA := Lib.hid (FarR.old (s := g) OKk BB.out (by rw [HG.out]; exact Nat.le_refl _) (by rw [HG.out]; exact Nat.le_refl _))
      have HV := valid_law (rA L k).A (rA L k).zs (rA L k).cap wr (OKk.1.below BB.out (by rw [HG.out]; exact Nat.le_refl _)) (by have := OKk.2; omega)
      have HM := rA_mem hkL
      have HT : Hid (conO ((rowsL L).take (k + 1)) = stepC (rowsL M) (rA L k).zs) := by
        have h := UT.out k hlt
        show _ = _
        rw [h, ← E.out]
      clear OKk hkL
      generalize rA L k = r at *
      obtain ⟨xA, xs, xc⟩ := r
      dsimp only at *
      replace HM := Lib.hid HM
      cases c3 : valW xs
      · rw [c3] at HV
        have HV := Lib.hid HV
        have hOK : okC (rowsL M) xs = false := by
          by_cases h0 : ml = 0
          · rw [hOK3 h0, c3]
          · rw [hOK2 h0, c3]; rfl
        clear hOK2 hOK3 RM0 c3
        go_wp2_with fail
        refine HV.out.mono ?_
        rintro e w1 ⟨rfl, rfl⟩
        have EN : Hid (conO ((rowsL L).take (k + 1)) = rowsL M) := by
          show _ = _
          rw [HT.out]
          unfold stepC
          rw [hOK]
          exact if_neg (by simp)
        clear hOK HT FA
        go_wp2
        go_roundw
        case rel => exact ⟨k + 1, M, by omega, by go_num, by rw [HML.out]; omega, O, EN.out.symm, S, BB⟩
        case measure => simp [intOf]; omega
      · rw [c3] at HV
        have HV := Lib.hid HV
        by_cases h0 : ml = 0
        · have hOK : okC (rowsL M) xs = true := by rw [hOK3 h0, c3]
          clear hOK2 hOK3 RM0 c3
          subst h0
          go_wp2_with fail
          refine HV.out.mono ?_
          rintro e w1 ⟨rfl, rfl⟩
          have EN : Hid (conO ((rowsL L).take (k + 1)) = rowsL (M ++ [⟨xA, xs, xc⟩])) := by
            show _ = _
            rw [HT.out, rowsL_snoc]
            unfold stepC
            rw [hOK]
            exact if_pos (by rfl)
          have SN : Hid (∀ r ∈ M ++ [⟨xA, xs, xc⟩], r ∈ L) := fun r hr => by
            rcases List.mem_append.1 hr with hr | hr
            · exact S.out r hr
            · simp at hr
              subst hr
              exact HM.out
          clear hOK HT
          have hs2 := BB.out.size
          rw [HG.out] at hs2
          go_wp2_with (at_builtin; refine wpList_row rfl (.tmp 30) (.tmp 32) rfl g _ M ⟨xA, xs, xc⟩ rfl (O.out.alloc _) _ rfl (cell_new1 _ _ _) (FA.out.alloc _) (by rw [HML.out]; omega) (size_le_alloc hs2 _) ?_; intro v' w' hown' hb')
          have O2 := Lib.hid hown'
          have B2 : Hid (Below g w w') := (BB.out.alloc hs2 _).trans hb'
          clear hown' hb'
          go_wp2
          go_roundw
          case rel => exact ⟨k + 1, _, by omega, by go_num, by rw [List.length_append, HML.out]; first | (simp; done) | (simp; omega), O2, EN.out.symm, SN, B2⟩
          case measure => simp [intOf]; omega
        · have hOK := hOK2 h0 xs
          rw [c3] at hOK
          obtain ⟨bm, om, e5, hm0⟩ := RM0.out h0
          clear hOK2 hOK3 RM0 c3
          subst e5
          have z0 : ((ml : Int) == 0) = false := by simp; omega
          generalize rA M 0 = r0 at *
          obtain ⟨r0A, r0z, r0c⟩ := r0
          dsimp only at *
          by_cases c4 : xs.length = r0z.length
          · have c5 : ((xs.length : Int) == (r0z.length : Int)) = true := by simp; omega
            have hOK : okC (rowsL M) xs = true := by rw [hOK]; simpa using c4
            clear c4
            go_wp2_with fail
            refine HV.out.mono ?_
            rintro e w1 ⟨rfl, rfl⟩
            have EN : Hid (conO ((rowsL L).take (k + 1)) = rowsL (M ++ [⟨xA, xs, xc⟩])) := by
              show _ = _
              rw [HT.out, rowsL_snoc]
              unfold stepC
              rw [hOK]
              exact if_pos (by rfl)
            have SN : Hid (∀ r ∈ M ++ [⟨xA, xs, xc⟩], r ∈ L) := fun r hr => by
              rcases List.mem_append.1 hr with hr | hr
              · exact S.out r hr
              · simp at hr
                subst hr
                exact HM.out
            clear hOK HT
            have hs2 := BB.out.size
            rw [HG.out] at hs2
            go_wp2_with (at_builtin; refine wpList_row rfl (.tmp 30) (.tmp 32) rfl g _ M ⟨xA, xs, xc⟩ rfl (O.out.alloc _) _ rfl (cell_new1 _ _ _) (FA.out.alloc _) (by rw [HML.out]; omega) (size_le_alloc hs2 _) ?_; intro v' w' hown' hb')
            have O2 := Lib.hid hown'
            have B2 : Hid (Below g w w') := (BB.out.alloc hs2 _).trans hb'
            clear hown' hb'
            go_wp2
            go_roundw
            case rel => exact ⟨k + 1, _, by omega, by go_num, by rw [List.length_append, HML.out]; first | (simp; done) | (simp; omega), O2, EN.out.symm, SN, B2⟩
            case measure => simp [intOf]; omega
          · have c5 : ((xs.length : Int) == (r0z.length : Int)) = false := by simp; omega
            have hOK : okC (rowsL M) xs = false := by rw [hOK]; simpa using c4
            clear c4
            go_wp2_with fail
            refine HV.out.mono ?_
            rintro e w1 ⟨rfl, rfl⟩
            have EN : Hid (conO ((rowsL L).take (k + 1)) = rowsL M) := by
              show _ = _
              rw [HT.out]
              unfold stepC
              rw [hOK]
              exact if_neg (by simp)
            clear hOK HT FA
            go_wp2
            go_roundw
            case rel => exact ⟨k + 1, M, by omega, by go_num, by rw [HML.out]; omega, O, EN.out.symm, S, BB⟩
            case measure => simp [intOf]; omega
    · obtain rfl : k = n := by omega
      rw [UL.out] at E
      go_wp2
      go_ret
      exact ⟨_, M, rfl, O.out, E.out, S.out, by rw [HML.out]; exact hM, BB.out⟩
end Go.Proofs.YtkjdgkndlfhhjaaDoor
