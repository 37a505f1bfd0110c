/- The contract of Maximal, by the program. -/
import Derived.Test.YtkjdgkndlfhhjaaDoorOT
namespace Go.Proofs.YtkjdgkndlfhhjaaDoor
open Go.RowKit

def MPost (n : Nat) (w : World) (rows : List (List Int)) (e : Ending) (w' : World) : Prop := ∃ A c L, e = .returned (.slice A (List.length L) c) ∧ rowsL L = rows ∧ L.length ≤ n ∧ ReadsL w' A L ∧ Below w.heap.size w w'
theorem any_no {M : List Row} {xs : List Int} (h : ∀ i, i < M.length → leqL (keyW (rA M i).zs) (keyW xs) = false) : ((rowsL M).any fun s => leqL (keyW s) (keyW xs)) = false := by
  rw [List.any_eq_false]
  intro s hs
  unfold rowsL at hs
  obtain ⟨r, hr, rfl⟩ := List.mem_map.1 hs
  obtain ⟨i, hi, rfl⟩ := List.getElem_of_mem hr
  have := h i hi
  unfold rA at this
  rw [List.getElem?_eq_getElem hi] at this
  simp only [Option.getD_some] at this
  simp [this]
theorem any_yes {M : List Row} {xs : List Int} {i : Nat} (hi : i < M.length) (h : leqL (keyW (rA M i).zs) (keyW xs) = true) : ((rowsL M).any fun s => leqL (keyW s) (keyW xs)) = true := by
  rw [List.any_eq_true]
  exact ⟨_, List.mem_map.2 ⟨_, rA_mem hi, rfl⟩, h⟩
theorem bel_key {a b : List Int} (hl : a.length = b.length) (ha : valW a = true) (hb : valW b = true) : belW a b = leqL (keyW b) (keyW a) := by
  rw [← leqW_key ha hb, leqW_eq, ha, hb, decide_eq_true hl]
  rfl
theorem above_any (A B : Option Addr) (a b : List Int) (ca cb : Nat) (w : World) (ra : ReadsV w A a) (rb : ReadsV w B b) (hlen : a.length = b.length) (hb : b.length ≤ 17592186043904) (va : valW a = true) (vb : valW b = true) :
    Calls Tryd.prog 20 #[.slice A a.length ca, .slice B b.length cb] w (BPost w.heap.size w (leqL (keyW b) (keyW a))) := by
  rw [← bel_key hlen va vb]
  exact below_law A B a b ca cb w ra rb hlen (by omega)
set_option maxHeartbeats 4000000 in
set_option maxRecDepth 100000 in
theorem maximal_any (A : Option Addr) (L : List Row) (c : Nat) (w : World) (hr : ReadsL w A L) (hl : L.length ≤ 1000) :
    Calls Tryd.prog 7 #[.slice A L.length c] w (MPost L.length w (maxO (rowsL L))) := by
  have HR := Lib.hid hr.2
  have HU := Lib.hid (considered_any A L c w hr hl)
  clear hr
  obtain ⟨g, hg⟩ : ∃ g, g = w.heap.size := ⟨_, rfl⟩
  have HG := Lib.hid hg
  unfold MPost
  rw [← hg] at HU ⊢
  clear hg
  generalize L.length = n at *
  go_enter Tryd.func7, Tryd.ntmps7
  go_wp2_with fail
  go_step3
  go_wp2_with fail
  refine HU.out.mono ?_
  rintro e w1 ⟨v, L1, rfl, O1, E1, S1, N1, B1⟩
  obtain ⟨n0, hn0⟩ := conOk_con (rowsL L)
  have V1 : Hid (∀ r ∈ L1, valW r.zs = true ∧ r.zs.length = n0) := fun r hr => by
    have h : r.zs ∈ conO (rowsL L) := by rw [← E1]; exact List.mem_map.2 ⟨r, hr, rfl⟩
    exact ⟨(hn0 _ h).2, (hn0 _ h).1⟩
  clear hn0
  have SO := Lib.hid (sort_any v L1 g n0 w w1 O1 (fun r hr => ⟨HR.out r (S1 r hr), V1.out r hr⟩) (by rw [← HG.out]; exact B1) (by rw [← HG.out]; exact Nat.le_refl _) (by have := B1.size; rw [← HG.out] at this; exact this) (by omega))
  have B1 := Lib.hid B1
  have E1 := Lib.hid E1
  have S1 := Lib.hid S1
  clear O1 HU
  go_wp2_with fail
  refine SO.out.mono ?_
  rintro e w2 ⟨rfl, L2, O2, N2, P2, W2, B2⟩
  have BA : Hid (Below g w w2) := B1.out.trans B2
  have ML : Hid ((minK (rowsL L2)).reverse = maxO (rowsL L)) := by
    show _ = _
    refine max_prog ?_ W2
    rw [← E1.out]
    exact P2
  have V2 : Hid (∀ r ∈ L2, valW r.zs = true ∧ r.zs.length = n0) := fun r hr => by
    have h : r.zs ∈ rowsL L1 := P2.mem_iff.1 (List.mem_map.2 ⟨r, hr, rfl⟩)
    unfold rowsL at h
    obtain ⟨r1, h1, h2⟩ := List.mem_map.1 h
    rw [← h2]
    exact V1.out r1 h1
  clear V1
  clear B1 B2 P2 W2 SO E1
  obtain ⟨sA, sc, e0, R2⟩ := O2.reads
  subst e0
  have R2 := Lib.hid R2
  clear O2
  have hn2 : L2.length ≤ n := by omega
  clear N1 N2
  have MS : Hid (∀ k, k < L2.length → minK ((rowsL L2).take (k + 1)) = insK (minK ((rowsL L2).take k)) (rA L2 k).zs) := fun k hk => minK_step L2 hk
  have MA : Hid ((rowsL L2).take L2.length = rowsL L2) := rowsL_all L2
  obtain ⟨s, hs⟩ : ∃ s, s = w2.heap.size := ⟨_, rfl⟩
  have HS := Lib.hid hs
  clear hs
  generalize hm : L2.length = m at *
  have HM := Lib.hid hm
  clear hm
  go_wp2_with fail
  go_step3
  go_wp2_with fail
  go_loopw [4, 16] (fun p q wr => ∃ (k : Nat) (M : List Row), k ≤ m ∧ q = .int .i64 k ∧ M.length ≤ k ∧ Hid (OwnL wr s p M) ∧ Hid (rowsL M = minK ((rowsL L2).take k)) ∧ Hid (∀ r ∈ M, valW r.zs = true ∧ r.zs.length = n0) ∧ Hid (Below s w2 wr)) (fun _ q _ => m - (intOf q).toNat)
  case atStart => exact ⟨0, [], by omega, rfl, Nat.le_refl _, OwnL.nil _ _, rfl, fun _ h => (by cases h), Below.refl _ _⟩
  case round =>
    obtain ⟨k, M, hk, rfl, hM, O, E, VM, BB⟩ := hrel
    obtain ⟨wo, rfl⟩ : ∃ wo, wo = wr := ⟨_, rfl⟩
    obtain ⟨pA, pc, e0, RM⟩ := O.out.reads
    subst e0
    have RM := Lib.hid RM
    have hsz := BB.out.size
    rw [← HS.out] at hsz
    by_cases hlt : k < m
    · have RW := R2.out.below BB.out (by rw [HS.out]; exact Nat.le_refl _)
      have hkm : k < L2.length := by rw [HM.out]; exact hlt
      obtain ⟨ba, oa, e1, hx⟩ := RW.1.at k hkm
      have OKk := RW.2 _ (rA_mem hkm)
      subst e1
      have HT : Hid (minK ((rowsL L2).take (k + 1)) = insK (rowsL M) (rA L2 k).zs) := by
        show _ = _
        rw [MS.out k hlt, ← E.out]
      have VX := V2.out _ (rA_mem hkm)
      clear RW hkm
      generalize rA L2 k = r at *
      obtain ⟨xA, xs, xc⟩ := r
      have OKk := Lib.hid OKk
      replace VX := Lib.hid VX
      dsimp only at *
      generalize hml : M.length = ml at *
      have HML := Lib.hid hml
      clear hml
      go_wp2_with fail
      go_loopw [24] (fun q wi => ∃ j : Nat, j ≤ ml ∧ q = .int .i64 j ∧ Hid (∀ i, i < j → leqL (keyW (rA M i).zs) (keyW xs) = false) ∧ Hid (Below wo.heap.size wo wi)) (fun q _ => ml - (intOf q).toNat)
      case atStart => exact ⟨0, by omega, rfl, fun i hi => absurd hi (by omega), Below.refl _ _⟩
      case round =>
        obtain ⟨j, hj, rfl, HN, BI⟩ := hrel
        by_cases hjl : j < ml
        · have hjM : j < M.length := by rw [HML.out]; exact hjl
          have RI := RM.out.below BI.out (Nat.le_refl _)
          obtain ⟨bm, om, e2, hy⟩ := RI.1.at j hjM
          have OKj := RI.2 _ (rA_mem hjM)
          have OKx := OKk.out.below BI.out (Nat.le_refl _)
          subst e2
          have VJ := VM.out _ (rA_mem hjM)
          have CL := Lib.hid (above_any xA (rA M j).A xs (rA M j).zs xc (rA M j).cap wr OKx.1 OKj.1 (by rw [VJ.2]; exact VX.out.2) OKj.2 VX.out.1 VJ.1)
          have HY : Hid (leqL (keyW (rA M j).zs) (keyW xs) = true → ((rowsL M).any fun s => leqL (keyW s) (keyW xs)) = true) := fun h => any_yes hjM h
          have HN2 : Hid (leqL (keyW (rA M j).zs) (keyW xs) = false → ∀ i, i < j + 1 → leqL (keyW (rA M i).zs) (keyW xs) = false) := fun h i hi => by
            by_cases e : i < j
            · exact HN.out i e
            · obtain rfl : i = j := by omega
              exact h
          clear RI OKj OKx VJ
          generalize rA M j = y at *
          obtain ⟨yA, ys, yc⟩ := y
          dsimp only at *
          cases hle : leqL (keyW ys) (keyW xs)
          · have HN3 := Lib.hid (HN2.out hle)
            have CL0 := CL.out
            rw [hle] at CL0
            clear CL
            have CL := Lib.hid CL0
            clear CL0
            clear HN2 HY hle
            go_wp2_with fail
            refine CL.out.mono ?_
            rintro e w3 ⟨rfl, K⟩
            have BI2 := Lib.hid (BI.out.trans (K.mono BI.out.size))
            clear K CL BI
            go_wp2
            go_roundw
            case rel => exact ⟨j + 1, by omega, by go_num, HN3, BI2⟩
            case measure => simp [intOf]; omega
          · have EN : Hid (minK ((rowsL L2).take (k + 1)) = rowsL M) := by
              show _ = _
              rw [HT.out]
              unfold insK
              exact if_pos (HY.out hle)
            have CL0 := CL.out
            rw [hle] at CL0
            clear CL
            have CL := Lib.hid CL0
            clear CL0 hle
            go_wp2_with fail
            refine CL.out.mono ?_
            rintro e w3 ⟨rfl, K⟩
            have BI2 := Lib.hid (BI.out.trans (K.mono BI.out.size))
            clear K CL BI
            have BB3 : Hid (Below s w2 w3) := BB.out.trans (BI2.out.mono hsz)
            have O3 := Lib.hid (O.out.below BI2.out (Nat.le_refl _))
            clear HN2 HY HT HN
            go_wp2_with fail
            go_roundw
            case rel => exact ⟨k + 1, M, by omega, by go_num, by rw [HML.out]; omega, O3, EN.out.symm, VM, BB3⟩
            case measure => simp [intOf]; omega
        · obtain rfl : j = ml := by omega
          have EN : Hid (minK ((rowsL L2).take (k + 1)) = rowsL (M ++ [⟨xA, xs, xc⟩])) := by
            show _ = _
            rw [HT.out, rowsL_snoc]
            unfold insK
            rw [any_no (fun i hi => HN.out i (by rw [← HML.out]; exact hi))]
            exact if_neg (by simp)
          have OKx := OKk.out.below BI.out (Nat.le_refl _)
          have CC := Lib.hid (clone_any xA xs xc wr OKx.1 OKx.2)
          have hx1000 := OKx.2
          have VN : Hid (∀ A c, ∀ r ∈ M ++ [⟨A, xs, c⟩], valW r.zs = true ∧ r.zs.length = n0) := fun A c r hr => by
            rcases List.mem_append.1 hr with hr | hr
            · exact VM.out r hr
            · simp at hr
              subst hr
              exact VX.out
          clear OKx HT HN
          go_wp2_with fail
          refine CC.out.mono ?_
          rintro e w4 ⟨A4, c4, rfl, F4, K⟩
          have F4 := Lib.hid (FarR.fresh (s := s) (c := c4) F4 hx1000)
          have B4 := Lib.hid (BI.out.trans (K.mono BI.out.size))
          have O4 := Lib.hid (O.out.below B4.out (Nat.le_refl _))
          have BB4 : Hid (Below s w2 w4) := BB.out.trans (B4.out.mono hsz)
          have hs4 := BB4.out.size
          rw [← HS.out] at hs4
          clear K CC
          go_wp2_with (at_builtin; refine wpList_row rfl (.tmp 32) (.tmp 35) rfl s _ M ⟨A4, xs, c4⟩ rfl (O4.out.alloc _) _ rfl (cell_new1 _ _ _) (F4.out.alloc _) (by rw [HML.out]; omega) (size_le_alloc hs4 _) ?_; intro v' w5 hown' hb')
          have O5 := Lib.hid hown'
          have B5 : Hid (Below s w2 w5) := (BB4.out.alloc hs4 _).trans hb'
          have EN5 : Hid (rowsL (M ++ [⟨A4, xs, c4⟩]) = minK ((rowsL L2).take (k + 1))) := by
            show _ = _
            rw [EN.out, rowsL_snoc, rowsL_snoc]
          clear hown' hb' EN
          go_wp2
          go_roundw
          case rel => exact ⟨k + 1, _, by omega, by go_num, by rw [List.length_append, HML.out]; simp; omega, O5, EN5, VN.out A4 c4, B5⟩
          case measure => simp [intOf]; omega
    · obtain rfl : k = m := by omega
      rw [MA.out] at E
      have BX := Lib.hid (BA.out.trans (BB.out.mono (by rw [HS.out]; have := BA.out.size; rw [← HG.out] at this; exact this)))
      have RV := Lib.hid (reverse_any _ M s wo O.out hsz (by omega))
      have hM3 : M.length ≤ n := by omega
      have hs0 : g ≤ s := by rw [HS.out]; have := BA.out.size; rw [← HG.out] at this; exact this
      have ER : Hid (rowsL M.reverse = maxO (rowsL L)) := by
        show _ = _
        rw [← ML.out, ← E.out]
        simp [rowsL]
      have HLR : Hid (M.reverse.length ≤ n) := by show _ ≤ _; rw [List.length_reverse]; exact hM3
      clear RM O E
      go_wp2_with fail
      refine RV.out.mono ?_
      rintro e w7 ⟨rfl, O7, K7⟩
      have BY := Lib.hid (BX.out.trans (K7.mono hs0))
      obtain ⟨A7, c7, e7, R7⟩ := O7.reads
      have R7 := Lib.hid R7
      replace e7 := Lib.hid e7
      clear O7 K7
      go_wp2
      rw [Exit.noGoto_ret]
      go_ret
      exact ⟨A7, c7, M.reverse, by rw [← e7.out]; rfl, ER.out, HLR.out, R7.out, BY.out⟩
end Go.Proofs.YtkjdgkndlfhhjaaDoor
