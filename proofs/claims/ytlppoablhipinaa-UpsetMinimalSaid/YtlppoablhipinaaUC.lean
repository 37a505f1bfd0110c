/- The contract of Make, by the program. -/
import Derived.Test.YtlppoablhipinaaUB
import Derived.WalkMore
namespace Go.Proofs.Ytlppoablhipinaa
open Go.RowKit

def MPost (n : Nat) (w : World) (rows : List (List Int)) (e : Ending) (w' : World) : Prop := ∃ A c L, e = .returned (.slice A (List.length L) c) ∧ rowsL L = rows ∧ L.length ≤ n ∧ ReadsL w' A L ∧ Below w.heap.size w w'
theorem any_no {M : List Row} {xs : List Int} (h : ∀ i, i < M.length → leqL (rA M i).zs xs = false) : ((rowsL M).any fun s => leqL s xs) = false := by
  rw [List.any_eq_false]
  intro s hs
  unfold rowsL at hs
  obtain ⟨r, hr, rfl⟩ := List.mem_map.1 hs
  obtain ⟨i, hi, rfl⟩ := List.getElem_of_mem hr
  have := h i hi
  unfold rA at this
  rw [List.getElem?_eq_getElem hi] at this
  simpa using this
theorem any_yes {M : List Row} {xs : List Int} {i : Nat} (hi : i < M.length) (h : leqL (rA M i).zs xs = true) : ((rowsL M).any fun s => leqL s xs) = true := by
  rw [List.any_eq_true]
  exact ⟨_, List.mem_map.2 ⟨_, rA_mem hi, rfl⟩, h⟩
set_option maxHeartbeats 4000000 in
set_option maxRecDepth 100000 in
theorem make_any (A : Option Addr) (L : List Row) (c : Nat) (w : World) (hr : ReadsL w A L) (hl : L.length ≤ 1000) :
    Calls Try.prog 13 #[.slice A L.length c] w (MPost L.length w (makeL (rowsL L))) := by
  have HR := Lib.hid hr.2
  have HU := Lib.hid (usable_any A L c w hr hl)
  clear hr
  obtain ⟨g, hg⟩ : ∃ g, g = w.heap.size := ⟨_, rfl⟩
  have HG := Lib.hid hg
  unfold MPost
  rw [← hg] at HU ⊢
  clear hg
  generalize L.length = n at *
  go_enter Try.func13, Try.ntmps13
  go_wp2_with fail
  go_step3
  go_wp2_with fail
  refine HU.out.mono ?_
  rintro e w1 ⟨v, L1, rfl, O1, E1, S1, N1, B1⟩
  have SO := Lib.hid (sort_any v L1 g w w1 O1 (fun r hr => HR.out r (S1 r hr)) (by rw [← HG.out]; exact B1) (by rw [← HG.out]; exact Nat.le_refl _) (by have := B1.size; rw [← HG.out] at this; exact this) (by omega))
  have B1 := Lib.hid B1
  have E1 := Lib.hid E1
  have S1 := Lib.hid S1
  clear O1 HU
  go_wp2_with fail
  refine SO.out.mono ?_
  rintro e w2 ⟨rfl, L2, O2, N2, P2, W2, B2⟩
  have BA : Hid (Below g w w2) := B1.out.trans B2
  have ML : Hid (minS (rowsL L2) = makeL (rowsL L)) := by
    show _ = _
    unfold makeL
    rw [← E1.out]
    exact minS_make P2 W2
  clear B1 B2 P2 W2 SO E1
  obtain ⟨sA, sc, e0, R2⟩ := O2.reads
  subst e0
  have R2 := Lib.hid R2
  clear O2
  have hn2 : L2.length ≤ n := by omega
  clear N1 N2
  have MS : Hid (∀ k, k < L2.length → minS ((rowsL L2).take (k + 1)) = insM (minS ((rowsL L2).take k)) (rA L2 k).zs) := fun k hk => min_step L2 hk
  have MA : Hid ((rowsL L2).take L2.length = rowsL L2) := rowsL_all L2
  obtain ⟨s, hs⟩ : ∃ s, s = w2.heap.size := ⟨_, rfl⟩
  have HS := Lib.hid hs
  clear hs
  generalize hm : L2.length = m at *
  have HM := Lib.hid hm
  clear hm
  go_wp2_with fail
  go_step3
  go_wp2_with fail
  go_loopw [4, 16] (fun p q wr => ∃ (k : Nat) (M : List Row), k ≤ m ∧ q = .int .i64 k ∧ M.length ≤ k ∧ Hid (OwnL wr s p M) ∧ Hid (rowsL M = minS ((rowsL L2).take k)) ∧ Hid (Below s w2 wr)) (fun _ q _ => m - (intOf q).toNat)
  case atStart => exact ⟨0, [], by omega, rfl, Nat.le_refl _, OwnL.nil _ _, rfl, Below.refl _ _⟩
  case round =>
    obtain ⟨k, M, hk, rfl, hM, O, E, BB⟩ := hrel
    obtain ⟨wo, rfl⟩ : ∃ wo, wo = wr := ⟨_, rfl⟩
    obtain ⟨pA, pc, e0, RM⟩ := O.out.reads
    subst e0
    have RM := Lib.hid RM
    have hsz := BB.out.size
    rw [← HS.out] at hsz
    by_cases hlt : k < m
    · have RW := R2.out.below BB.out (by rw [HS.out]; exact Nat.le_refl _)
      have hkm : k < L2.length := by rw [HM.out]; exact hlt
      obtain ⟨ba, oa, e1, hx⟩ := RW.1.at k hkm
      have OKk := RW.2 _ (rA_mem hkm)
      subst e1
      have HT : Hid (minS ((rowsL L2).take (k + 1)) = insM (rowsL M) (rA L2 k).zs) := by
        show _ = _
        rw [MS.out k hlt, ← E.out]
      clear RW hkm
      generalize rA L2 k = r at *
      obtain ⟨xA, xs, xc⟩ := r
      have OKk := Lib.hid OKk
      dsimp only at *
      generalize hml : M.length = ml at *
      have HML := Lib.hid hml
      clear hml
      go_wp2_with fail
      go_loopw [24] (fun q wi => ∃ j : Nat, j ≤ ml ∧ q = .int .i64 j ∧ Hid (∀ i, i < j → leqL (rA M i).zs xs = false) ∧ Hid (Below wo.heap.size wo wi)) (fun q _ => ml - (intOf q).toNat)
      case atStart => exact ⟨0, by omega, rfl, fun i hi => absurd hi (by omega), Below.refl _ _⟩
      case round =>
        obtain ⟨j, hj, rfl, HN, BI⟩ := hrel
        by_cases hjl : j < ml
        · have hjM : j < M.length := by rw [HML.out]; exact hjl
          have RI := RM.out.below BI.out (Nat.le_refl _)
          obtain ⟨bm, om, e2, hy⟩ := RI.1.at j hjM
          have OKj := RI.2 _ (rA_mem hjM)
          have OKx := OKk.out.below BI.out (Nat.le_refl _)
          subst e2
          have CL := Lib.hid (above_any xA (rA M j).A xs (rA M j).zs xc (rA M j).cap wr OKx.1 OKj.1 OKj.2)
          have HY : Hid (leqL (rA M j).zs xs = true → ((rowsL M).any fun s => leqL s xs) = true) := fun h => any_yes hjM h
          have HN2 : Hid (leqL (rA M j).zs xs = false → ∀ i, i < j + 1 → leqL (rA M i).zs xs = false) := fun h i hi => by
            by_cases e : i < j
            · exact HN.out i e
            · obtain rfl : i = j := by omega
              exact h
          clear RI OKj OKx
          generalize rA M j = y at *
          obtain ⟨yA, ys, yc⟩ := y
          dsimp only at *
          go_wp2_with fail
          refine CL.out.mono ?_
          rintro e w3 ⟨rfl, K⟩
          have BI2 := Lib.hid (BI.out.trans (K.mono BI.out.size))
          clear K CL BI
          cases hle : leqL ys xs
          · have HN3 := Lib.hid (HN2.out hle)
            clear HN2 HY hle
            go_wp2
            go_roundw
            case rel => exact ⟨j + 1, by omega, by go_num, HN3, BI2⟩
            case measure => simp [intOf]; omega
          · have EN : Hid (minS ((rowsL L2).take (k + 1)) = rowsL M) := by
              show _ = _
              rw [HT.out]
              unfold insM
              exact if_pos (HY.out hle)
            have BB3 : Hid (Below s w2 w3) := BB.out.trans (BI2.out.mono hsz)
            have O3 := Lib.hid (O.out.below BI2.out (Nat.le_refl _))
            clear HN2 HY hle HT HN
            go_wp2_with fail
            go_roundw
            case rel => exact ⟨k + 1, M, by omega, by go_num, by rw [HML.out]; omega, O3, EN.out.symm, BB3⟩
            case measure => simp [intOf]; omega
        · obtain rfl : j = ml := by omega
          have EN : Hid (minS ((rowsL L2).take (k + 1)) = rowsL (M ++ [⟨xA, xs, xc⟩])) := by
            show _ = _
            rw [HT.out, rowsL_snoc]
            unfold insM
            rw [any_no (fun i hi => HN.out i (by rw [← HML.out]; exact hi))]
            exact if_neg (by simp)
          have OKx := OKk.out.below BI.out (Nat.le_refl _)
          have CC := Lib.hid (clone_any xA xs xc wr OKx.1 OKx.2)
          have hx1000 := OKx.2
          clear OKx HT HN
          go_wp2_with fail
          refine CC.out.mono ?_
          rintro e w4 ⟨A4, c4, rfl, F4, K⟩
          have F4 := Lib.hid (FarR.fresh (s := s) (c := c4) F4 hx1000)
          have B4 := Lib.hid (BI.out.trans (K.mono BI.out.size))
          have O4 := Lib.hid (O.out.below B4.out (Nat.le_refl _))
          have BB4 : Hid (Below s w2 w4) := BB.out.trans (B4.out.mono hsz)
          have hs4 := BB4.out.size
          rw [← HS.out] at hs4
          clear K CC
          go_wp2_with (at_builtin; refine wpList_row rfl (.tmp 32) (.tmp 35) rfl s _ M ⟨A4, xs, c4⟩ rfl (O4.out.alloc _) _ rfl (cell_new1 _ _ _) (F4.out.alloc _) (by rw [HML.out]; omega) (size_le_alloc hs4 _) ?_; intro v' w5 hown' hb')
          have O5 := Lib.hid hown'
          have B5 : Hid (Below s w2 w5) := (BB4.out.alloc hs4 _).trans hb'
          have EN5 : Hid (rowsL (M ++ [⟨A4, xs, c4⟩]) = minS ((rowsL L2).take (k + 1))) := by
            show _ = _
            rw [EN.out, rowsL_snoc, rowsL_snoc]
          clear hown' hb' EN
          go_wp2
          go_roundw
          case rel => exact ⟨k + 1, _, by omega, by go_num, by rw [List.length_append, HML.out]; simp; omega, O5, EN5, B5⟩
          case measure => simp [intOf]; omega
    · obtain rfl : k = m := by omega
      rw [MA.out, ML.out] at E
      have BX := Lib.hid (BA.out.trans (BB.out.mono (by rw [HS.out]; have := BA.out.size; rw [← HG.out] at this; exact this)))
      go_wp2
      rw [Exit.noGoto_ret]
      go_ret
      exact ⟨_, _, M, rfl, E.out, by omega, RM.out, BX.out⟩
end Go.Proofs.Ytlppoablhipinaa
