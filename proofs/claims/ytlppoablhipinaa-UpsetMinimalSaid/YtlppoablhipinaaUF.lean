/- Contracts of the reference: insert, Make. -/
import Derived.Test.YtlppoablhipinaaUE
namespace Go.Proofs.Ytlppoablhipinaa
open Go.RowKit

set_option maxHeartbeats 8000000 in
set_option maxRecDepth 100000 in
theorem rinsert_any (A B : Option Addr) (L : List Row) (b : List Int) (c cb : Nat) (w : World) (hr : ReadsL w A L) (hl : L.length ≤ 1000) (rb : OkR w ⟨B, b, cb⟩) :
    Calls Try.prog 38 #[.slice A L.length c, .slice B b.length cb] w (MPost (L.length + 1) w (insG b (rowsL L))) := by
  have HL := Lib.hid hr
  have RB := Lib.hid rb
  have hb1000 : b.length ≤ 1000 := rb.2
  clear hr rb
  obtain ⟨g, hg⟩ : ∃ g, g = w.heap.size := ⟨_, rfl⟩
  have HG := Lib.hid hg
  unfold MPost
  rw [← hg]
  clear hg
  suffices h : Calls Try.prog 38 #[.slice A L.length c, .slice B b.length cb] w fun e w' => ∃ v M, e = .returned v ∧ OwnL w' g v M ∧ rowsL M = insG b (rowsL L) ∧ M.length ≤ L.length + 1 ∧ Below g w w' from h.mono fun e w' ⟨v, M, he, ho, h1, h2, h3⟩ => by
    obtain ⟨A2, c2, rfl, R2⟩ := ho.reads
    exact ⟨A2, c2, M, he, h1, h2, R2, h3⟩
  have ST : Hid (∀ k, k < L.length → ((rowsL L).take (k + 1)).foldl (stI b) ([], false) = stI b (((rowsL L).take k).foldl (stI b) ([], false)) (rA L k).zs) := fun k hk => stI_step b _ L hk
  have SF : Hid (finI b (((rowsL L).take L.length).foldl (stI b) ([], false)) = insG b (rowsL L)) := by
    show _ = _
    rw [rowsL_all, stI_all]
    rfl
  generalize insG b (rowsL L) = R at *
  generalize hn : L.length = n at *
  have HN := Lib.hid hn
  clear hn
  go_enter Try.func38, Try.ntmps38
  go_wp2_with fail
  go_loopw [5, 6, 7] (fun p d q wr => ∃ (k : Nat) (M : List Row) (dn : Bool), k ≤ n ∧ q = .int .i64 k ∧ d = .bool dn ∧ (M.length ≤ k + 1) ∧ Hid (dn = false → M.length ≤ k) ∧ Hid (OwnL wr g p M) ∧ Hid ((((rowsL L).take k).foldl (stI b) ([], false)) = (rowsL M, dn)) ∧ Hid (Below g w wr)) (fun _ _ q _ => n - (intOf q).toNat)
  case atStart => exact ⟨0, [], false, by omega, rfl, rfl, by simp, fun _ => by simp, OwnL.nil _ _, rfl, Below.refl _ _⟩
  case round =>
    obtain ⟨k, M, dn, hk, rfl, rfl, hM, hM2, O, E, BB⟩ := hrel
    have hsz := BB.out.size
    rw [← HG.out] at hsz
    have RBk := RB.out.below BB.out (by rw [HG.out]; exact Nat.le_refl _)
    have FB := Lib.hid (FarR.old (s := g) RB.out BB.out (by rw [HG.out]; exact Nat.le_refl _) (by rw [HG.out]; exact Nat.le_refl _))
    by_cases hlt : k < n
    · have RW := HL.out.below BB.out (by rw [HG.out]; exact Nat.le_refl _)
      have hkl : k < L.length := by rw [HN.out]; exact hlt
      obtain ⟨ba, oa, e1, hx⟩ := RW.1.at k hkl
      subst e1
      have OKk := RW.2 _ (rA_mem hkl)
      have FA := Lib.hid (FarR.old (s := g) (HL.out.2 _ (rA_mem hkl)) BB.out (by rw [HG.out]; exact Nat.le_refl _) (by rw [HG.out]; exact Nat.le_refl _))
      have CC := Lib.hid (rcmp_law (rA L k).A B (rA L k).zs b (rA L k).cap cb wr OKk.1 RBk.1 (by have := OKk.2; omega) (by omega))
      have HT := ST.out k hlt
      rw [E.out] at HT
      have HX3 : Hid (∀ W, Below g w W → W.cell? ⟨ba, oa + k, none⟩ = some (.slice (rA L k).A (rA L k).zs.length (rA L k).cap)) := fun W hW => by
        obtain ⟨b2, o2, e2, h2⟩ := (HL.out.1.below hW (by rw [HG.out]; exact Nat.le_refl _)).at k hkl
        injection e2 with e2
        injection e2 with e3 e4
        subst e3 e4
        exact h2
      have FX : Hid (∀ W, Below g w W → FarR W g (rA L k)) := fun W hW => FarR.old (s := g) (HL.out.2 _ (rA_mem hkl)) hW (by rw [HG.out]; exact Nat.le_refl _) (by rw [HG.out]; exact Nat.le_refl _)
      clear RW OKk RBk hkl
      generalize rA L k = r at *
      obtain ⟨xA, xs, xc⟩ := r
      dsimp only at *
      have cs := cmpL_cases xs b
      have HT := Lib.hid HT
      generalize hcv : cmpL xs b = cv at *
      have HCV := Lib.hid hcv
      clear hcv
      cases dn
      · have hM3 : M.length ≤ k := hM2.out rfl
        clear hM2
        rcases cs with rfl | rfl | rfl
        · go_wp2_with fail
          refine CC.out.mono ?_
          rintro e w3 ⟨rfl, K⟩
          have hx3 := keepc hx K
          have O3 := Lib.hid (O.out.below K (Nat.le_refl _))
          have FB3 := Lib.hid (FB.out.below K (Nat.le_refl _))
          have FA3 := Lib.hid (FA.out.below K (Nat.le_refl _))
          have B3 := Lib.hid (BB.out.trans (K.mono hsz))
          have hs3 := B3.out.size
          rw [← HG.out] at hs3
          have hlb := World.block_lt_of_cell? _ _ hx3
          clear K CC O FB FA BB hx
          go_wp2_with (at_builtin; refine wpList_row rfl (.tmp 33) (.tmp 38) rfl g _ M ⟨xA, xs, xc⟩ rfl (O3.out.alloc _) _ rfl (cell_new1 _ _ _) (FA3.out.alloc _) (by omega) (size_le_alloc hs3 _) ?_; intro v' w5 hown' hb')
          have O5 := Lib.hid hown'
          have B5 : Hid (Below g w w5) := (B3.out.alloc hs3 _).trans hb'
          have EN : Hid ((((rowsL L).take (k + 1)).foldl (stI b) ([], false)) = (rowsL (M ++ [⟨xA, xs, xc⟩]), false)) := by
            show _ = _
            rw [HT.out, rowsL_snoc]
            unfold stI
            rw [HCV.out]
            simp
          clear hown' hb'
          go_wp2
          go_roundw
          case rel => exact ⟨k + 1, _, false, by omega, by go_num, rfl, by rw [List.length_append]; simp; omega, (fun h => by rw [List.length_append]; simp; omega), O5, EN, B5⟩
          case measure => simp [intOf]; omega
        · go_wp2_with fail
          refine CC.out.mono ?_
          rintro e w3 ⟨rfl, K⟩
          have hx3 := keepc hx K
          have O3 := Lib.hid (O.out.below K (Nat.le_refl _))
          have FB3 := Lib.hid (FB.out.below K (Nat.le_refl _))
          have FA3 := Lib.hid (FA.out.below K (Nat.le_refl _))
          have B3 := Lib.hid (BB.out.trans (K.mono hsz))
          have hs3 := B3.out.size
          rw [← HG.out] at hs3
          have hlb := World.block_lt_of_cell? _ _ hx3
          clear K CC O FB FA BB hx
          go_wp2_with (at_builtin; refine wpList_row rfl (.tmp 33) (.tmp 38) rfl g _ M ⟨xA, xs, xc⟩ rfl (O3.out.alloc _) _ rfl (cell_new1 _ _ _) (FA3.out.alloc _) (by omega) (size_le_alloc hs3 _) ?_; intro v' w5 hown' hb')
          have O5 := Lib.hid hown'
          have B5 : Hid (Below g w w5) := (B3.out.alloc hs3 _).trans hb'
          have EN : Hid ((((rowsL L).take (k + 1)).foldl (stI b) ([], false)) = (rowsL (M ++ [⟨xA, xs, xc⟩]), true)) := by
            show _ = _
            rw [HT.out, rowsL_snoc]
            unfold stI
            rw [HCV.out]
            simp
          clear hown' hb'
          go_wp2
          go_roundw
          case rel => exact ⟨k + 1, _, true, by omega, by go_num, rfl, by rw [List.length_append]; simp; omega, (fun h => by rw [List.length_append]; simp; cases h), O5, EN, B5⟩
          case measure => simp [intOf]; omega
        · go_wp2_with fail
          refine CC.out.mono ?_
          rintro e w3 ⟨rfl, K⟩
          have hx3 := keepc hx K
          have O3 := Lib.hid (O.out.below K (Nat.le_refl _))
          have FB3 := Lib.hid (FB.out.below K (Nat.le_refl _))
          have FA3 := Lib.hid (FA.out.below K (Nat.le_refl _))
          have B3 := Lib.hid (BB.out.trans (K.mono hsz))
          have hs3 := B3.out.size
          rw [← HG.out] at hs3
          have hlb := World.block_lt_of_cell? _ _ hx3
          clear K CC O FB FA BB hx
          go_wp2_with (first | (at_builtin; refine wpList_row rfl (.tmp 27) (.tmp 29) rfl g _ M ⟨B, b, cb⟩ rfl (O3.out.alloc _) _ rfl (cell_new1 _ _ _) (FB3.out.alloc _) (by omega) (size_le_alloc hs3 _) ?_; intro v' w4 hown' hb'; have O4 := Lib.hid hown'; have B4 := Lib.hid ((B3.out.alloc hs3 (.cells #[.slice B b.length cb] 28)).trans hb'); have hs4 := Nat.le_trans (size_le_alloc hs3 (.cells #[.slice B b.length cb] 28)) hb'.size; have hx4 := HX3.out w4 B4.out; have F4 := Lib.hid (FX.out w4 B4.out); clear hown' hb') | (at_builtin; refine wpList_row rfl (.tmp 33) (.tmp 38) rfl g _ (M ++ [⟨B, b, cb⟩]) ⟨xA, xs, xc⟩ rfl (O4.out.alloc _) _ rfl (cell_new1 _ _ _) (F4.out.alloc _) (by rw [List.length_append]; simp; omega) (size_le_alloc hs4 _) ?_; intro v' w5 hown' hb'))
          have O5 := Lib.hid hown'
          have B5 : Hid (Below g w w5) := (B4.out.alloc hs4 _).trans hb'
          have EN : Hid ((((rowsL L).take (k + 1)).foldl (stI b) ([], false)) = (rowsL (M ++ [⟨B, b, cb⟩] ++ [⟨xA, xs, xc⟩]), true)) := by
            show _ = _
            rw [HT.out, rowsL_snoc, rowsL_snoc]
            unfold stI
            rw [HCV.out]
            simp
          clear hown' hb'
          go_wp2
          go_roundw
          case rel => exact ⟨k + 1, _, true, by omega, by go_num, rfl, by rw [List.length_append, List.length_append]; simp; omega, (fun h => (by cases h)), O5, EN, B5⟩
          case measure => simp [intOf]; omega
      · rcases cs with rfl | rfl | rfl
        · go_wp2_with fail
          refine CC.out.mono ?_
          rintro e w3 ⟨rfl, K⟩
          have hx3 := keepc hx K
          have O3 := Lib.hid (O.out.below K (Nat.le_refl _))
          have FB3 := Lib.hid (FB.out.below K (Nat.le_refl _))
          have FA3 := Lib.hid (FA.out.below K (Nat.le_refl _))
          have B3 := Lib.hid (BB.out.trans (K.mono hsz))
          have hs3 := B3.out.size
          rw [← HG.out] at hs3
          have hlb := World.block_lt_of_cell? _ _ hx3
          clear K CC O FB FA BB hx
          go_wp2_with (at_builtin; refine wpList_row rfl (.tmp 33) (.tmp 38) rfl g _ M ⟨xA, xs, xc⟩ rfl (O3.out.alloc _) _ rfl (cell_new1 _ _ _) (FA3.out.alloc _) (by omega) (size_le_alloc hs3 _) ?_; intro v' w5 hown' hb')
          have O5 := Lib.hid hown'
          have B5 : Hid (Below g w w5) := (B3.out.alloc hs3 _).trans hb'
          have EN : Hid ((((rowsL L).take (k + 1)).foldl (stI b) ([], false)) = (rowsL (M ++ [⟨xA, xs, xc⟩]), true)) := by
            show _ = _
            rw [HT.out, rowsL_snoc]
            unfold stI
            rw [HCV.out]
            simp
          clear hown' hb'
          go_wp2
          go_roundw
          case rel => exact ⟨k + 1, _, true, by omega, by go_num, rfl, by rw [List.length_append]; simp; omega, (fun h => by rw [List.length_append]; simp; cases h), O5, EN, B5⟩
          case measure => simp [intOf]; omega
        · go_wp2_with fail
          refine CC.out.mono ?_
          rintro e w3 ⟨rfl, K⟩
          have hx3 := keepc hx K
          have O3 := Lib.hid (O.out.below K (Nat.le_refl _))
          have FB3 := Lib.hid (FB.out.below K (Nat.le_refl _))
          have FA3 := Lib.hid (FA.out.below K (Nat.le_refl _))
          have B3 := Lib.hid (BB.out.trans (K.mono hsz))
          have hs3 := B3.out.size
          rw [← HG.out] at hs3
          have hlb := World.block_lt_of_cell? _ _ hx3
          clear K CC O FB FA BB hx
          go_wp2_with (at_builtin; refine wpList_row rfl (.tmp 33) (.tmp 38) rfl g _ M ⟨xA, xs, xc⟩ rfl (O3.out.alloc _) _ rfl (cell_new1 _ _ _) (FA3.out.alloc _) (by omega) (size_le_alloc hs3 _) ?_; intro v' w5 hown' hb')
          have O5 := Lib.hid hown'
          have B5 : Hid (Below g w w5) := (B3.out.alloc hs3 _).trans hb'
          have EN : Hid ((((rowsL L).take (k + 1)).foldl (stI b) ([], false)) = (rowsL (M ++ [⟨xA, xs, xc⟩]), true)) := by
            show _ = _
            rw [HT.out, rowsL_snoc]
            unfold stI
            rw [HCV.out]
            simp
          clear hown' hb'
          go_wp2
          go_roundw
          case rel => exact ⟨k + 1, _, true, by omega, by go_num, rfl, by rw [List.length_append]; simp; omega, (fun h => by rw [List.length_append]; simp; cases h), O5, EN, B5⟩
          case measure => simp [intOf]; omega
        · go_wp2_with fail
          refine CC.out.mono ?_
          rintro e w3 ⟨rfl, K⟩
          have hx3 := keepc hx K
          have O3 := Lib.hid (O.out.below K (Nat.le_refl _))
          have FB3 := Lib.hid (FB.out.below K (Nat.le_refl _))
          have FA3 := Lib.hid (FA.out.below K (Nat.le_refl _))
          have B3 := Lib.hid (BB.out.trans (K.mono hsz))
          have hs3 := B3.out.size
          rw [← HG.out] at hs3
          have hlb := World.block_lt_of_cell? _ _ hx3
          clear K CC O FB FA BB hx
          go_wp2_with (at_builtin; refine wpList_row rfl (.tmp 33) (.tmp 38) rfl g _ M ⟨xA, xs, xc⟩ rfl (O3.out.alloc _) _ rfl (cell_new1 _ _ _) (FA3.out.alloc _) (by omega) (size_le_alloc hs3 _) ?_; intro v' w5 hown' hb')
          have O5 := Lib.hid hown'
          have B5 : Hid (Below g w w5) := (B3.out.alloc hs3 _).trans hb'
          have EN : Hid ((((rowsL L).take (k + 1)).foldl (stI b) ([], false)) = (rowsL (M ++ [⟨xA, xs, xc⟩]), true)) := by
            show _ = _
            rw [HT.out, rowsL_snoc]
            unfold stI
            rw [HCV.out]
            simp
          clear hown' hb'
          go_wp2
          go_roundw
          case rel => exact ⟨k + 1, _, true, by omega, by go_num, rfl, by rw [List.length_append]; simp; omega, (fun h => by rw [List.length_append]; simp; cases h), O5, EN, B5⟩
          case measure => simp [intOf]; omega
    · obtain rfl : k = n := by omega
      rw [E.out] at SF
      cases dn
      · have hM3 : M.length ≤ k := hM2.out rfl
        clear hM2
        go_wp2_with (at_builtin; refine wpList_row rfl (.tmp 42) (.tmp 44) rfl g _ M ⟨B, b, cb⟩ rfl (O.out.alloc _) _ rfl (cell_new1 _ _ _) (FB.out.alloc _) (by omega) (size_le_alloc hsz _) ?_; intro v' w4 hown' hb')
        have O5 := Lib.hid hown'
        have B5 : Hid (Below g w w4) := (BB.out.alloc hsz _).trans hb'
        clear hown' hb'
        go_wp2
        go_ret
        exact ⟨_, _, rfl, O5.out, by rw [rowsL_snoc]; exact SF.out, by rw [List.length_append]; simp; omega, B5.out⟩
      · go_wp2
        go_ret
        exact ⟨_, _, rfl, O.out, SF.out, hM, BB.out⟩

set_option maxHeartbeats 8000000 in
set_option maxRecDepth 100000 in
theorem rmake_any (A : Option Addr) (L : List Row) (c : Nat) (w : World) (hr : ReadsL w A L) (hl : L.length ≤ 1000) :
    Calls Try.prog 14 #[.slice A L.length c] w (MPost L.length w (makeL (rowsL L))) := by
  have HU := Lib.hid (rusable_any A L c w hr hl)
  clear hr
  obtain ⟨g, hg⟩ : ∃ g, g = w.heap.size := ⟨_, rfl⟩
  have HG := Lib.hid hg
  unfold MPost at HU ⊢
  rw [← hg] at HU ⊢
  clear hg
  generalize L.length = n0 at *
  go_enter Try.func14, Try.ntmps14
  go_wp2_with fail
  refine HU.out.mono ?_
  rintro e w1 ⟨A1, c1, U, rfl, E1, N1, R1, B1⟩
  have HR := Lib.hid R1
  have B1 := Lib.hid B1
  have hs1 := B1.out.size
  rw [← HG.out] at hs1
  have ST : Hid (∀ k, k < U.length → ((rowsL U).take (k + 1)).foldl (stM (rowsL U)) [] = stM (rowsL U) (((rowsL U).take k).foldl (stM (rowsL U)) []) (rA U k).zs) := fun k hk => stM_step (rowsL U) U hk
  have SF : Hid (((rowsL U).take U.length).foldl (stM (rowsL U)) [] = makeL (rowsL L)) := by
    show _ = _
    rw [rowsL_all]
    unfold makeL
    rw [← E1]
    rfl
  clear HU R1 E1
  obtain ⟨s, hs⟩ : ∃ s, s = w1.heap.size := ⟨_, rfl⟩
  have HS := Lib.hid hs
  clear hs
  generalize hn : U.length = n at *
  have HN := Lib.hid hn
  clear hn
  go_wp2_with fail
  go_loopw [4, 5] (fun p q wr => ∃ (k oc : Nat) (oA : Option Addr) (M : List Row), k ≤ n ∧ q = .int .i64 k ∧ p = .slice oA M.length oc ∧ (M.length ≤ k) ∧ Hid (ReadsL wr oA M) ∧ Hid ((((rowsL U).take k).foldl (stM (rowsL U)) []) = rowsL M) ∧ Hid (Below s w1 wr)) (fun _ q _ => n - (intOf q).toNat)
  case atStart => exact ⟨0, 0, none, [], by omega, rfl, rfl, Nat.le_refl _, ReadsL.nil _ _, rfl, Below.refl _ _⟩
  case round =>
    obtain ⟨k, oc, oA, M, hk, rfl, rfl, hM, RM, E, BB⟩ := hrel
    have hsz := BB.out.size
    rw [← HS.out] at hsz
    by_cases hlt : k < n
    · have RW := HR.out.below BB.out (by rw [HS.out]; exact Nat.le_refl _)
      have hkl : k < U.length := by rw [HN.out]; exact hlt
      obtain ⟨ba, oa, e1, hx⟩ := RW.1.at k hkl
      subst e1
      have OKk := RW.2 _ (rA_mem hkl)
      have CM := rminimal_any (some ⟨ba, oa, none⟩) (rA U k).A U (rA U k).zs c1 (rA U k).cap wr RW (by rw [HN.out]; omega) OKk.1
      rw [HN.out] at CM
      have CI : Hid (∀ W, Below wr.heap.size wr W → Calls Try.prog 38 #[.slice oA M.length oc, .slice (rA U k).A (rA U k).zs.length (rA U k).cap] W (MPost (M.length + 1) W (insG (rA U k).zs (rowsL M)))) := fun W hW =>
        rinsert_any oA (rA U k).A M (rA U k).zs oc (rA U k).cap W (RM.out.below hW (Nat.le_refl _)) (by omega) (OKk.below hW (Nat.le_refl _))
      have HT := ST.out k hlt
      rw [E.out] at HT
      unfold stM at HT
      clear RW OKk hkl
      generalize rA U k = r at *
      obtain ⟨xA, xs, xc⟩ := r
      dsimp only at *
      generalize hml : M.length = ml at *
      have HML := Lib.hid hml
      clear hml
      cases hm : minB (rowsL U) xs
      · rw [hm] at CM HT
        rw [if_neg (by simp)] at HT
        have HT := Lib.hid HT
        have CM := Lib.hid CM
        clear hm CI
        go_wp2_with fail
        refine CM.out.mono ?_
        rintro e w3 ⟨rfl, K⟩
        have B3 := Lib.hid (BB.out.trans (K.mono hsz))
        have R3 := Lib.hid (RM.out.below K (Nat.le_refl _))
        clear K CM
        go_wp2
        go_roundw
        case rel => exact ⟨k + 1, oc, oA, M, by omega, by go_num, by rw [HML.out], by rw [HML.out]; omega, R3, HT, B3⟩
        case measure => simp [intOf]; omega
      · rw [hm] at CM HT
        rw [if_pos rfl] at HT
        have HT := Lib.hid HT
        have CM := Lib.hid CM
        clear hm
        go_wp2_with fail
        refine CM.out.mono ?_
        rintro e w3 ⟨rfl, K⟩
        have K3 := Lib.hid K
        have hx3 := keepc hx K
        have B3 := Lib.hid (BB.out.trans (K.mono hsz))
        have hs3 := Nat.le_trans hsz K.size
        clear K CM
        go_wp2_with fail
        refine (CI.out _ K3.out).mono ?_
        rintro e w4 ⟨A4, c4, M4, rfl, E4, N4, R4, K⟩
        have B4 := Lib.hid (B3.out.trans (K.mono hs3))
        have R4 := Lib.hid R4
        have E4 := Lib.hid (HT.out.trans E4.symm)
        clear K CI
        go_wp2
        go_roundw
        case rel => exact ⟨k + 1, c4, A4, M4, by omega, by go_num, rfl, by omega, R4, E4, B4⟩
        case measure => simp [intOf]; omega
    · obtain rfl : k = n := by omega
      rw [SF.out] at E
      have BX := Lib.hid (B1.out.trans (BB.out.mono (by rw [HS.out]; exact hs1)))
      go_wp2
      go_ret
      exact ⟨oA, oc, M, rfl, E.out.symm, by omega, RM.out, BX.out⟩
end Go.Proofs.Ytlppoablhipinaa
