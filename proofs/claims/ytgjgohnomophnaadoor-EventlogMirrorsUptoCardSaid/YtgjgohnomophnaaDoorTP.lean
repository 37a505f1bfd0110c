/- Event logs: Text of the program. -/
import Derived.Test.YtgjgohnomophnaaDoorJN
import Derived.Test.YtgjgohnomophnaaDoorEO
namespace Go.Proofs.YtgjgohnomophnaaDoor
open Go.RowKit

theorem txt_cells (L : List Row) (j : Nat) : Lib.byteCells (txtK (rowsL L) (j + 1)) = (Lib.byteCells (txtK (rowsL L) j) ++ Lib.strCells ⟨(rowT (rA L j).zs).toArray⟩) ++ [.int .u8 10] := by
  rw [txtK_step, Lib.byteCells_append, Lib.byteCells_append]
  rfl
set_option maxHeartbeats 4000000 in
set_option maxRecDepth 100000 in
theorem text_log (A : Option Addr) (L : List Row) (c : Nat) (w : World) (hr : ReadsL w A L) (hf : FewP L) (hc : ∀ j, j < L.length → (rA L j).zs.length ≤ (rA L j).cap) :
    Calls Tryd.prog 11 #[.slice A L.length c] w (TPost w.heap.size w (textV (rowsL L))) := by
  have hl := hf.1
  have HX := Lib.hid hf.str
  have HT := Lib.hid (fun j => @FewP.txt L hf j)
  have HS := Lib.hid (txt_cells L)
  have CK : Hid (∀ W, Below w.heap.size w W → Calls Tryd.prog 15 #[.slice A L.length c] W (FPost W.heap.size W (chkL (rowsL L)))) := fun W h => check_log A L c W (hr.below h (Nat.le_refl _)) (by omega) (fun j i _ _ => Nat.le_trans (hf.str j i) (by decide))
  have H80 : Hid (∀ j, j < L.length → (rA L j).zs.length ≤ 80) := fun j hj => (hf.2.1 j hj).1
  have HCP := Lib.hid hc
  have hB0 : Below w.heap.size w (w.alloc (.cells #[.int .i64 0, .int .i64 0] 27)) := (Below.refl _ _).alloc (Nat.le_refl _) _
  have hF0 := FBx.new w 0 0
  have HB : Hid ((chkL (rowsL L)).1 ≠ 0 → textV (rowsL L) = ([], (chkL (rowsL L)).1, (chkL (rowsL L)).2)) := fun h => by unfold textV; rw [if_pos h]
  have HG : Hid (¬ (chkL (rowsL L)).1 ≠ 0 → textV (rowsL L) = (txtK (rowsL L) L.length, 0, 0)) := fun h => by unfold textV; rw [if_neg h, rowsL_len]
  generalize textV (rowsL L) = RES at *
  generalize chkL (rowsL L) = ck at *
  obtain ⟨E, K⟩ := ck
  dsimp only at HB HG
  clear hf hc
  by_cases hE : E ≠ 0
  · have EQ := Lib.hid (HB.out hE)
    have eE : (E == 0) = false := by simpa using hE
    clear HB HG HT HS HX H80 hr HCP
    go_enter Tryd.func11, Tryd.ntmps11
    go_wp2_with fail
    refine (CK.out _ hB0).mono ?_
    rintro e w2 ⟨rfl, k2⟩
    unfold flt
    have B2 := hB0.trans (k2.mono hB0.size)
    go_wp2_with fail
    obtain ⟨w3, hw3⟩ : ∃ w3, w3 = w2.alloc (.cells #[.int .i64 E, .int .i64 (K : Int)] 27) := ⟨_, rfl⟩
    have FN := FBx.new w2 E (K : Int)
    have F2 := hF0.keep (KeepOn.of_below (fun _ => True) k2) trivial
    have hlt2 : w.heap.size < w2.heap.size := F2.lt
    have hne : w2.heap.size ≠ w.heap.size := by omega
    have F3 : FBx w3 w.heap.size 0 0 := by rw [hw3]; exact F2.keep (KeepOn.alloc (S := fun _ => True) _ _) trivial
    rw [← hw3] at FN
    have B3 : Below w.heap.size w w3 := by rw [hw3]; exact B2.alloc (by omega) _
    rw [← hw3]
    have FW : FBx w3.drew w.heap.size 0 0 := F3.keep (KeepOn.drew (S := fun _ => True) w3) trivial
    have FM : FBx w3.drew w2.heap.size E K := FN.keep (KeepOn.drew (S := fun _ => True) w3) trivial
    have x0 := FM.c0
    have x1 := FM.c1
    have a0 := FW.c0
    have a1 := FW.fr
    have a2 := (FW.set0 E).c1
    have a3 := (FW.set0 E).fr 1
    have FE := (FW.set0 E).set1 (K : Int)
    have r0 := FE.c0
    have r1 := FE.c1
    have FM2 : FBx ((w3.drew.setCell ⟨w.heap.size, 0, none⟩ (.int .i64 E)).setCell ⟨w.heap.size, 1, none⟩ (.int .i64 (K : Int))) w2.heap.size E K := FM.keep (keep2 _ _ _ _ _ _) hne
    have m0 := FM2.c0
    have m1 := FM2.c1
    have B4 : Hid (Below w.heap.size w w3.drew) := B3.trans ((Below.refl _ _).drew)
    clear F2 F3 FN k2 CK B2 B3 hw3 FM2
    refine wp_region_held_drew (S := fun w' => w'.cell? ⟨w2.heap.size, 0, none⟩ = some (.int .i64 E) ∧ w'.cell? ⟨w2.heap.size, 1, none⟩ = some (.int .i64 (K : Int)) ∧ Hid (∃ x y, FBx w' w.heap.size x y)) (by kernel_rfl) ?_ (fun hHeld => ?_)
    · exact ⟨x0, x1, _, _, FW⟩
    refine wpAnyH_take (oi := ⟨_, _, _, _, _, _⟩) (i := 0) (v := ?_) rfl (by kernel_rfl) (by kernel_rfl) (by kernel_rfl) (fun _ _ _ h => h) (Or.inl ⟨by rfl, ?ya0⟩) (by assumption) ?ra0
    case ya0 => (intro w hSw; (try dsimp only at hSw); go_simp; (try with_reducible rfl))
    try simp only [Act.put, List.setIfInBounds_toArray, List.set_cons_zero, List.set_cons_succ]
    refine wpAnyH_take (oi := ⟨_, _, _, _, _, _⟩) (i := 1) (v := ?_) rfl (by kernel_rfl) (by kernel_rfl) (by kernel_rfl) (fun _ _ _ h => h) (Or.inl ⟨by rfl, ?ya1⟩) (by assumption) ?ra1
    case ya1 => (intro w hSw; (try dsimp only at hSw); go_simp; (try with_reducible rfl))
    try simp only [Act.put, List.setIfInBounds_toArray, List.set_cons_zero, List.set_cons_succ]
    refine wpAnyH_ready (rs := [2]) (by kernel_rfl) (by simp) ?_
    refine AllReadyH.cons (o := ⟨_, _, _, _, _, _⟩) rfl (fun K hK => ?_) AllReadyH.nil
    generalize w3.drew = w5 at *
    go_simp
    refine hK.out _ _ ?_ (fun hHeld2 => ?_)
    · exact ⟨m0, m1, _, _, FE⟩
    clear hK K hHeld
    have hHeld := hHeld2
    clear hHeld2
    try simp only [Act.put, List.setIfInBounds_toArray, List.set_cons_zero, List.set_cons_succ]
    refine wpAnyH_done (by kernel_rfl) ?_ _
    go_wp2
    exact bodyPost_ret (v := .tuple #[.string ⟨[].toArray⟩, .agg #[.int .i64 E, .int .i64 (K : Int)]]) (by simp [results, Tryd.results11, go_sem, r0, r1]) rfl (tpost_of EQ.out (below2 B4.out))
  · have EQ := Lib.hid (HG.out hE)
    obtain rfl : E = 0 := by simpa using hE
    clear HB HG hE
    go_enter Tryd.func11, Tryd.ntmps11
    go_wp2_with fail
    refine (CK.out _ hB0).mono ?_
    rintro e w2 ⟨rfl, k2⟩
    unfold flt
    have B2 := hB0.trans (k2.mono hB0.size)
    have F2 := hF0.keep (KeepOn.of_below (fun _ => True) k2) trivial
    go_wp2_with fail
    obtain ⟨w3, hw3⟩ : ∃ w3, w3 = w2.alloc (.cells #[.int .i64 0, .int .i64 (K : Int)] 27) := ⟨_, rfl⟩
    rw [← hw3]
    have s3 : w2.heap.size + 1 = w3.heap.size := by rw [hw3, World.size_alloc]
    rw [s3]
    have B3 : Below w.heap.size w w3 := by rw [hw3]; exact B2.alloc (by have := B2.size; omega) _
    have F3 : FBx w3 w.heap.size 0 0 := by rw [hw3]; exact F2.keep (KeepOn.alloc (S := fun _ => True) _ _) trivial
    have RA := Lib.hid (hr.below B3 (Nat.le_refl _))
    have hs3 := B3.size
    have hg3 := F3.lt
    have F0 : Hid (Lib.IsBuilder 49 5 w3.heap.size w3.heap.size [] (w3.alloc (.cells #[.pointer none, .slice none 0 0] 49))) := Lib.fresh_isBuilder 49 5 w3
    have D0 : Hid (Below w3.heap.size w3 (w3.alloc (.cells #[.pointer none, .slice none 0 0] 49))) := (Below.refl _ _).alloc (Nat.le_refl _) _
    have T := Lib.hid (fun bs s W h hl hB => text_law w3.heap.size w3.heap.size bs s W h hl hB)
    have Y := Lib.hid (fun bs s W h hl hB => byte_law w3.heap.size w3.heap.size bs s W h hl hB)
    have ST := Lib.hid (fun l W h hB => Tryd.Builder_String_any w3.heap.size w3.heap.size l W h hB)
    have HF := Lib.hid (fun W (h : Below w3.heap.size w3 W) => (show FBx W w.heap.size 0 0 from (h.block _ hg3).trans F3))
    have HW := Lib.hid (fun W (h : Below w3.heap.size w3 W) => (show Below w.heap.size w W from B3.trans (h.mono hs3)))
    have HT0 : Hid (Lib.byteCells (txtK (rowsL L) 0) = []) := rfl
    clear k2 F2 B2 B3 F3 hw3 s3 hr hF0 hB0 CK
    go_loopg [16] L.length (fun gg q wr => ∃ j : Nat, gg = L.length - j ∧ j ≤ L.length ∧ q = .int .i64 j ∧ Hid (Lib.IsBuilder 49 5 w3.heap.size w3.heap.size (Lib.byteCells (txtK (rowsL L) j)) wr) ∧ Hid (Below w3.heap.size w3 wr))
    case atStart => exact ⟨0, rfl, Nat.zero_le _, rfl, by rw [HT0.out]; exact F0.out, D0.out⟩
    case round =>
      obtain ⟨j, hgg, hj, rfl, O, B⟩ := hrel
      have gs := B.out.size
      have hTj := HT.out j hj
      have hbl : (Lib.byteCells (txtK (rowsL L) j)).length = (txtK (rowsL L) j).length := Lib.byteCells_length _
      by_cases hlt : j < L.length
      · obtain ⟨bo, oo, rfl, hx1⟩ := RA.out.1.at j hlt
        have hbo : bo < w3.heap.size := by
          obtain ⟨_, _, e, h, _⟩ := RA.out.1 j hlt
          cases e; exact h
        have q1 : wr.cell? ⟨bo, oo + j, none⟩ = some (.slice (rA L j).A (rA L j).zs.length (rA L j).cap) := (B.out.cell (p := ⟨bo, oo + j, none⟩) hbo).trans hx1
        have OK := RA.out.2 _ (rA_mem hlt)
        have h80 := H80.out j hlt
        have hcp := HCP.out j hlt
        have hS := HS.out j
        have hxs := HX.out j
        generalize rA L j = r at *
        obtain ⟨xA, xs, xc⟩ := r
        dsimp only at *
        have R2 := Lib.hid OK.1
        have CJ := Lib.hid (fun W (h : Below w3.heap.size w3 W) => join_law xA xs xc W (R2.out.below h (Nat.le_refl _)) h80 hcp hxs)
        have hwl : (wK xs xs.length).length ≤ 41 * 80 := Nat.le_trans (wK_len hxs xs.length) (by omega)
        replace hS := Lib.hid hS
        clear OK hx1 hxs
        generalize Lib.byteCells (txtK (rowsL L) j) = bs at *
        generalize txtK (rowsL L) j = X at *
        by_cases hz : xs.length = 0
        · obtain rfl : xs = [] := List.eq_nil_of_length_eq_zero hz
          have CT := Lib.hid (T.out _ ⟨#[45]⟩ wr O.out (by rw [hbl]; show _ + 1 ≤ _; omega) gs)
          have hE : Hid (bs ++ Lib.strCells ⟨#[45]⟩ ++ Lib.strCells ⟨(wK ([] : List Txt) ([] : List Txt).length).toArray⟩ = bs ++ Lib.strCells ⟨(rowT ([] : List Txt)).toArray⟩) := by
            show _ = _
            rw [List.append_assoc]; rfl
          clear hz
          go_wp2_with fail
          refine CT.out.mono ?_
          rintro e w4 ⟨rfl, F4, K4⟩
          have B4 : Hid (Below w3.heap.size w3 w4) := B.out.trans K4
          have O4 : Hid (Lib.IsBuilder 49 5 w3.heap.size w3.heap.size (bs ++ Lib.strCells ⟨#[45]⟩) w4) := .inr F4
          have CJ4 := Lib.hid (CJ.out w4 B4.out)
          have l4 : (bs ++ Lib.strCells ⟨#[45]⟩).length ≤ 20000 := by rw [List.length_append, hbl]; show _ + 1 ≤ _; omega
          clear F4 K4 CT CJ
          go_wp2_with fail
          refine CJ4.out.mono ?_
          rintro e w5 ⟨rfl, K5⟩
          have B5 : Hid (Below w3.heap.size w3 w5) := B4.out.trans (K5.mono B4.out.size)
          have O5 := Lib.hid (builder_below O4.out K5)
          have CT5 := Lib.hid (T.out _ ⟨(wK ([] : List Txt) ([] : List Txt).length).toArray⟩ w5 O5.out (by rw [bytes_size]; omega) B5.out.size)
          rw [hE.out] at CT5
          clear K5 CJ4 O4
          go_wp2_with fail
          refine CT5.out.mono ?_
          rintro e w6 ⟨rfl, F6, K6⟩
          have B6 : Hid (Below w3.heap.size w3 w6) := B5.out.trans K6
          have CY := Lib.hid (Y.out _ 10 w6 (.inr F6) (by rw [← hE.out, List.length_append, Lib.strCells_length, bytes_size]; omega) B6.out.size)
          rw [← hS.out] at CY
          clear F6 K6 CT5 O5
          go_wp2_with fail
          refine CY.out.mono ?_
          rintro e w7 ⟨rfl, F7, K7⟩
          have B7 : Hid (Below w3.heap.size w3 w7) := B6.out.trans K7
          have O7 : Hid (Lib.IsBuilder 49 5 w3.heap.size w3.heap.size (Lib.byteCells (txtK (rowsL L) (j + 1))) w7) := .inr F7
          clear F7 K7 CY
          go_wp2
          go_roundg (L.length - (j + 1))
          case rel => exact ⟨j + 1, rfl, by omega, by go_num, O7.out, B7.out⟩
          case measure => omega
        · have hE : Hid (bs ++ Lib.strCells ⟨(wK xs xs.length).toArray⟩ = bs ++ Lib.strCells ⟨(rowT xs).toArray⟩) := by
            show _ = _
            unfold rowT; rw [if_neg hz]
          have ez : ((xs.length : Int) == 0) = false := by rw [beq_eq_false_iff_ne]; omega
          have B4 := B
          have O4 := O
          have CJ4 := Lib.hid (CJ.out wr B4.out)
          have l4 : bs.length ≤ 20000 := by rw [hbl]; omega
          clear hz CJ
          go_wp2_with fail
          refine CJ4.out.mono ?_
          rintro e w5 ⟨rfl, K5⟩
          have B5 : Hid (Below w3.heap.size w3 w5) := B4.out.trans (K5.mono B4.out.size)
          have O5 := Lib.hid (builder_below O4.out K5)
          have CT5 := Lib.hid (T.out _ ⟨(wK xs xs.length).toArray⟩ w5 O5.out (by rw [bytes_size]; omega) B5.out.size)
          rw [hE.out] at CT5
          clear K5 CJ4 O4
          go_wp2_with fail
          refine CT5.out.mono ?_
          rintro e w6 ⟨rfl, F6, K6⟩
          have B6 : Hid (Below w3.heap.size w3 w6) := B5.out.trans K6
          have CY := Lib.hid (Y.out _ 10 w6 (.inr F6) (by rw [← hE.out, List.length_append, Lib.strCells_length, bytes_size]; omega) B6.out.size)
          rw [← hS.out] at CY
          clear F6 K6 CT5 O5
          go_wp2_with fail
          refine CY.out.mono ?_
          rintro e w7 ⟨rfl, F7, K7⟩
          have B7 : Hid (Below w3.heap.size w3 w7) := B6.out.trans K7
          have O7 : Hid (Lib.IsBuilder 49 5 w3.heap.size w3.heap.size (Lib.byteCells (txtK (rowsL L) (j + 1))) w7) := .inr F7
          clear F7 K7 CY
          go_wp2
          go_roundg (L.length - (j + 1))
          case rel => exact ⟨j + 1, rfl, by omega, by go_num, O7.out, B7.out⟩
          case measure => omega
      · obtain rfl : j = L.length := by omega
        have CS := Lib.hid (ST.out _ wr O.out gs)
        go_wp2_with fail
        refine CS.out.mono ?_
        rintro e w4 ⟨rfl, K4⟩
        have B4 : Hid (Below w3.heap.size w3 w4) := B.out.trans K4
        have F2 := HF.out w4 B4.out
        have a0 := F2.c0
        have a1 := F2.fr
        have a2 := (F2.set0 0).c1
        have a3 := (F2.set0 0).fr 1
        have r0 := ((F2.set0 0).set1 0).c0
        have r1 := ((F2.set0 0).set1 0).c1
        clear K4
        go_wp2
        exact bodyPost_ret (v := .tuple #[.string ⟨(txtK (rowsL L) L.length).toArray⟩, .agg #[.int .i64 0, .int .i64 0]]) (by simp [results, Tryd.results11, go_sem, r0, r1]) rfl (tpost_of (k := 0) EQ.out (below2 (HW.out _ B4.out)))
end Go.Proofs.YtgjgohnomophnaaDoor
