/- Event logs: the program's Variants. -/
import Derived.Test.YtgjgohnomophnaaDoorNK
namespace Go.Proofs.YtgjgohnomophnaaDoor
open Go.RowKit Go.Maps Go.WideMaps

/-- how often, as numbers -/
def cnI (R V : List (List Txt)) (k : Nat) : List Int := (cnK R V k).map Int.ofNat
theorem cnI_len (R V : List (List Txt)) (k : Nat) : (cnI R V k).length = V.length := by simp [cnI, cnK]
theorem cnI_at {R V : List (List Txt)} {k : Nat} {t : List Txt} (h : t ∈ V) : at0 (cnI R V k) (V.idxOf t) = (timK R t k : Nat) := by
  unfold at0 cnI
  rw [List.getElem?_map, cn_at h]
  rfl
theorem cnI_new {R : List (List Txt)} {k : Nat} (h : R[k]?.getD [] ∉ vsK R k) : cnI R (vsK R k ++ [R[k]?.getD []]) k = cnI R (vsK R k) k ++ [0] := by
  unfold cnI
  rw [cn_new h, List.map_append]
  rfl
theorem cnI_inc (R : List (List Txt)) (k : Nat) {V : List (List Txt)} (hn : V.Nodup) (hm : R[k]?.getD [] ∈ V) : (cnI R V k).set (V.idxOf (R[k]?.getD [])) ((timK R (R[k]?.getD []) k : Nat) + 1 : Int) = cnI R V (k + 1) := by
  unfold cnI
  rw [← cn_inc R k V hn hm, List.map_set]
  rfl
def VarS (R : List (List Txt)) (g b : Nat) (v u : Value) (k : Nat) (w : World) : Prop :=
  ∃ (L : List Row) (D : DataW Unit), OwnL w g v L ∧ rowsL L = vsK R k ∧ w.ownsRow g 3 1 u (vsK R k).length ((cnI R (vsK R k) k).map iv) ∧ OwnM w b k D ∧ MapOk D (vsK R k)
def VarPost (g : Nat) (w : World) (R : List (List Txt)) (e : Ending) (w' : World) : Prop :=
  ∃ v u L, e = .returned (.tuple #[v, u]) ∧ OwnL w' g v L ∧ rowsL L = vsK R R.length ∧ w'.ownsRow g 3 1 u (vsK R R.length).length ((cnI R (vsK R R.length) R.length).map iv) ∧ Below g w w'
theorem wf_n {n : Nat} (h : n ≤ 100000) : (Lit.int .i64 (n : Int)).wf = true := by
  have h1 : IntKind.min .i64 = -9223372036854775808 := rfl
  have h2 : IntKind.max .i64 = 9223372036854775807 := rfl
  show (decide (IntKind.min .i64 ≤ (n : Int)) && decide ((n : Int) ≤ IntKind.max .i64)) = true
  rw [h1, h2]
  simp
  omega
theorem key_lit {x : List Txt} (h : SmT x) : keyOf Tryd.prog 9 (.string ⟨(keyV x).toArray⟩) = some (litK x) := by
  have h1 : (keyV x).length ≤ 43 * x.length := keyT_len h.2 _
  have h2 := h.1
  have := keyOf_string_mk (P := Tryd.prog) Tryd.underlying9 (s := ⟨(keyV x).toArray⟩) (by rw [bytes_size]; unfold maxLen; omega)
  rw [this]
  rfl
/-- a known trace: its number grows -/
theorem VarS.old {R : List (List Txt)} {g b gu n cap : Nat} {v : Value} {k : Nat} {w : World} {L : List Row} {D : DataW Unit} (ol : OwnL w g v L) (hr : rowsL L = vsK R k)
    (ou : w.ownsRow g 3 1 (.slice (some ⟨gu, 0, none⟩) n cap) n ((cnI R (vsK R k) k).map iv)) (hn : n = (vsK R k).length) (om : OwnM w b k D) (mk : MapOk D (vsK R k)) (hx : R[k]?.getD [] ∈ vsK R k) (z : Int) (hz : z = (timK R (R[k]?.getD []) k : Nat) + 1) (i : Nat) (hi : i = (vsK R k).idxOf (R[k]?.getD [])) :
    VarS R g b v (.slice (some ⟨gu, 0, none⟩) n cap) (k + 1) (w.setCell ⟨gu, i, none⟩ (.int .i64 z)) := by
  have e : vsK R (k + 1) = vsK R k := by rw [vsK, if_pos hx]
  have hg := grown_setCell w gu i (.int .i64 z)
  refine ⟨L, D, ol.kept hg (Oth.ints ou), by rw [e]; exact hr, ?_, (om.kept hg (map_ne om ou)).mono (by omega), by rw [e]; exact mk⟩
  rw [e, ← cnI_inc R k (vs_nodup R k) hx, ← hi, ← hz, ← hn]
  exact own_put ou i z
/-- a new trace -/
theorem VarS.new {R : List (List Txt)} {g b gu n cap : Nat} {v : Value} {k : Nat} {w : World} {L : List Row} {D : DataW Unit} {r : Row} (ol : OwnL w g v (L ++ [r])) (hr : rowsL L = vsK R k) (hrz : r.zs = R[k]?.getD [])
    (ou : w.ownsRow g 3 1 (.slice (some ⟨gu, 0, none⟩) n cap) n ((cnI R (vsK R k) k ++ [0]).map iv)) (hn : n = (vsK R k).length + 1) (om : OwnM w b (k + 1) (D.put (litK (R[k]?.getD [])) (.lit (.int .i64 ((vsK R k).length : Nat))))) (mk : MapOk D (vsK R k)) (hs : SmT (R[k]?.getD [])) (hx : R[k]?.getD [] ∉ vsK R k) (i : Nat) (hi : i = (vsK R k).length) :
    VarS R g b v (.slice (some ⟨gu, 0, none⟩) n cap) (k + 1) (w.setCell ⟨gu, i, none⟩ (.int .i64 1)) := by
  have e : vsK R (k + 1) = vsK R k ++ [R[k]?.getD []] := by rw [vsK, if_neg hx]
  have hg := grown_setCell w gu i (.int .i64 1)
  refine ⟨L ++ [r], _, ol.kept hg (Oth.ints ou), by rw [e, rowsL_snoc, hr, hrz], ?_, om.kept hg (map_ne om ou), by rw [e]; exact mk.put hs hx⟩
  have hm : R[k]?.getD [] ∈ vsK R k ++ [R[k]?.getD []] := by simp
  have hd := vs_nodup R (k + 1)
  rw [e] at hd ⊢
  have hix : (vsK R k ++ [R[k]?.getD []]).idxOf (R[k]?.getD []) = i := by
    rw [List.idxOf_append, if_neg hx, hi]
    simp
  have h1 : ((timK R (R[k]?.getD []) k : Nat) + 1 : Int) = 1 := by rw [tim_new hx]; rfl
  rw [← cnI_inc R k hd hm, cnI_new hx, hix, h1, List.length_append, List.length_singleton, ← hn]
  exact own_put ou i 1
theorem le_of_hid {g a b : Nat} (h : Hid (g = a)) (h2 : a ≤ b) : g ≤ b := by rw [h.out]; exact h2
theorem after_row {w w' : World} {g b n k : Nat} {v u : Value} {L : List Row} {xs : List Value} {D : DataW Unit} {ob : Obj} (o : OwnL w g v L) (h : w.ownsRow g 3 1 u n xs) (m : OwnM w b k D) (hg : (w.alloc ob).grownBy w' v.ownBlock) : w'.ownsRow g 3 1 u n xs ∧ OwnM w' b k D :=
  ⟨(h.alloc ob).kept hg (row_ne (h.alloc ob) (o.alloc ob).1 (by decide)), (World.ownsMap.alloc m ob).kept hg (map_ne (World.ownsMap.alloc m ob) (o.alloc ob).1)⟩
theorem after_cnt {w w' : World} {g b n k : Nat} {v u : Value} {L : List Row} {xs : List Value} {D : DataW Unit} {ob : Obj} (o : OwnL w g v L) (h : w.ownsRow g 3 1 u n xs) (m : OwnM w b k D) (hg : (w.alloc ob).grownBy w' u.ownBlock) : OwnL w' g v L ∧ OwnM w' b k D :=
  ⟨(o.alloc ob).kept hg (Oth.ints (h.alloc ob)), (World.ownsMap.alloc m ob).kept hg (map_ne (World.ownsMap.alloc m ob) (h.alloc ob))⟩
set_option maxHeartbeats 4000000 in
set_option maxRecDepth 100000 in
theorem variants_any (A : Option Addr) (L : List Row) (c : Nat) (w : World) (hr : ReadsL w A L) (hf : FewP L) :
    Calls Tryd.prog 20 #[.slice A L.length c] w (VarPost w.heap.size w (rowsL L)) := by
  have RA := Lib.hid hr
  have hl := hf.1
  have HX : Hid (∀ j, j < L.length → SmT (rA L j).zs) := fun j hj => by
    refine ⟨(hf.2.1 j hj).1, fun i => ?_⟩
    rcases Nat.lt_or_ge i (rA L j).zs.length with h | h
    · exact (hf.2.1 j hj).2 i h
    · unfold atS
      rw [List.getElem?_eq_none h]
      exact Nat.zero_le _
  have HR : Hid (∀ j, (rowsL L)[j]?.getD [] = (rA L j).zs) := fun j => rows_at L j
  have HN : Hid ((rowsL L).length = L.length) := rowsL_len L
  obtain ⟨R, hR⟩ : ∃ R, R = rowsL L := ⟨_, rfl⟩
  rw [← hR] at HR HN ⊢
  clear hR
  have HVL : Hid (∀ k, (vsK R k).length ≤ k) := vs_len R
  have HTL : Hid (∀ t k, timK R t k ≤ k) := timK_le R
  obtain ⟨g, hg⟩ : ∃ g, g = w.heap.size := ⟨_, rfl⟩
  have HG := Lib.hid hg
  have B0 : Hid (Below g w (w.alloc (.map #[] 0))) := (Below.refl _ _).alloc (by rw [hg]; exact Nat.le_refl _) _
  have V0 : Hid (VarS R g w.heap.size (.slice none 0 0) (.slice none 0 0) 0 (w.alloc (.map #[] 0))) := ⟨[], _, OwnL.nil _ _, rfl, World.ownsRow_nil _ _ _ _, World.ownsMap_made (H := Unit) w Tryd.prog 9 (plainElem Tryd.prog 3), MapOk.nil⟩
  have HRES : Hid (∀ v u W, VarS R g w.heap.size v u R.length W → Below g w W → VarPost g w R (.returned (.tuple #[v, u])) W) := fun v u W ⟨L', D, h1, h2, h3, h4, h5⟩ hb => ⟨v, u, L', rfl, h1, h2, h3, hb⟩
  rw [← hg]
  have hgb : g ≤ w.heap.size := by omega
  generalize VarPost g w R = Q at *
  clear hg hr hf
  have hmm := @run_makeMap Tryd.prog
  go_enter Tryd.func20, Tryd.ntmps20
  go_wp2
  go_loopg [4, 5, 15] L.length (fun gg v u q wr => ∃ k : Nat, gg = L.length - k ∧ k ≤ L.length ∧ q = .int .i64 k ∧ Hid (VarS R g w.heap.size v u k wr) ∧ Hid (Below g w wr))
  case atStart => exact ⟨0, rfl, Nat.zero_le _, rfl, V0.out, B0.out⟩
  case round =>
    obtain ⟨k, hgg, hk, rfl, VS, BW⟩ := hrel
    have gs : g ≤ wr.heap.size := by have := BW.out.size; rw [← HG.out] at this; exact this
    by_cases hlt : k < L.length
    · have RW := RA.out.below BW.out (by rw [HG.out]; exact Nat.le_refl _)
      obtain ⟨bo, oo, rfl, hx1⟩ := RW.1.at k hlt
      have OK := RW.2 _ (rA_mem hlt)
      have SX := HX.out k hlt
      have hRk := HR.out k
      have RXA : ∀ W, Below g w W → ReadsS W (rA L k).A (rA L k).zs := fun W hW => ((RA.out.2 _ (rA_mem hlt)).below hW (by rw [HG.out]; exact Nat.le_refl _)).1
      clear RW
      generalize rA L k = r at *
      obtain ⟨xA, xs, xc⟩ := r
      dsimp only at *
      have CK := Lib.hid (key_any xA xs xc wr OK.1 SX.1 SX.2)
      have hkey := Lib.hid (key_lit SX)
      have RX := Lib.hid RXA
      have SXH := Lib.hid SX
      have hxl := SX.1
      clear OK SX RXA
      obtain ⟨L1, D, o1, e1, u1, m1, mk1⟩ := VS.out
      have hL1 : L1.length = (vsK R k).length := by rw [← e1, rowsL_len]
      have hVk := HVL.out k
      obtain ⟨vA, vc, rfl, -⟩ := o1.reads
      by_cases hm : xs ∈ vsK R k
      · have hm' : R[k]?.getD [] ∈ vsK R k := by rw [hRk]; exact hm
        have hp : 0 < (vsK R k).length := List.length_pos_of_mem hm
        obtain ⟨gu, cap, rfl, hgu, hgl⟩ := u1.form hp
        have hidx := List.idxOf_lt_length_of_mem hm
        have hMH := (mk1.2.2 xs SXH.out).1 hm
        have HH := Lib.hid hMH.1
        have HA := Lib.hid hMH.2
        have hat := cnI_at (R := R) (k := k) hm
        have ht := HTL.out xs k
        have HC : Hid (∀ W, Below wr.heap.size wr W → W.cell? ⟨gu, (vsK R k).idxOf xs, none⟩ = some (.int .i64 (timK R xs k : Nat))) := fun W hW => by
          rw [← hat]
          exact own_cell (own_below u1 hW (Nat.le_refl _)) _ (by rw [cnI_len]; exact hidx)
        have HZ : Hid (∀ W, Below wr.heap.size wr W → W.frozen? ⟨gu, (vsK R k).idxOf xs, none⟩ = false) := fun W hW => (own_below u1 hW (Nat.le_refl _)).frozenAt _
        have HS : Hid (∀ W, Below wr.heap.size wr W → VarS R g w.heap.size (.slice vA L1.length vc) (.slice (some ⟨gu, 0, none⟩) (vsK R k).length cap) (k + 1) (W.setCell ⟨gu, (vsK R k).idxOf xs, none⟩ (.int .i64 ((timK R xs k : Nat) + 1)))) := fun W hW =>
          VarS.old (o1.below hW (Nat.le_refl _)) e1 (own_below u1 hW (Nat.le_refl _)) rfl (map_below m1 hW (Nat.le_refl _)) mk1 hm' _ (by rw [hRk]) _ (by rw [hRk])
        have HM : Hid (∀ W, Below wr.heap.size wr W → OwnM W w.heap.size k D) := fun W hW => map_below m1 hW (Nat.le_refl _)
        clear hm hm' hMH hat o1 e1 u1 m1 mk1 VS hRk hL1
        generalize timK R xs k = tx at *
        generalize (vsK R k).idxOf xs = ix at *
        generalize (vsK R k).length = n at *
        generalize L1.length = nl at *
        generalize litK xs = kl at *
        go_wp2_with fail
        refine CK.out.mono ?_
        rintro e w2 ⟨rfl, K2⟩
        have B2 : Hid (Below g w w2) := BW.out.trans (K2.mono gs)
        have hc := HC.out w2 K2
        have hz := HZ.out w2 K2
        have hs2 := Lib.hid (HS.out w2 K2)
        have m2 := Lib.hid (HM.out w2 K2)
        clear K2
        go_wp2_with (first
          | (at_lookup; refine wpList_hit rfl _ _ rfl w.heap.size k D rfl m2.out _ kl rfl hkey.out ix HH.out HA.out ?_)
          | go_in)
        go_roundg (L.length - (k + 1))
        case rel => exact ⟨k + 1, rfl, by omega, by go_num, hs2.out, B2.out.setCell hgu _⟩
        case measure => omega
      · have hm' : R[k]?.getD [] ∉ vsK R k := by rw [hRk]; exact hm
        have HH := Lib.hid ((mk1.2.2 xs SXH.out).2 hm)
        have CLN := Lib.hid (fun W (h : ReadsS W xA xs) => clone_law xA xs xc W h (by omega))
        have SX' : SmT (R[k]?.getD []) := by rw [hRk]; exact SXH.out
        have HS : Hid (∀ (v2 : Value) (gu cap : Nat) (r : Row) (W : World), OwnL W g v2 (L1 ++ [r]) → r.zs = xs → W.ownsRow g 3 1 (.slice (some ⟨gu, 0, none⟩) ((vsK R k).length + 1) cap) ((vsK R k).length + 1) ((cnI R (vsK R k) k ++ [0]).map iv) → OwnM W w.heap.size (k + 1) (D.put (litK xs) (.lit (.int .i64 (L1.length : Nat)))) →
            VarS R g w.heap.size v2 (.slice (some ⟨gu, 0, none⟩) ((vsK R k).length + 1) cap) (k + 1) (W.setCell ⟨gu, L1.length, none⟩ (.int .i64 1))) := fun v2 gu cap r W h1 h2 h3 h4 =>
          VarS.new h1 e1 (h2.trans hRk.symm) h3 rfl (by rw [hRk, ← hL1]; exact h4) mk1 SX' hm' _ hL1
        have HC : Hid (∀ (gu cap : Nat) (W : World), W.ownsRow g 3 1 (.slice (some ⟨gu, 0, none⟩) ((vsK R k).length + 1) cap) ((vsK R k).length + 1) ((cnI R (vsK R k) k ++ [0]).map iv) → W.cell? ⟨gu, L1.length, none⟩ = some (.int .i64 0)) := fun gu cap W h => by
          have := own_cell h L1.length (by rw [List.length_append, cnI_len, List.length_singleton]; omega)
          rw [this]
          unfold at0
          rw [List.getElem?_append_right (by rw [cnI_len]; omega), cnI_len, hL1]
          simp
        have hL1b : L1.length ≤ 80 := by omega
        have hL1c : L1.length < (vsK R k).length + 1 := by omega
        clear hm hm' e1 mk1 VS hRk SX' hL1
        have o1' := Lib.hid o1
        have u1' := Lib.hid u1
        have m1' := Lib.hid m1
        clear o1 u1 m1
        generalize cnI R (vsK R k) k = cs at *
        generalize (vsK R k).length = n at *
        generalize litK xs = kl at *
        go_wp2_with fail
        refine CK.out.mono ?_
        rintro e w2 ⟨rfl, K2⟩
        have B2 : Hid (Below g w w2) := BW.out.trans (K2.mono gs)
        have o2 := Lib.hid (o1'.out.below K2 (Nat.le_refl _))
        have u2 := Lib.hid (own_below u1'.out K2 (Nat.le_refl _))
        have m2 := Lib.hid (map_below m1'.out K2 (Nat.le_refl _))
        clear K2 o1' u1' m1'
        have gs2 : g ≤ w2.heap.size := by have := B2.out.size; rw [← HG.out] at this; exact this
        go_wp2_with (first
          | (at_lookup; (refine wpList_miss rfl _ _ rfl w.heap.size k D rfl m2.out _ kl rfl hkey.out HH.out ?_))
          | (at_mapUpdate; (refine wpList_mapUpdate_own _ rfl _ _ _ 66 rfl 9 3 law_s Tryd.underlying66 (plainElem (H := Unit) Tryd.prog 3) w.heap.size k _ rfl m2.out (by unfold maxLen; omega) _ _ kl rfl rfl hkey.out _ [] (plainElem_int Tryd.underlying3 (wf_n (by omega))) ?_); intro w3 m3 g3; have K3 := below_grown g3 gs2 (fun q e => by cases e; omega); have B3 : Hid (Below g w w3) := B2.out.trans K3; have o3 := Lib.hid (o2.out.kept g3 (Oth.map m2.out (by omega))); have u3 := Lib.hid (u2.out.kept g3 (map_ne2 m2.out u2.out)); have cl3 := Lib.hid (CLN.out w3 (RX.out w3 B3.out)); clear K3 g3))
        refine cl3.out.mono ?_
        rintro e w4 ⟨cv, rfl, F4, K4⟩
        have s3 : g ≤ w3.heap.size := by have := B3.out.size; rw [← HG.out] at this; exact this
        have B4 : Hid (Below g w w4) := B3.out.trans (K4.mono s3)
        have s4 : g ≤ w4.heap.size := by have := B4.out.size; rw [← HG.out] at this; exact this
        obtain ⟨cA, cc, rfl, F5⟩ := FreshS.own F4
        have FR := Lib.hid (FarR.fresh (s := g) (c := cc) F5 (by omega))
        have o4 := Lib.hid (o3.out.below K4 (Nat.le_refl _))
        have u4' := Lib.hid (own_below u3.out K4 (Nat.le_refl _))
        have m4 := Lib.hid (map_below m3 K4 (Nat.le_refl _))
        clear F4 F5 K4 cl3 o3 u3 m3
        go_wp2_with (first
          | (at_builtin; (refine wpList_row2 rfl (.tmp 34) (.tmp 37) rfl g _ L1 ⟨cA, xs, cc⟩ rfl (o4.out.alloc _) w4.heap.size rfl (cell_new1 _ _ _) (FR.out.alloc _) (by omega) (by rw [World.size_alloc]; omega) ?_); intro v5 w5 o5 g5 K5; have B5 := Lib.hid ((B4.out.alloc s4 _).trans K5); obtain ⟨x5, y5⟩ := after_row o4.out u4'.out m4.out g5; have u5' := Lib.hid x5; have m5 := Lib.hid y5; have s5 := le_of_hid HG B5.out.size; clear x5 y5 g5 K5)
          | (at_builtin; (refine wpList_cnt rfl (.tmp 39) (.tmp 40) rfl g _ cs 0 rfl _ (u5'.out.alloc _) w5.heap.size rfl (cell_new1 _ _ _) (by omega) (by rw [World.size_alloc]; omega) ?_); intro u6 w6 o6 g6 K6; have B6 := Lib.hid ((B5.out.alloc s5 _).trans K6); obtain ⟨x6, y6⟩ := after_cnt o5 u5'.out m5.out g6; obtain ⟨gu, cap, rfl, hgu, hgl⟩ := o6.form (Nat.succ_pos _); have hc6 := HC.out gu cap w6 o6; have hz6 := o6.frozenAt L1.length; have hs6 := Lib.hid (HS.out v5 gu cap _ w6 x6 rfl o6 y6); clear g6 K6)
          | go_in)
        go_roundg (L.length - (k + 1))
        case rel => exact ⟨k + 1, rfl, by omega, by go_num, hs6.out, B6.out.setCell hgu _⟩
        case measure => omega
    · obtain rfl : k = L.length := by omega
      have HF := Lib.hid (HRES.out _ _ _ (by rw [HN.out]; exact VS.out) BW.out)
      go_wp2
      exact HF.out
end Go.Proofs.YtgjgohnomophnaaDoor
