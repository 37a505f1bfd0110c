/- The contract of the check. -/
import Derived.Test.YthpbgdeeajhbjaaDoorC
namespace Go.Proofs.YthpbgdeeajhbjaaDoor
open Go.RowKit Go.Maps Go.WideMaps

theorem ret_i {a b : Int} (h : a = b) : Ending.returned (.int .i64 a) = .returned (.int .i64 b) := by rw [h]
theorem map_below {H : Type} {w w' : World} {P : Program} {k : TypeId} {R : Value → Option (DataW H × List MemPlace)} {b n : Nat} {D : DataW H} {B : Nat} (h : w.ownsMap P k R b n D) (hb : Below B w w') (hB : w.heap.size ≤ B) : w'.ownsMap P k R b n D := by
  have hlt := h.lt
  obtain ⟨es, clock, h1, h2⟩ := h
  exact ⟨es, clock, (hb.block b (by omega)).trans h1, h2⟩

set_option maxHeartbeats 4000000 in
set_option maxRecDepth 100000 in
theorem check_any (nm : ByteArray) (a : Addr) (L : List ByteArray) (cap : Nat) (w : World) (hnm : nm.size ≤ maxLen) (hL : ∀ s ∈ L, s.size ≤ maxLen) (hr : ReadsS w a L) (ha : a.block < w.heap.size) (hl0 : L.length ≤ maxLen) :
    Calls Tryd.prog 14 #[.agg #[.string nm, .slice (some a) L.length cap]] w fun e w' => e = .returned (.int .i64 (checkV nm L)) ∧ Below w.heap.size w w' := by
  have hmm := @run_makeMap Tryd.prog
  generalize hS : checkV nm L = S
  have HS := Lib.hid hS
  clear hS
  generalize hg : w.heap.size = g
  have HG := Lib.hid hg
  clear hg
  unfold maxLen at hl0
  have C := fun W => name_any nm W hnm
  have HR := Lib.hid hr
  clear hr
  have B0 : Hid (Below g w (w.alloc (.cells #[.string nm, .slice (some a) L.length cap] 26))) := (Below.refl _ _).alloc (by rw [HG.out]; exact Nat.le_refl _) _
  cases hn : nameB (bytesI nm)
  · have E : Hid (5 = S) := by show _ = _; rw [← HS.out]; simp [checkV, hn]
    rw [hn] at C
    have C := Lib.hid C
    clear hn
    go_enter Tryd.func14, Tryd.ntmps14
    go_wp2_with fail
    refine (C.out _).mono ?_
    rintro e w1 ⟨rfl, K1⟩
    have B1 : Hid (Below g w w1) := B0.out.trans (K1.mono (by rw [World.size_alloc, HG.out]; omega))
    go_wp2
    go_ret
    exact ⟨ret_i E.out, B1.out⟩
  · rw [hn] at C
    have C := Lib.hid C
    have HN := Lib.hid hn
    clear hn
    by_cases h1 : L.length < 1
    · have E : Hid (2 = S) := by show _ = _; rw [← HS.out]; simp [checkV, HN.out, h1]
      go_enter Tryd.func14, Tryd.ntmps14
      go_wp2_with fail
      refine (C.out _).mono ?_
      rintro e w1 ⟨rfl, K1⟩
      have hc1 : w1.cell? ⟨w.heap.size, 1, none⟩ = some (.slice (some a) L.length cap) := by
        rw [K1.cell (by simp)]
        exact (World.cell?_alloc_new _ _ _ _).trans rfl
      have B1 : Hid (Below g w w1) := B0.out.trans (K1.mono (by rw [World.size_alloc, HG.out]; omega))
      clear K1
      go_wp2
      go_ret
      exact ⟨ret_i E.out, B1.out⟩
    · by_cases h2 : 12 < L.length
      · have E : Hid (2 = S) := by show _ = _; rw [← HS.out]; simp [checkV, HN.out, h2]
        go_enter Tryd.func14, Tryd.ntmps14
        go_wp2_with fail
        refine (C.out _).mono ?_
        rintro e w1 ⟨rfl, K1⟩
        have hc1 : w1.cell? ⟨w.heap.size, 1, none⟩ = some (.slice (some a) L.length cap) := by
          rw [K1.cell (by simp)]
          exact (World.cell?_alloc_new _ _ _ _).trans rfl
        have B1 : Hid (Below g w w1) := B0.out.trans (K1.mono (by rw [World.size_alloc, HG.out]; omega))
        clear K1
        go_wp2
        go_ret
        exact ⟨ret_i E.out, B1.out⟩
      · have hlo : 1 ≤ L.length := by omega
        have hhi : L.length ≤ 12 := by omega
        have E : Hid (chk [] L = S) := by show _ = _; rw [← HS.out]; simp [checkV, HN.out, h1, h2]
        clear h1 h2
        go_enter Tryd.func14, Tryd.ntmps14
        go_wp2_with fail
        refine (C.out _).mono ?_
        rintro e w1 ⟨rfl, K1⟩
        have hc1 : w1.cell? ⟨w.heap.size, 1, none⟩ = some (.slice (some a) L.length cap) := by
          rw [K1.cell (by simp)]
          exact (World.cell?_alloc_new _ _ _ _).trans rfl
        have B1 : Hid (Below g w w1) := B0.out.trans (K1.mono (by rw [World.size_alloc, HG.out]; omega))
        have hgm : Hid (g ≤ w1.heap.size) := by
          have := B1.out.size
          rw [HG.out] at this
          exact this
        have hlt0 : w.heap.size < w1.heap.size := by
          have := K1.size
          rw [World.size_alloc] at this
          omega
        have hc2 : (w1.alloc (.map #[] 0)).cell? ⟨w.heap.size, 1, none⟩ = some (.slice (some a) L.length cap) := by
          rw [World.cell?_alloc_lt (h := hlt0)]
          exact hc1
        clear K1
        go_wp2
        go_loopw [24] (fun q wr => ∃ k : Nat, k ≤ L.length ∧ q = .int .i64 k ∧ Hid (wr.ownsMap Tryd.prog 9 (plainElem (H := Unit) Tryd.prog 4) w1.heap.size k (seenD (L.take k))) ∧ Hid (Below w1.heap.size w1 wr) ∧ Hid (chk (L.take k) (L.drop k) = S)) (fun q _ => L.length - (intOf q).toNat)
        case atStart =>
          refine ⟨0, by omega, rfl, ?_, ?_, ?_⟩
          · exact World.ownsMap_made (H := Unit) w1 Tryd.prog 9 (plainElem Tryd.prog 4)
          · exact (Below.refl _ _).alloc (Nat.le_refl _) _
          · show _ = _
            rw [← E.out]; simp
        case round =>
          obtain ⟨k, hk, rfl, HO, HB, HK⟩ := hrel
          have HBw : Hid (Below g w wr) := B1.out.trans (HB.out.mono hgm.out)
          by_cases hlt : k < L.length
          · obtain ⟨v, hv⟩ : ∃ v, v = L[k]?.getD ByteArray.empty := ⟨_, rfl⟩
            have HR2 := HR.out.below HBw.out (by rw [← HG.out]; exact ha)
            have hcx : wr.cell? (a.add k) = some (.string v) := by rw [hv]; exact HR2 k hlt
            have hvm : v ∈ L := by rw [hv, List.getElem?_eq_getElem hlt]; exact List.getElem_mem hlt
            have hvz : v.size ≤ maxLen := hL v hvm
            have HT : Hid (L.take (k + 1) = L.take k ++ [v]) := by show _ = _; rw [List.take_add_one, hv, List.getElem?_eq_getElem hlt]; rfl
            have hdr : L.drop k = v :: L.drop (k + 1) := by rw [hv, List.getElem?_eq_getElem hlt]; exact List.drop_eq_getElem_cons hlt
            have HK2 := HK.out
            rw [hdr] at HK2
            unfold chk at HK2
            clear hdr HR2 hvm hv HK
            have hsz := HB.out.size
            have C2 := fun W => name_any v W hvz
            cases hnv : nameB (bytesI v)
            · have E2 : Hid (5 = S) := by show _ = _; rw [← HK2]; simp [hnv]
              rw [hnv] at C2
              have C2 := Lib.hid C2
              clear hnv HK2
              go_wp2_with fail
              refine (C2.out _).mono ?_
              rintro e w2 ⟨rfl, K2⟩
              have HB2 : Hid (Below w1.heap.size w1 w2) := HB.out.trans (K2.mono hsz)
              clear K2
              go_wp2
              go_ret
              exact ⟨ret_i E2.out, B1.out.trans (HB2.out.mono hgm.out)⟩
            · have hkey : keyOf Tryd.prog 9 (.string v) = some (keyB v) := keyOf_string_mk Tryd.underlying9 hvz
              rw [hnv] at C2
              have C2 := Lib.hid C2
              have HAT : Hid ((seenD (H := Unit) (L.take k)).atKey (keyB v) (.lit (.bool false)) = .lit (.bool (inB (L.take k) v))) := at_seenD _ _
              cases hin : inB (L.take k) v
              · rw [hin] at HAT
                have HK3 : Hid (chk (L.take (k + 1)) (L.drop (k + 1)) = S) := by show _ = _; rw [← HK2, HT.out]; simp [hnv, hin]
                clear hnv HK2 hin
                go_wp2_with fail
                refine (C2.out _).mono ?_
                rintro e w2 ⟨rfl, K2⟩
                have HO2 := Lib.hid (map_below HO.out K2 (Nat.le_refl _))
                have HB2 : Hid (Below w1.heap.size w1 w2) := HB.out.trans (K2.mono hsz)
                clear K2
                obtain ⟨c, hrun, hat⟩ := look_bool HO2.out hkey
                obtain rfl : c = false := by
                  rw [HAT.out] at hat
                  simpa using hat.symm
                clear hat
                go_wp2_with (first
                  | (at_mapUpdate; refine wpList_mapUpdate_own _ rfl _ _ _ 45 rfl 9 4 law_s Tryd.underlying45 (plainElem (H := Unit) Tryd.prog 4) w1.heap.size k _ rfl HO2.out (by unfold maxLen; omega) _ _ _ rfl rfl hkey _ [] (plainElem_bool Tryd.underlying4 true) ?_; intro w3 hown3 hgrow3)
                  | go_in)
                go_roundw
                case rel =>
                  refine ⟨k + 1, by omega, by go_num, ?_, ?_, HK3⟩
                  · show World.ownsMap _ _ _ _ _ _ _
                    rw [HT.out, seenD_snoc]
                    exact hown3
                  · refine HB2.out.grown hgrow3 HB2.out.size (fun j hj => ?_)
                    cases hj
                    exact Nat.le_refl _
                case measure => simp [intOf]; omega
              · rw [hin] at HAT
                have E2 : Hid (6 = S) := by show _ = _; rw [← HK2]; simp [hnv, hin]
                clear hnv HK2 hin
                go_wp2_with fail
                refine (C2.out _).mono ?_
                rintro e w2 ⟨rfl, K2⟩
                have HO2 := Lib.hid (map_below HO.out K2 (Nat.le_refl _))
                have HB2 : Hid (Below w1.heap.size w1 w2) := HB.out.trans (K2.mono hsz)
                clear K2
                obtain ⟨c, hrun, hat⟩ := look_bool HO2.out hkey
                obtain rfl : c = true := by
                  rw [HAT.out] at hat
                  simpa using hat.symm
                clear hat
                go_wp2
                go_ret
                exact ⟨ret_i E2.out, B1.out.trans (HB2.out.mono hgm.out)⟩
          · have E2 : Hid (0 = S) := by
              show _ = _
              rw [← HK.out, List.drop_of_length_le (by omega)]
              rfl
            go_wp2
            go_ret
            exact ⟨ret_i E2.out, HBw.out⟩
end Go.Proofs.YthpbgdeeajhbjaaDoor
