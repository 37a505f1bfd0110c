/- Event logs: the program's distinct, as Last calls it. -/
import Derived.Test.YtgjgohnomophnaaDoorDI
namespace Go.Proofs.YtgjgohnomophnaaDoor
open Go.RowKit Go.Maps Go.WideMaps

set_option maxHeartbeats 4000000 in
set_option maxRecDepth 100000 in
theorem distinct_lst (part : List Txt → List Txt) (hpl : ∀ x, (part x).length ≤ x.length) (hps : ∀ x i, ∃ j, atS (part x) i = atS x j) (HP : PartP 52 part) (A : Option Addr) (L : List Row) (c : Nat) (w : World) (hr : LogR w A L) :
    Calls Tryd.prog 48 #[.slice A L.length c, .func (.func 52) #[] #[]] w (InsPost w.heap.size w (insAll (accK part (rowsL L) L.length))) := by
  have RA := Lib.hid hr
  have hl := hr.len
  have HPP := Lib.hid HP
  have HPS := Lib.hid hps
  have HPL := Lib.hid hpl
  have HR : Hid (∀ j, (rowsL L)[j]?.getD [] = (rA L j).zs) := fun j => rows_at L j
  have HAL : Hid (∀ j, j ≤ L.length → (accK part (rowsL L) j).length ≤ 8000000000000) := fun j hj => Nat.le_trans (accK_len hpl _ j) (Nat.le_trans (totL_mono _ hj) hr.tot)
  have HTT : Hid (∀ j, j < L.length → (accK part (rowsL L) j).length + (part (rA L j).zs).length ≤ 8000000000000) := fun j hj => by
    have h1 := accK_len hpl (rowsL L) j
    have h2 := totL_mono (rowsL L) (j := j + 1) (k := L.length) hj
    have h3 := hr.tot
    have h4 := hpl (rA L j).zs
    rw [totL, rows_at] at h2
    omega
  have HA0 : Hid (accK part (rowsL L) 0 = []) := rfl
  have HAE : Hid (∀ j, (rA L j).zs = [] → accK part (rowsL L) (j + 1) = accK part (rowsL L) j) := fun j h => by show _ = _; rw [accK, rows_at, if_pos h]
  have HAN : Hid (∀ j, (rA L j).zs ≠ [] → accK part (rowsL L) (j + 1) = accK part (rowsL L) j ++ part (rA L j).zs) := fun j h => by show _ = _; rw [accK, rows_at, if_neg h]
  obtain ⟨g, hg⟩ : ∃ g, g = w.heap.size := ⟨_, rfl⟩
  have HG := Lib.hid hg
  have B0 : Hid (Below g w (w.alloc (.map #[] 0))) := (Below.refl _ _).alloc (by rw [hg]; exact Nat.le_refl _) _
  have M0 : Hid (OwnSet (w.alloc (.map #[] 0)) w.heap.size []) := World.ownsMap_made (H := Unit) w Tryd.prog 9 (plainElem Tryd.prog 4)
  have hgb : g ≤ w.heap.size := by omega
  rw [← hg]
  have hmm := @run_makeMap Tryd.prog
  generalize accK part (rowsL L) = ac at *
  clear hg hr HP hps hpl
  go_enter Tryd.func48, Tryd.ntmps48
  go_wp2
  go_loopg [13] L.length (fun gg q wr => ∃ j : Nat, gg = L.length - j ∧ j ≤ L.length ∧ q = .int .i64 j ∧ Hid (OwnSet wr w.heap.size (ac j)) ∧ Hid (Below g w wr))
  case atStart => exact ⟨0, rfl, Nat.zero_le _, rfl, by rw [HA0.out]; exact M0.out, B0.out⟩
  case round =>
    obtain ⟨j, hgg, hj, rfl, MS, BW⟩ := hrel
    have gs : g ≤ wr.heap.size := le_of_hid HG BW.out.size
    by_cases hlt : j < L.length
    · obtain ⟨bo, oo, rfl, hx1⟩ := (RA.out.cells.below BW.out (by rw [HG.out]; exact Nat.le_refl _)).at j hlt
      have hRk := HR.out j
      have RX : ∀ W, Below g w W → ReadsS W (rA L j).A (rA L j).zs := fun W hW => (RA.out.rows j hlt).below hW (by rw [HG.out]; exact Nat.le_refl _)
      have hln := RA.out.lens j hlt
      have htx := RA.out.txts j
      have HE := HAE.out j
      have HN := HAN.out j
      have htt := HTT.out j hlt
      generalize rA L j = r at *
      obtain ⟨xA, xs, xc⟩ := r
      dsimp only at *
      by_cases hz : xs = []
      · have he := Lib.hid (HE hz)
        have MS2 : Hid (OwnSet wr w.heap.size (ac (j + 1))) := by
          show OwnSet _ _ _
          rw [he.out]; exact MS.out
        clear htx HE HN htt RX MS hRk he
        subst hz
        go_wp2
        go_roundg (L.length - (j + 1))
        case rel => exact ⟨j + 1, rfl, by omega, by go_num, MS2.out, BW.out⟩
        case measure => omega
      · have hxl : xs.length ≠ 0 := by simpa using hz
        have ez : ((xs.length : Int) == 0) = false := by simpa using hz
        have he := Lib.hid (HN hz)
        have CP := Lib.hid (HPP.out xA xs xc wr hz hln.1 hln.2 (RX wr BW.out))
        have HTX : Hid (∀ i, (atS (part xs) i).length ≤ maxLen) := fun i => by
          obtain ⟨i', e'⟩ := HPS.out xs i
          rw [e']; exact htx i' hlt
        have hp2 := HPL.out xs
        have hpl64 : (part xs).length ≤ 9223372036854775807 := by omega
        have RX := Lib.hid RX
        clear htx HE HN hRk hz hln hp2
        generalize part xs = ps at *
        go_wp2_with fail
        refine CP.out.mono ?_
        rintro e w2 ⟨⟨pA, pc, rfl, RP⟩, rfl⟩
        have RP0 : Hid (∀ W, Below g w W → ReadsS W pA ps) := fun W hW => RP W (RX.out W hW)
        clear RP CP RX
        go_wp2_with fail
        obtain ⟨wo, rfl⟩ : ∃ wo, wo = wr := ⟨_, rfl⟩
        go_loopg [24] ps.length (fun gg q w2 => ∃ k : Nat, gg = ps.length - k ∧ k ≤ ps.length ∧ q = .int .i64 k ∧ Hid (OwnSet w2 w.heap.size (ac j ++ ps.take k)) ∧ Hid (Below w.heap.size wo w2))
        case atStart => exact ⟨0, rfl, Nat.zero_le _, rfl, by rw [List.take_zero, List.append_nil]; exact MS.out, Below.refl _ _⟩
        case round =>
          obtain ⟨k, hgk, hk, rfl, M2, B2⟩ := hrel
          by_cases hkl : k < ps.length
          · have BG : Hid (Below g w wr) := BW.out.trans (B2.out.mono hgb)
            have s2 : w.heap.size ≤ wr.heap.size := by have h1 := B2.out.size; have h2 := HG.out; omega
            obtain ⟨bp, op, rfl, h1⟩ := at_of_reads (RP0.out wr BG.out) k hkl
            have hkey := Lib.hid (txt_lit (HTX.out k))
            have hmx : (ac j ++ ps.take k).length < maxLen := by
              rw [List.length_append, List.length_take]
              unfold maxLen
              omega
            have HT : Hid (ac j ++ ps.take (k + 1) = (ac j ++ ps.take k) ++ [atS ps k]) := by
              show _ = _
              rw [List.take_add_one, List.append_assoc]
              unfold atS
              rw [List.getElem?_eq_getElem hkl]
              rfl
            generalize atS ps k = y at *
            generalize ac j ++ ps.take k = a2 at *
            go_wp2_with (at_mapUpdate; go_loud (refine wpList_mapUpdate_own _ rfl _ _ _ 79 rfl 9 4 law_s Tryd.underlying79 (plainElem (H := Unit) Tryd.prog 4) w.heap.size a2.length _ rfl M2.out hmx _ _ (.string y) rfl rfl hkey.out _ [] (plainElem_bool Tryd.underlying4 true) ?_); intro w3 m3 g3; obtain ⟨x3, y3⟩ := OwnSet.step m3 g3 s2 B2.out; have M3 := Lib.hid x3; have B3 := Lib.hid y3; clear x3 y3 m3 g3)
            go_roundg (ps.length - (k + 1))
            case rel => exact ⟨k + 1, rfl, by omega, by go_num, by rw [HT.out]; exact M3.out, B3.out⟩
            case measure => omega
          · obtain rfl : k = ps.length := by omega
            have M3 : Hid (OwnSet wr w.heap.size (ac (j + 1))) := by
              show OwnSet _ _ _
              have h := M2.out
              rw [List.take_length] at h
              rw [he.out]; exact h
            have B3 : Hid (Below g w wr) := BW.out.trans (B2.out.mono hgb)
            clear M2
            go_wp2
            go_roundg (L.length - (j + 1))
            case rel => exact ⟨j + 1, rfl, by omega, by go_num, M3.out, B3.out⟩
            case measure => omega
    · obtain rfl : j = L.length := by omega
      have CK := Lib.hid (keys_any w.heap.size wr)
      have CS := Lib.hid (sorted_any w.heap.size _ wr MS.out (HAL.out _ (Nat.le_refl _)))
      generalize insAll (ac L.length) = R at *
      clear MS
      go_wp2_with fail
      refine CK.out.mono ?_
      rintro e w2 ⟨rfl, rfl⟩
      go_wp2_with fail
      refine CS.out.mono ?_
      rintro e w3 ⟨rA, rc, rfl, RR, K3⟩
      have B3 : Hid (Below g w w3) := BW.out.trans (K3.mono gs)
      have R3 := Lib.hid RR
      clear RR K3
      go_wp2
      go_ret
      exact ⟨rA, rc, rfl, R3.out, B3.out⟩
end Go.Proofs.YtgjgohnomophnaaDoor
