/- Finite, Text and one element, by the program. -/
import Derived.Test.YtengldflpkkkoaaDoorWN
namespace Go.Proofs.YtengldflpkkkoaaDoor
open Go.RowKit

set_option maxHeartbeats 4000000 in
set_option maxRecDepth 100000 in
theorem fin_law (A : Option Addr) (a : List Int) (ca : Nat) (w : World) (ra : ReadsV w A a) (hl : a.length * 8 ≤ 140737488351232) :
    Calls Tryd.prog 11 #[.slice A a.length ca] w (IsPost w.heap.size w (finL a a.length)) := by
  obtain ⟨i0, hi, hz0, hz1, hz2⟩ := info_parts infoI
  have HI := Lib.hid hi
  have HZ0 := Lib.hid hz0
  have HZ1 := Lib.hid hz1
  have HZ2 := Lib.hid hz2
  clear hi hz0 hz1 hz2
  have RA := Lib.hid ra
  clear ra
  generalize hg : w.heap.size = g at *
  have HG := Lib.hid hg
  clear hg
  generalize hn : a.length = n at *
  have HN := Lib.hid hn
  clear hn
  go_enter Tryd.func11, Tryd.ntmps11
  go_wp2_with fail
  go_loopw [3, 4, 5, 8] (fun v xi xx q wr => ∃ k : Nat, k ≤ n ∧ q = .int .i64 k ∧ Hid (wr.ownsRow g 3 1 v (finL a k).length ((finL a k).map (Value.int .i64))) ∧ Hid (Below g w wr)) (fun _ _ _ q _ => n - (intOf q).toNat)
  case atStart => exact ⟨0, by omega, rfl, World.ownsRow_nil _ _ _ _, Below.refl _ _⟩
  case round =>
    obtain ⟨k, hk, rfl, O, B1⟩ := hrel
    by_cases hlt : k < n
    · have hs := B1.out.size
      rw [HG.out] at hs
      obtain ⟨ba, oa, e1, hx⟩ := at_of_reads (RA.out.below B1.out (by rw [HG.out]; exact Nat.le_refl _)) k (by rw [HN.out]; exact hlt)
      subst e1
      have HX : Hid (at0 a k = -1 → finL a (k + 1) = finL a k) := fun h => finL_no h
      have HY : Hid (at0 a k ≠ -1 → finL a (k + 1) = finL a k ++ [(k : Int)]) := fun h => finL_yes h
      have hq := finL_len a k
      generalize at0 a k = x at *
      by_cases h0 : x = -1
      · subst h0
        have E := Lib.hid (HX.out rfl)
        go_wp2
        go_roundw
        case rel => exact ⟨k + 1, by omega, by go_num, by show World.ownsRow _ _ _ _ _ _ _; rw [E.out]; exact O.out, B1⟩
        case measure => simp [intOf]; omega
      · have E := Lib.hid (HY.out h0)
        have z1 : (x != -1) = true := by simpa using h0
        generalize hs2 : finL a k = L at *
        have HS2 := Lib.hid hs2
        clear hs2 h0
        generalize hll : L.length = l at *
        have HLL := Lib.hid hll
        clear hll
        have b1 : l + 1 ≤ maxLen := by unfold maxLen; omega
        have b2 : (l + 1) * 8 ≤ 140737488355328 := by omega
        have b3 : g ≤ (wr.alloc (.cells #[.int .i64 k] 3)).heap.size := by rw [World.size_alloc]; omega
        have b4 : Hid (∀ q, u3.ownBlock = some q → g ≤ q) := fun q e => (O.out.lt q e).1
        have BA : Hid (Below g w (wr.alloc (.cells #[.int .i64 k] 3))) := B1.out.alloc hs _
        go_wp2_with (at_builtin; (refine wpList_append_own _ rfl (.tmp 15) (.tmp 17) 22 rfl g 3 i0 (.int .i64 0) 1 8 Tryd.underlying22 HI.out HZ0.out HZ1.out HZ2.out rfl (by decide) u3 l _ rfl (O.out.alloc _) ⟨wr.heap.size, 0, none⟩ 1 1 [.int .i64 k] rfl rfl (cell_one_new _ _ _) (one_cells k) b1 b2 b3 ?_); intro v' w5 hown' hgrow _)
        have O5 : Hid (w5.ownsRow g 3 1 v' (finL a (k + 1)).length ((finL a (k + 1)).map (Value.int .i64))) := by
          show World.ownsRow _ _ _ _ _ _ _
          rw [E.out, List.map_append, List.length_append, HLL.out]
          exact hown'
        have B5 : Hid (Below g w w5) := BA.out.grown hgrow b3 b4.out
        clear hown' hgrow
        go_wp2
        go_roundw
        case rel => exact ⟨k + 1, by omega, by go_num, O5, B5⟩
        case measure => simp [intOf]; omega
    · obtain rfl : k = n := by omega
      obtain ⟨A2, c2, h1, h2⟩ := ReadsV.own O.out
      subst h1
      generalize finL a k = L at *
      go_wp2
      go_ret
      exact ⟨A2, c2, rfl, h2, B1.out⟩
set_option maxHeartbeats 4000000 in
set_option maxRecDepth 100000 in
theorem text_law2 (A : Option Addr) (a : List Int) (ca : Nat) (w : World) (ra : ReadsV w A a) (hi : In64 a) (hl : a.length ≤ 4000) (hL : TabW w) :
    Calls Tryd.prog 13 #[.slice A a.length ca] w fun e w' => e = .returned (.string ⟨(textL a).toArray⟩) ∧ Below w.heap.size w w' := by
  by_cases h : a = []
  · subst h
    have E : Hid (textL [] = [45]) := rfl
    go_enter Tryd.func13, Tryd.ntmps13
    go_wp2
    go_ret
    exact ⟨rfl, Below.refl _ _⟩
  have hp : 0 < a.length := List.length_pos_iff.2 h
  have E : Hid (textL a = textTo a a.length) := if_neg h
  rw [E.out]
  clear E h
  have T := Lib.hid (fun bs s W h hl hB => text_law w.heap.size w.heap.size bs s W h hl hB)
  have Y := Lib.hid (fun bs s W h hl hB => byte_law w.heap.size w.heap.size bs s W h hl hB)
  have S := Lib.hid (fun l W h hB => Tryd.Builder_String_any w.heap.size w.heap.size l W h hB)
  have F0 := Lib.hid (Lib.fresh_isBuilder 40 5 w)
  have D0 : Hid (Below w.heap.size w (w.alloc (.cells #[.pointer none, .slice none 0 0] 40))) := (Below.refl _ _).alloc (Nat.le_refl _) _
  have LB := Lib.hid (fun W (h : Below w.heap.size w W) => hL.below h (Nat.le_refl _))
  have I := Lib.hid (fun k W (h : TabW W) => itoa_call (at0 a k) (hi.at k) W h)
  have ZL := Lib.hid (textTo_len a hi)
  have IL := Lib.hid (fun k => Lib.itoa_length_le (at0 a k) (hi.at k).1 (hi.at k).2)
  have RA := Lib.hid ra
  clear ra hL
  generalize hn : a.length = n at *
  have HN := Lib.hid hn
  clear hn
  generalize hg : w.heap.size = g at *
  have HG := Lib.hid hg
  clear hg
  have p9 : ((n : Int) == 0) = false := by simp; omega
  go_enter Tryd.func13, Tryd.ntmps13
  go_wp2_with fail
  rw [HG.out]
  go_loopw [4, 5, 11] (fun xi xx q wr => ∃ k : Nat, k ≤ n ∧ q = .int .i64 k ∧ Hid (Lib.IsBuilder 40 5 g g (Lib.byteCells (textTo a k)) wr) ∧ Hid (Below g w wr)) (fun _ _ q _ => n - (intOf q).toNat)
  case atStart => exact ⟨0, by omega, rfl, F0.out, D0.out⟩
  case round =>
    obtain ⟨k, hk, rfl, O, B1⟩ := hrel
    by_cases hlt : k < n
    · obtain ⟨ba, oa, e1, lx, hx⟩ := RA.out k (by rw [HN.out]; exact hlt)
      subst e1
      rw [HG.out] at lx
      have q0 := (B1.out.cell (p := ⟨ba, oa + k, none⟩) lx).trans hx
      clear hx
      have zl := ZL.out k
      have il := IL.out k
      have hbs : (Lib.byteCells (textTo a k)).length = (textTo a k).length := Lib.byteCells_length _
      have hgs := B1.out.size
      rw [HG.out] at hgs
      have I0 := Lib.hid (I.out k)
      by_cases h0 : k = 0
      · subst h0
        simp only [Nat.add_zero] at q0
        have HT : Hid (textTo a 1 = eW (at0 a 0)) := by show _ = _; simp [textTo]
        clear I
        generalize at0 a 0 = x at *
        have p0 : ¬ (0 : Int) < 0 := by omega
        by_cases hw : x = -1
        · subst hw
          rw [eW_om] at HT
          clear I0
          go_wp2_with fail
          refine (T.out _ ⟨#[119]⟩ _ O.out (by rw [hbs]; simp [textTo, ByteArray.size]) hgs).mono ?_
          rintro e w3 ⟨rfl, F3, K3⟩
          have B3 : Hid (Below g w w3) := B1.out.trans K3
          have O3 : Hid (Lib.IsBuilder 40 5 g g (Lib.byteCells (textTo a 1)) w3) := by
            show Lib.IsBuilder _ _ _ _ _ _
            rw [HT.out]
            exact .inr F3
          clear F3 K3
          go_wp2
          go_roundw
          case rel => exact ⟨1, by omega, by go_num, O3, B3⟩
          case measure => simp [intOf]; omega
        · have hw2 : (x == -1) = false := by simpa using hw
          rw [eW_no hw] at HT
          clear hw
          go_wp2_with fail
          refine (I0.out wr (LB.out _ B1.out)).mono ?_
          rintro e w2 ⟨rfl, K2⟩
          have B2 : Hid (Below g w w2) := B1.out.trans (K2.mono hgs)
          have s2 := B2.out.size
          rw [HG.out] at s2
          have O2 : Hid (Lib.IsBuilder 40 5 g g [] w2) := builder_below O.out K2
          clear K2
          go_wp2_with fail
          refine (T.out _ _ _ O2.out (by rw [bytes_size]; simp; omega) s2).mono ?_
          rintro e w3 ⟨rfl, F3, K3⟩
          have B3 : Hid (Below g w w3) := B2.out.trans K3
          have O3 : Hid (Lib.IsBuilder 40 5 g g (Lib.byteCells (textTo a 1)) w3) := by
            show Lib.IsBuilder _ _ _ _ _ _
            rw [HT.out]
            exact .inr F3
          clear F3 K3
          go_wp2
          go_roundw
          case rel => exact ⟨1, by omega, by go_num, O3, B3⟩
          case measure => simp [intOf]; omega
      · have HT : Hid (Lib.byteCells (textTo a (k + 1)) = Lib.byteCells (textTo a k) ++ [.int .u8 44] ++ Lib.strCells ⟨(eW (at0 a k)).toArray⟩) := by
          show _ = _
          rw [Lib.strCells_toArray]
          simp only [textTo, h0, if_false, Lib.byteCells_append]
          rfl
        clear I
        generalize at0 a k = x at *
        have p0 : (0 : Int) < k := by omega
        go_wp2_with fail
        refine (Y.out _ 44 _ O.out (by rw [hbs]; omega) hgs).mono ?_
        rintro e w1 ⟨rfl, F1, K1⟩
        have B2 : Hid (Below g w w1) := B1.out.trans K1
        have s2 := B2.out.size
        rw [HG.out] at s2
        have F1 := Lib.hid F1
        clear K1 q0
        by_cases hw : x = -1
        · subst hw
          rw [eW_om] at HT
          clear I0
          go_wp2_with fail
          refine (T.out _ ⟨#[119]⟩ _ (.inr F1.out) (by rw [List.length_append, hbs]; simp [ByteArray.size]; omega) s2).mono ?_
          rintro e w3 ⟨rfl, F3, K3⟩
          have B4 : Hid (Below g w w3) := B2.out.trans K3
          have O3 : Hid (Lib.IsBuilder 40 5 g g (Lib.byteCells (textTo a (k + 1))) w3) := by
            show Lib.IsBuilder _ _ _ _ _ _
            rw [HT.out]
            exact .inr F3
          clear F3 K3
          go_wp2
          go_roundw
          case rel => exact ⟨k + 1, by omega, by go_num, O3, B4⟩
          case measure => simp [intOf]; omega
        · have hw2 : (x == -1) = false := by simpa using hw
          rw [eW_no hw] at HT
          clear hw
          go_wp2_with fail
          refine (I0.out w1 (LB.out _ B2.out)).mono ?_
          rintro e w2 ⟨rfl, K2⟩
          have B3 : Hid (Below g w w2) := B2.out.trans (K2.mono s2)
          have s3 := B3.out.size
          rw [HG.out] at s3
          have O2 : Hid (Lib.IsBuilder 40 5 g g (Lib.byteCells (textTo a k) ++ [.int .u8 44]) w2) := builder_below (.inr F1.out) K2
          clear F1 K2
          go_wp2_with fail
          refine (T.out _ _ _ O2.out (by rw [bytes_size, List.length_append, hbs]; simp; omega) s3).mono ?_
          rintro e w3 ⟨rfl, F3, K3⟩
          have B4 : Hid (Below g w w3) := B3.out.trans K3
          have O3 : Hid (Lib.IsBuilder 40 5 g g (Lib.byteCells (textTo a (k + 1))) w3) := by
            show Lib.IsBuilder _ _ _ _ _ _
            rw [HT.out]
            exact .inr F3
          clear F3 K3
          go_wp2
          go_roundw
          case rel => exact ⟨k + 1, by omega, by go_num, O3, B4⟩
          case measure => simp [intOf]; omega
    · obtain rfl : k = n := by omega
      have s1 := B1.out.size
      rw [HG.out] at s1
      go_wp2_with fail
      refine (S.out _ _ O.out s1).mono ?_
      rintro e w2 ⟨rfl, K2⟩
      go_wp2
      go_ret
      exact ⟨rfl, B1.out.trans K2⟩
set_option maxHeartbeats 4000000 in
set_option maxRecDepth 100000 in
theorem element_ok (x : List UInt8) (v : Int) (h : elemO x = some v) (hx : x.length ≤ 100000) (w : World) :
    Calls Tryd.prog 41 #[.string ⟨x.toArray⟩] w fun e w' => e = .returned (.tuple #[.int .i64 v, .bool true]) ∧ Below w.heap.size w w' := by
  by_cases hw : x = [119]
  · subst hw
    have hv : elemO [119] = some (-1) := rfl
    rw [hv] at h
    cases h
    go_enter Tryd.func41, Tryd.ntmps41
    go_wp2
    go_ret2
    exact ⟨rfl, Below.refl _ _⟩
  · have hw2 : (x == [119]) = false := by simpa using hw
    unfold elemO at h
    rw [if_neg hw] at h
    have C := Lib.hid (atoi_ok x v h hx w)
    clear hw h
    go_enter Tryd.func41, Tryd.ntmps41
    go_wp2_with fail
    refine C.out.mono ?_
    rintro e w' ⟨rfl, K⟩
    go_wp2_with fail
    go_quiet (fail)
    go_wp2
    go_ret2
    exact ⟨rfl, below_drewN K _⟩
set_option maxHeartbeats 4000000 in
set_option maxRecDepth 100000 in
theorem element_bad (x : List UInt8) (h : elemO x = none) (hx : x.length ≤ 100000) (w : World) (hL : LaidW w) :
    Calls Tryd.prog 41 #[.string ⟨x.toArray⟩] w fun e w' => (∃ z, e = .returned (.tuple #[.int .i64 z, .bool false])) ∧ Below w.heap.size w w' := by
  by_cases hw : x = [119]
  · subst hw
    have hv : elemO [119] = some (-1) := rfl
    rw [hv] at h
    cases h
  · have hw2 : (x == [119]) = false := by simpa using hw
    unfold elemO at h
    rw [if_neg hw] at h
    have C := Lib.hid (atoi_bad x h hx w hL)
    clear hw h hL
    go_enter Tryd.func41, Tryd.ntmps41
    go_wp2_with fail
    refine C.out.mono ?_
    rintro e w' ⟨⟨z, t, p, rfl⟩, K⟩
    go_wp2_with fail
    go_quiet (fail)
    go_wp2
    go_ret2
    exact ⟨⟨z, rfl⟩, below_drewN K _⟩
end Go.Proofs.YtengldflpkkkoaaDoor
