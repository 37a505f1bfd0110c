/- Orders of vectors, and the indices of their elements that are not 0. -/
import Derived.Test.YtcihdecfganohaaV5
namespace Go.Proofs.Ytcihdecfganohaa
open Go.RowKit

theorem infoI : (Try.prog.info? 3).map (fun i => (i.zero, i.size, i.bytes)) = some (some (.int .i64 0), 1, 8) := by kernel_rfl
theorem crossV_lt {x y : Int} (h : x < y) : crossV x y = -1 := by unfold crossV; rw [if_pos h]
theorem crossV_gt {x y : Int} (h : y < x) : crossV x y = 1 := by unfold crossV; rw [if_neg (by omega), if_neg (by omega)]
theorem crossV_eq (x : Int) : crossV x x = 0 := by unfold crossV; rw [if_neg (by omega), if_pos rfl]
def IsPost (g : Nat) (w : World) (L : List Int) (e : Ending) (w' : World) : Prop := ∃ A c, e = .returned (.slice A L.length c) ∧ ReadsV w' A L ∧ Below g w w'

set_option maxHeartbeats 2000000 in
theorem scmp_law (A B : Option Addr) (a b : List Int) (ca cb : Nat) (w : World) (ra : ReadsV w A a) (rb : ReadsV w B b) (hl : a.length ≤ 100) (hm : b.length ≤ 100) :
    Calls Try.prog 44 #[.slice A a.length ca, .slice B b.length cb] w (IPost w.heap.size w (cmpL a b)) := by
  generalize hP : cmpL a b = P
  have HP := Lib.hid hP
  clear hP
  have RA := Lib.hid ra
  have RB := Lib.hid rb
  clear ra rb
  generalize hg : w.heap.size = g at *
  have HG := Lib.hid hg
  clear hg
  generalize hn : a.length = n at *
  have HN := Lib.hid hn
  clear hn
  generalize hm2 : b.length = m at *
  have HM := Lib.hid hm2
  clear hm2
  go_enter Try.func44, Try.ntmps44
  go_wp2_with fail
  go_loopw [11] (fun q wr => ∃ k : Nat, k ≤ n ∧ k ≤ m ∧ q = .int .i64 k ∧ Hid (Below g w wr) ∧ Hid (cmpL (a.drop k) (b.drop k) = P)) (fun q _ => n - (intOf q).toNat)
  case atStart => exact ⟨0, by omega, by omega, rfl, Below.refl _ _, HP⟩
  case round =>
    obtain ⟨k, hk, hk2, rfl, B1, HT⟩ := hrel
    by_cases hlt : k < n
    · obtain ⟨ba, oa, e1, hx⟩ := at_of_reads (RA.out.below B1.out (by rw [HG.out]; exact Nat.le_refl _)) k (by rw [HN.out]; exact hlt)
      subst e1
      by_cases hlm : k < m
      · obtain ⟨bb, ob, e2, hy⟩ := at_of_reads (RB.out.below B1.out (by rw [HG.out]; exact Nat.le_refl _)) k (by rw [HM.out]; exact hlm)
        subst e2
        have h := HT.out
        rw [cmpL_at k (by rw [HN.out]; exact hlt) (by rw [HM.out]; exact hlm)] at h
        have HD := Lib.hid h
        clear h
        generalize at0 a k = x at *
        generalize at0 b k = y at *
        by_cases h1 : x < y
        · have E : Hid (P = -1) := by have h := HD.out; rw [if_pos h1] at h; exact h.symm
          have C := Lib.hid (cmpi_any x y)
          rw [crossV_lt h1] at C
          go_wp2_with fail
          refine (C.out _).mono ?_
          rintro e w1 ⟨rfl, rfl⟩
          go_wp2
          go_ret
          exact ⟨by rw [E.out]; rfl, B1.out⟩
        by_cases h2 : y < x
        · have E : Hid (P = 1) := by have h := HD.out; rw [if_neg h1, if_pos h2] at h; exact h.symm
          have C := Lib.hid (cmpi_any x y)
          rw [crossV_gt h2] at C
          go_wp2_with fail
          refine (C.out _).mono ?_
          rintro e w1 ⟨rfl, rfl⟩
          go_wp2
          go_ret
          exact ⟨by rw [E.out]; rfl, B1.out⟩
        · have E : Hid (cmpL (a.drop (k + 1)) (b.drop (k + 1)) = P) := by have h := HD.out; rw [if_neg h1, if_neg h2] at h; exact h
          obtain rfl : x = y := by omega
          have C := Lib.hid (cmpi_any x x)
          rw [crossV_eq] at C
          go_wp2_with fail
          refine (C.out _).mono ?_
          rintro e w1 ⟨rfl, rfl⟩
          go_wp2
          go_roundw
          case rel => exact ⟨k + 1, by omega, by omega, by go_num, B1, E⟩
          case measure => simp [intOf]; omega
      · have E : Hid (P = 1) := by
          refine HT.out.symm.trans (cmpL_second k (by rw [HN.out]; exact hlt) ?_)
          rw [HM.out]; omega
        go_wp2
        go_ret
        exact ⟨by rw [E.out]; rfl, B1.out⟩
    · obtain rfl : k = n := by omega
      by_cases hlm : k < m
      · have E : Hid (P = -1) := by
          refine HT.out.symm.trans (cmpL_first k ?_ (by rw [HM.out]; exact hlm))
          rw [HN.out]; exact Nat.le_refl _
        go_wp2
        go_ret
        exact ⟨by rw [E.out]; rfl, B1.out⟩
      · have E : Hid (P = 0) := by
          refine HT.out.symm.trans (cmpL_both k ?_ ?_)
          · rw [HN.out]; exact Nat.le_refl _
          · rw [HM.out]; omega
        go_wp2
        go_ret
        exact ⟨by rw [E.out]; rfl, B1.out⟩

theorem cmp_law (A B : Option Addr) (a b : List Int) (ca cb : Nat) (w : World) (ra : ReadsV w A a) (rb : ReadsV w B b) (hl : a.length ≤ 100) (hm : b.length ≤ 100) :
    Calls Try.prog 25 #[.slice A a.length ca, .slice B b.length cb] w (IPost w.heap.size w (cmpL a b)) := by
  have C := Lib.hid (scmp_law A B a b ca cb w ra rb hl hm)
  clear ra rb
  generalize cmpL a b = P at *
  generalize a.length = n at *
  generalize b.length = m at *
  go_enter Try.func25, Try.ntmps25
  go_wp2_with fail
  refine C.out.mono ?_
  rintro e w1 ⟨rfl, hb⟩
  have hb := Lib.hid hb
  go_wp2
  go_ret
  exact ⟨rfl, hb.out⟩

set_option maxHeartbeats 2000000 in
theorem rcmp_law (A B : Option Addr) (a b : List Int) (ca cb : Nat) (w : World) (ra : ReadsV w A a) (rb : ReadsV w B b) (hl : a.length ≤ 100) (hm : b.length ≤ 100) :
    Calls Try.prog 26 #[.slice A a.length ca, .slice B b.length cb] w (IPost w.heap.size w (cmpL a b)) := by
  generalize hP : cmpL a b = P
  have HP := Lib.hid hP
  clear hP
  have RA := Lib.hid ra
  have RB := Lib.hid rb
  clear ra rb
  generalize hg : w.heap.size = g at *
  have HG := Lib.hid hg
  clear hg
  generalize hn : a.length = n at *
  have HN := Lib.hid hn
  clear hn
  generalize hm2 : b.length = m at *
  have HM := Lib.hid hm2
  clear hm2
  go_enter Try.func26, Try.ntmps26
  go_wp2_with fail
  go_loopw [5] (fun q wr => ∃ k : Nat, k ≤ n ∧ k ≤ m ∧ q = .int .i64 k ∧ Hid (Below g w wr) ∧ Hid (cmpL (a.drop k) (b.drop k) = P)) (fun q _ => n - (intOf q).toNat)
  case atStart => exact ⟨0, by omega, by omega, rfl, Below.refl _ _, HP⟩
  case round =>
    obtain ⟨k, hk, hk2, rfl, B1, HT⟩ := hrel
    by_cases hlt : k < n
    · obtain ⟨ba, oa, e1, hx⟩ := at_of_reads (RA.out.below B1.out (by rw [HG.out]; exact Nat.le_refl _)) k (by rw [HN.out]; exact hlt)
      subst e1
      by_cases hlm : k < m
      · obtain ⟨bb, ob, e2, hy⟩ := at_of_reads (RB.out.below B1.out (by rw [HG.out]; exact Nat.le_refl _)) k (by rw [HM.out]; exact hlm)
        subst e2
        have h := HT.out
        rw [cmpL_at k (by rw [HN.out]; exact hlt) (by rw [HM.out]; exact hlm)] at h
        have HD := Lib.hid h
        clear h
        generalize at0 a k = x at *
        generalize at0 b k = y at *
        by_cases h1 : x < y
        · have E : Hid (P = -1) := by have h := HD.out; rw [if_pos h1] at h; exact h.symm
          go_wp2_with fail
          go_quiet (fail)
          go_wp2
          go_ret
          exact ⟨by rw [E.out]; rfl, below_drewN B1.out _⟩
        have h1' : y ≤ x := by omega
        by_cases h2 : y < x
        · have E : Hid (P = 1) := by have h := HD.out; rw [if_neg h1, if_pos h2] at h; exact h.symm
          clear h1
          go_wp2_with fail
          go_quiet (fail)
          go_wp2_with fail
          go_quiet (fail)
          go_wp2
          go_ret
          exact ⟨by rw [E.out]; rfl, below_drewN (below_drewN B1.out _) _⟩
        · have E : Hid (cmpL (a.drop (k + 1)) (b.drop (k + 1)) = P) := by have h := HD.out; rw [if_neg h1, if_neg h2] at h; exact h
          have h2' : x ≤ y := by omega
          clear h1 h2
          go_wp2_with fail
          go_quiet (fail)
          go_wp2_with fail
          go_quiet (fail)
          go_wp2
          go_roundw
          case rel => exact ⟨k + 1, by omega, by omega, by go_num, below_drewN B1.out _, E⟩
          case measure => simp [intOf]; omega
      · have E : Hid (P = 1) := by
          refine HT.out.symm.trans (cmpL_second k (by rw [HN.out]; exact hlt) ?_)
          rw [HM.out]; omega
        obtain rfl : k = m := by omega
        go_wp2
        go_ret
        exact ⟨by rw [E.out]; rfl, B1.out⟩
    · obtain rfl : k = n := by omega
      by_cases hlm : k < m
      · have E : Hid (P = -1) := by
          refine HT.out.symm.trans (cmpL_first k ?_ (by rw [HM.out]; exact hlm))
          rw [HN.out]; exact Nat.le_refl _
        go_wp2
        go_ret
        exact ⟨by rw [E.out]; rfl, B1.out⟩
      · have E : Hid (P = 0) := by
          refine HT.out.symm.trans (cmpL_both k ?_ ?_)
          · rw [HN.out]; exact Nat.le_refl _
          · rw [HM.out]; omega
        obtain rfl : k = m := by omega
        go_wp2
        go_ret
        exact ⟨by rw [E.out]; rfl, B1.out⟩

theorem same_law (A B : Option Addr) (a : List Int) (ca cb : Nat) (w : World) (ra : ReadsV w A a) (rb : ReadsV w B a) (hl : a.length ≤ 100) :
    Calls Try.prog 18 #[.slice A a.length ca, .slice B a.length cb] w (BPost w.heap.size w true) := by
  have C := Lib.hid (rcmp_law A B a a ca cb w ra rb hl hl)
  rw [cmpL_self] at C
  clear ra rb
  generalize a.length = n at *
  go_enter Try.func18, Try.ntmps18
  go_wp2_with fail
  refine C.out.mono ?_
  rintro e w1 ⟨rfl, hb⟩
  have hb := Lib.hid hb
  go_wp2
  go_ret
  exact ⟨rfl, hb.out⟩

set_option maxHeartbeats 2000000 in
theorem sup_law (A : Option Addr) (a : List Int) (ca : Nat) (w : World) (ra : ReadsV w A a) (hl : a.length ≤ 100) :
    Calls Try.prog 30 #[.slice A a.length ca] w (IsPost w.heap.size w (sup a a.length)) := by
  obtain ⟨i0, hi, hz0, hz1, hz2⟩ := info_parts infoI
  have HI := Lib.hid hi
  have HZ0 := Lib.hid hz0
  have HZ1 := Lib.hid hz1
  have HZ2 := Lib.hid hz2
  clear hi hz0 hz1 hz2
  have RA := Lib.hid ra
  clear ra
  generalize hg : w.heap.size = g at *
  have HG := Lib.hid hg
  clear hg
  generalize hn : a.length = n at *
  have HN := Lib.hid hn
  clear hn
  go_enter Try.func30, Try.ntmps30
  go_wp2_with fail
  go_loopw [3, 8] (fun v q wr => ∃ k : Nat, k ≤ n ∧ q = .int .i64 k ∧ Hid (wr.ownsRow g 3 1 v (sup a k).length ((sup a k).map (Value.int .i64))) ∧ Hid (Below g w wr)) (fun _ q _ => n - (intOf q).toNat)
  case atStart => exact ⟨0, by omega, rfl, World.ownsRow_nil _ _ _ _, Below.refl _ _⟩
  case round =>
    obtain ⟨k, hk, rfl, O, B1⟩ := hrel
    by_cases hlt : k < n
    · have hs := B1.out.size
      rw [HG.out] at hs
      obtain ⟨ba, oa, e1, hx⟩ := at_of_reads (RA.out.below B1.out (by rw [HG.out]; exact Nat.le_refl _)) k (by rw [HN.out]; exact hlt)
      subst e1
      have HX : Hid (at0 a k = 0 → sup a (k + 1) = sup a k) := fun h => sup_no h
      have HY : Hid (at0 a k ≠ 0 → sup a (k + 1) = sup a k ++ [(k : Int)]) := fun h => sup_yes h
      have hq := sup_len a k
      generalize at0 a k = x at *
      by_cases h0 : x = 0
      · subst h0
        have E := Lib.hid (HX.out rfl)
        go_wp2
        go_roundw
        case rel => exact ⟨k + 1, by omega, by go_num, by show World.ownsRow _ _ _ _ _ _ _; rw [E.out]; exact O.out, B1⟩
        case measure => simp [intOf]; omega
      · have E := Lib.hid (HY.out h0)
        have z1 : (x != 0) = true := by simpa using h0
        have z2 : (x == 0) = false := by simpa using h0
        generalize hs2 : sup a k = L at *
        have HS2 := Lib.hid hs2
        clear hs2 h0
        generalize hll : L.length = l at *
        have HLL := Lib.hid hll
        clear hll
        have b1 : l + 1 ≤ maxLen := by unfold maxLen; omega
        have b2 : (l + 1) * 8 ≤ 140737488355328 := by omega
        have b3 : g ≤ (wr.alloc (.cells #[.int .i64 k] 3)).heap.size := by rw [World.size_alloc]; omega
        have b4 : Hid (∀ q, u3.ownBlock = some q → g ≤ q) := fun q e => (O.out.lt q e).1
        have BA : Hid (Below g w (wr.alloc (.cells #[.int .i64 k] 3))) := B1.out.alloc hs _
        go_wp2_with (at_builtin; (refine wpList_append_own _ rfl (.tmp 15) (.tmp 17) 37 rfl g 3 i0 (.int .i64 0) 1 8 Try.underlying37 HI.out HZ0.out HZ1.out HZ2.out rfl (by decide) u3 l _ rfl (O.out.alloc _) ⟨wr.heap.size, 0, none⟩ 1 1 [.int .i64 k] rfl rfl (cell_one_new _ _ _) (one_cells k) b1 b2 b3 ?_); intro v' w5 hown' hgrow _)
        have O5 : Hid (w5.ownsRow g 3 1 v' (sup a (k + 1)).length ((sup a (k + 1)).map (Value.int .i64))) := by
          show World.ownsRow _ _ _ _ _ _ _
          rw [E.out, List.map_append, List.length_append, HLL.out]
          exact hown'
        have B5 : Hid (Below g w w5) := BA.out.grown hgrow b3 b4.out
        clear hown' hgrow
        go_wp2
        go_roundw
        case rel => exact ⟨k + 1, by omega, by go_num, O5, B5⟩
        case measure => simp [intOf]; omega
    · obtain rfl : k = n := by omega
      obtain ⟨A2, c2, h1, h2⟩ := ReadsV.own O.out
      subst h1
      generalize sup a k = L at *
      go_wp2
      go_ret
      exact ⟨A2, c2, rfl, h2, B1.out⟩

set_option maxHeartbeats 2000000 in
theorem rsup_law (A : Option Addr) (a : List Int) (ca : Nat) (w : World) (ra : ReadsV w A a) (hl : a.length ≤ 100) :
    Calls Try.prog 31 #[.slice A a.length ca] w (IsPost w.heap.size w (sup a a.length)) := by
  obtain ⟨i0, hi, hz0, hz1, hz2⟩ := info_parts infoI
  have HI := Lib.hid hi
  have HZ0 := Lib.hid hz0
  have HZ1 := Lib.hid hz1
  have HZ2 := Lib.hid hz2
  clear hi hz0 hz1 hz2
  have RA := Lib.hid ra
  clear ra
  generalize hg : w.heap.size = g at *
  have HG := Lib.hid hg
  clear hg
  generalize hn : a.length = n at *
  have HN := Lib.hid hn
  clear hn
  go_enter Try.func31, Try.ntmps31
  go_wp2_with fail
  go_loopw [3, 4] (fun v q wr => ∃ k : Nat, k ≤ n ∧ q = .int .i64 k ∧ Hid (wr.ownsRow g 3 1 v (sup a k).length ((sup a k).map (Value.int .i64))) ∧ Hid (Below g w wr)) (fun _ q _ => n - (intOf q).toNat)
  case atStart => exact ⟨0, by omega, rfl, World.ownsRow_nil _ _ _ _, Below.refl _ _⟩
  case round =>
    obtain ⟨k, hk, rfl, O, B1⟩ := hrel
    by_cases hlt : k < n
    · have hs := B1.out.size
      rw [HG.out] at hs
      obtain ⟨ba, oa, e1, hx⟩ := at_of_reads (RA.out.below B1.out (by rw [HG.out]; exact Nat.le_refl _)) k (by rw [HN.out]; exact hlt)
      subst e1
      have HX : Hid (at0 a k = 0 → sup a (k + 1) = sup a k) := fun h => sup_no h
      have HY : Hid (at0 a k ≠ 0 → sup a (k + 1) = sup a k ++ [(k : Int)]) := fun h => sup_yes h
      have hq := sup_len a k
      generalize at0 a k = x at *
      by_cases h0 : x = 0
      · subst h0
        have E := Lib.hid (HX.out rfl)
        go_wp2
        go_roundw
        case rel => exact ⟨k + 1, by omega, by go_num, by show World.ownsRow _ _ _ _ _ _ _; rw [E.out]; exact O.out, B1⟩
        case measure => simp [intOf]; omega
      · have E := Lib.hid (HY.out h0)
        have z1 : (x != 0) = true := by simpa using h0
        have z2 : (x == 0) = false := by simpa using h0
        generalize hs2 : sup a k = L at *
        have HS2 := Lib.hid hs2
        clear hs2 h0
        generalize hll : L.length = l at *
        have HLL := Lib.hid hll
        clear hll
        have b1 : l + 1 ≤ maxLen := by unfold maxLen; omega
        have b2 : (l + 1) * 8 ≤ 140737488355328 := by omega
        have b3 : g ≤ (wr.alloc (.cells #[.int .i64 k] 3)).heap.size := by rw [World.size_alloc]; omega
        have b4 : Hid (∀ q, u3.ownBlock = some q → g ≤ q) := fun q e => (O.out.lt q e).1
        have BA : Hid (Below g w (wr.alloc (.cells #[.int .i64 k] 3))) := B1.out.alloc hs _
        go_wp2_with (at_builtin; (refine wpList_append_own _ rfl (.tmp 16) (.tmp 18) 37 rfl g 3 i0 (.int .i64 0) 1 8 Try.underlying37 HI.out HZ0.out HZ1.out HZ2.out rfl (by decide) u3 l _ rfl (O.out.alloc _) ⟨wr.heap.size, 0, none⟩ 1 1 [.int .i64 k] rfl rfl (cell_one_new _ _ _) (one_cells k) b1 b2 b3 ?_); intro v' w5 hown' hgrow _)
        have O5 : Hid (w5.ownsRow g 3 1 v' (sup a (k + 1)).length ((sup a (k + 1)).map (Value.int .i64))) := by
          show World.ownsRow _ _ _ _ _ _ _
          rw [E.out, List.map_append, List.length_append, HLL.out]
          exact hown'
        have B5 : Hid (Below g w w5) := BA.out.grown hgrow b3 b4.out
        clear hown' hgrow
        go_wp2
        go_roundw
        case rel => exact ⟨k + 1, by omega, by go_num, O5, B5⟩
        case measure => simp [intOf]; omega
    · obtain rfl : k = n := by omega
      obtain ⟨A2, c2, h1, h2⟩ := ReadsV.own O.out
      subst h1
      generalize sup a k = L at *
      go_wp2
      go_ret
      exact ⟨A2, c2, rfl, h2, B1.out⟩

set_option maxHeartbeats 1000000 in
theorem ints_law (A B : Option Addr) (a : List Int) (ca cb : Nat) (w : World) (ra : ReadsV w A a) (rb : ReadsV w B a) (hl : a.length ≤ 100) :
    Calls Try.prog 29 #[.slice A a.length ca, .slice B a.length cb] w (BPost w.heap.size w true) := by
  have RA := Lib.hid ra
  have RB := Lib.hid rb
  clear ra rb
  generalize hg : w.heap.size = g at *
  have HG := Lib.hid hg
  clear hg
  generalize hn : a.length = n at *
  have HN := Lib.hid hn
  clear hn
  go_enter Try.func29, Try.ntmps29
  go_wp2_with fail
  go_loopw [5] (fun q wr => ∃ k : Nat, k ≤ n ∧ q = .int .i64 k ∧ Hid (Below g w wr)) (fun q _ => n - (intOf q).toNat)
  case atStart => exact ⟨0, by omega, rfl, Below.refl _ _⟩
  case round =>
    obtain ⟨k, hk, rfl, B1⟩ := hrel
    by_cases hlt : k < n
    · obtain ⟨ba, oa, e1, hx⟩ := at_of_reads (RA.out.below B1.out (by rw [HG.out]; exact Nat.le_refl _)) k (by rw [HN.out]; exact hlt)
      subst e1
      obtain ⟨bb, ob, e2, hy⟩ := at_of_reads (RB.out.below B1.out (by rw [HG.out]; exact Nat.le_refl _)) k (by rw [HN.out]; exact hlt)
      subst e2
      generalize at0 a k = x at *
      go_wp2_with fail
      go_quiet (fail)
      go_wp2
      go_roundw
      case rel => exact ⟨k + 1, by omega, by go_num, below_drewN B1.out _⟩
      case measure => simp [intOf]; omega
    · go_wp2
      go_ret
      exact ⟨rfl, B1.out⟩
end Go.Proofs.Ytcihdecfganohaa
