/- The laws on elements, sizes and next subsets, walked. -/
import Derived.Test.YtmleoiepmmbckaaDoorI
namespace Go.Proofs.YtmleoiepmmbckaaDoor
open Go.RowKit Go.Shelf Go.Sort

theorem vI_lst (s : Nat) : vN (lst s) = vI ((lst s).map fun n : Nat => (n : Int)) := by unfold vN vI; rw [List.map_map]; rfl
set_option maxHeartbeats 4000000 in
set_option maxRecDepth 100000 in
theorem elements_law (s : Nat) (i : Int) (A : Option Addr) (zs : List Int) (c : Nat) (w : World) (hs : s < 18446744073709551616) (hr : Reads w A (vI zs)) (hl : zs.length ≤ 17592186044416) (hT : Tab w) :
    Calls Tryd.prog 3 #[.int .u64 s, .int .i64 i, .slice A zs.length c] w (BoolPost w.heap.size w true) := by
  have hw0 := hT.2
  have L := Lib.hid (fun w hT => lives_any w hT)
  by_cases hbig : 200 < zs.length
  · have hb : (200 : Int) < (zs.length : Int) := by omega
    have LT := Lib.hid (lives_any w hT)
    clear hr hbig
    generalize zs.length = n at *
    go_enter Tryd.func3, Tryd.ntmps3
    go_wp2_with fail
    refine LT.out.mono ?_
    rintro e w1 ⟨rfl, B1⟩
    go_wp2
    go_ret
    exact ⟨rfl, B1⟩
  · have hb : ¬ (200 : Int) < (zs.length : Int) := by omega
    have C1 := Lib.hid (of_any A zs c w hr (by omega))
    have C2 := Lib.hid (rof_any A zs c w hr (by omega))
    have C3 := Lib.hid (list_any s hs w hT)
    have C4 := Lib.hid (fun w => rlist_any s w hs)
    have C5 := Lib.hid (fun w => has_any s i w hs)
    have C6 := Lib.hid (fun w => rhas_any s i w hs)
    have C7 := Lib.hid (fun w => with_any s i w hs)
    have C8 := Lib.hid (fun w => rwith_any s i w hs)
    have C9 := Lib.hid (fun w => without_any s i w hs)
    have C10 := Lib.hid (fun w => rwithout_any s i w hs)
    have hc : ((lst s).map fun n : Nat => (n : Int)).length ≤ 64 := by simpa [card] using card_le s
    rw [vI_lst] at C3 C4
    generalize (lst s).map (fun n : Nat => (n : Int)) = LI at *
    have HT := Lib.hid hT
    clear hr hT
    generalize ofV zs = o at *
    generalize hasV s i = h1 at *
    generalize withV s i = h2 at *
    generalize woV s i = h3 at *
    have HLI : Hid ((vI LI).length = LI.length) := vI_len LI
    go_enter Tryd.func3, Tryd.ntmps3
    go_wp2_with fail
    refine C1.out.mono ?_
    rintro e w1 ⟨rfl, rfl⟩
    go_wp2_with fail
    refine C2.out.mono ?_
    rintro e w1 ⟨rfl, rfl⟩
    go_wp2_with fail
    refine C3.out.mono ?_
    rintro e w1 ⟨A1, c1, rfl, R1, B1⟩
    have R1 := Lib.hid R1
    have B1 := Lib.hid B1
    go_wp2_with fail
    refine (C4.out _).mono ?_
    rintro e w2 ⟨A2, c2, rfl, R2, B2⟩
    have R1' := Lib.hid (R1.out.below B2 (Nat.le_refl _))
    have R2 := Lib.hid R2
    have B2 : Hid (Below w.heap.size w w2) := B1.out.trans (B2.mono B1.out.size)
    rw [HLI.out]
    go_wp2_with fail
    refine (ints_same A1 A2 LI c1 c2 w2 R1'.out R2.out (by omega)).mono ?_
    rintro e w3 ⟨rfl, B3⟩
    have B3 : Hid (Below w.heap.size w w3) := B2.out.trans (B3.mono B2.out.size)
    clear R1 R2 R1' B1 B2
    go_wp2_with fail
    refine (C5.out _).mono ?_
    rintro e w4 ⟨rfl, rfl⟩
    go_wp2_with fail
    refine (C6.out _).mono ?_
    rintro e w4 ⟨rfl, rfl⟩
    go_wp2_with fail
    refine (C7.out _).mono ?_
    rintro e w4 ⟨rfl, rfl⟩
    go_wp2_with fail
    refine (C8.out _).mono ?_
    rintro e w4 ⟨rfl, rfl⟩
    go_wp2_with fail
    refine (C9.out _).mono ?_
    rintro e w4 ⟨rfl, rfl⟩
    go_wp2_with fail
    refine (C10.out _).mono ?_
    rintro e w4 ⟨rfl, rfl⟩
    go_wp2_with fail
    refine (L.out _ (HT.out.below B3.out hw0)).mono ?_
    rintro e w4 ⟨rfl, B4⟩
    go_wp2
    go_ret
    exact ⟨rfl, B3.out.trans (B4.mono B3.out.size)⟩
set_option maxHeartbeats 4000000 in
set_option maxRecDepth 100000 in
theorem sizes_law (a b : Nat) (n : Int) (w : World) (ha : a < 18446744073709551616) (hb : b < 18446744073709551616) (hn0 : -9223372036854775808 ≤ n) (hn1 : n ≤ 9223372036854775807) (hT : Tab w) :
    Calls Tryd.prog 4 #[.int .u64 a, .int .u64 b, .int .i64 n] w (BoolPost w.heap.size w true) := by
  have hw0 := hT.2
  have L := Lib.hid (fun w hT => lives_any w hT)
  have C1 := Lib.hid (len_any a w ha)
  have C2 := Lib.hid (rlen_any a w ha)
  have C3 := Lib.hid (fun w hT => least_any a ha w hT)
  have C4 := Lib.hid (fun w => rleast_any a w ha)
  have C5 := Lib.hid (fun w => subset_any a b w ha hb)
  have C6 := Lib.hid (fun w => rsubset_any a b w ha hb)
  have C7 := subset_any a a
  have C8 := Lib.hid (fun w => all_any n w)
  have C9 := Lib.hid (fun w => rall_any n w hn0 hn1)
  have e : subV a a = true := sub_refl ha
  rw [e] at C7
  have C7 := Lib.hid (fun w => C7 w ha ha)
  have HT := Lib.hid hT
  clear hT e
  generalize card a = o at *
  generalize leastV a = h1 at *
  generalize subV a b = h2 at *
  generalize allV n = h3 at *
  go_enter Tryd.func4, Tryd.ntmps4
  go_wp2_with fail
  refine C1.out.mono ?_
  rintro e w1 ⟨rfl, rfl⟩
  go_wp2_with fail
  refine C2.out.mono ?_
  rintro e w1 ⟨rfl, B1⟩
  have B1 := Lib.hid B1
  go_wp2_with fail
  refine (C3.out _ (HT.out.below B1.out hw0)).mono ?_
  rintro e w2 ⟨rfl, B2⟩
  have B2 : Hid (Below w.heap.size w w2) := B1.out.trans (B2.mono B1.out.size)
  go_wp2_with fail
  refine (C4.out _).mono ?_
  rintro e w3 ⟨rfl, B3⟩
  have B3 : Hid (Below w.heap.size w w3) := B2.out.trans (B3.mono B2.out.size)
  go_wp2_with fail
  refine (C5.out _).mono ?_
  rintro e w4 ⟨rfl, rfl⟩
  go_wp2_with fail
  refine (C6.out _).mono ?_
  rintro e w4 ⟨rfl, B4⟩
  have B4 : Hid (Below w.heap.size w w4) := B3.out.trans (B4.mono B3.out.size)
  go_wp2_with fail
  refine (C7.out _).mono ?_
  rintro e w5 ⟨rfl, rfl⟩
  go_wp2_with fail
  refine (C8.out _).mono ?_
  rintro e w5 ⟨rfl, rfl⟩
  go_wp2_with fail
  refine (C9.out _).mono ?_
  rintro e w5 ⟨rfl, rfl⟩
  go_wp2_with fail
  refine (L.out _ (HT.out.below B4.out hw0)).mono ?_
  rintro e w5 ⟨rfl, B5⟩
  go_wp2
  go_ret
  exact ⟨rfl, B4.out.trans (B5.mono B4.out.size)⟩
set_option maxHeartbeats 4000000 in
set_option maxRecDepth 100000 in
theorem nexts_law (s b : Nat) (w : World) (hs : s < 18446744073709551616) (hb : b < 18446744073709551616) (hT : Tab w) :
    Calls Tryd.prog 5 #[.int .u64 s, .int .u64 b] w (BoolPost w.heap.size w true) := by
  have hw0 := hT.2
  have L := Lib.hid (fun w hT => lives_any w hT)
  have C1 : Hid (Calls Tryd.prog 31 #[.int .u64 s, .int .u64 b] w fun e w' => e = .returned (.tuple #[.int .u64 (nextN s b : Int), .bool (nextB s b)]) ∧ w = w') := next_any s b w hs hb
  have C2 := Lib.hid (rnext_any s b w hs hb)
  have HT := Lib.hid hT
  clear hT
  generalize nextN s b = x at *
  generalize nextB s b = y at *
  go_enter Tryd.func5, Tryd.ntmps5
  go_wp2_with fail
  refine C1.out.mono ?_
  rintro e w1 ⟨rfl, rfl⟩
  go_wp2_with fail
  refine C2.out.mono ?_
  rintro e w1 ⟨rfl, B1⟩
  have B1 := Lib.hid B1
  go_wp2_with fail
  refine (L.out _ (HT.out.below B1.out hw0)).mono ?_
  rintro e w5 ⟨rfl, B5⟩
  go_wp2
  go_ret
  exact ⟨rfl, B1.out.trans (B5.mono B1.out.size)⟩
end Go.Proofs.YtmleoiepmmbckaaDoor
