/- The laws on inverse operations, visited subsets and the operations on bits, walked. -/
import Derived.Test.YtmleoiepmmbckaaDoorL
import Derived.Test.YtmleoiepmmbckaaDoorJ
import Derived.IntWalk
namespace Go.Proofs.YtmleoiepmmbckaaDoor
open Go.RowKit Go.Shelf Go.Sort

theorem sorted_at {L : List Nat} (h : L.Pairwise (· < ·)) {j k x y : Nat} (hjk : j < k) (hx : L[j]? = some x) (hy : L[k]? = some y) : x < y := by
  obtain ⟨h1, h2⟩ := List.getElem?_eq_some_iff.1 hx
  obtain ⟨h3, h4⟩ := List.getElem?_eq_some_iff.1 hy
  rw [← h2, ← h4]
  exact List.pairwise_iff_getElem.1 h j k h1 h3 hjk
set_option maxHeartbeats 4000000 in
set_option maxRecDepth 100000 in
theorem returns_law (s : Nat) (i : Int) (w : World) (hs : s < 18446744073709551616) (hT : Tab w) :
    Calls Tryd.prog 7 #[.int .u64 s, .int .i64 i] w (BoolPost w.heap.size w true) := by
  have hw0 := hT.2
  have L := Lib.hid (fun w hT => lives_any w hT)
  have C1 := Lib.hid (list_any s hs w hT)
  have C2 : Hid (∀ A c w, Reads w A (vN (lst s)) → Calls Tryd.prog 12 #[.slice A (lst s).length c] w fun e w' => e = .returned (.int .u64 (s : Int)) ∧ w = w') := fun A c w hr => by
    have h := of_any A ((lst s).map fun n : Nat => (n : Int)) c w (by rw [← vI_lst]; exact hr) (by have := card_le s; unfold card at this; simp; omega)
    rw [ofV_lst hs, List.length_map] at h
    exact h
  have C3 : Hid (∀ w, Calls Tryd.prog 23 #[.int .u64 s] w fun e w' => e = .returned (.int .i64 ((lst s).length : Int)) ∧ w = w') := fun w => len_any s w hs
  have C4 := Lib.hid (fun i w => has_any s i w hs)
  have C5 := Lib.hid (fun w => with_any s i w hs)
  have C6 := Lib.hid (fun w => without_any s i w hs)
  have C7 := Lib.hid (fun w => has_any (withV s i) i w (withV_lt hs i))
  have C8 := Lib.hid (fun w => has_any (woV s i) i w (woV_lt hs i))
  have C9 := Lib.hid (fun w => without_any (withV s i) i w (withV_lt hs i))
  have C10 := Lib.hid (fun w => with_any (woV s i) i w (woV_lt hs i))
  have HB : Hid (∀ x ∈ lst s, x ≤ 63 ∧ s.testBit x = true) := fun x hx => by have := (mem_lst s x).1 hx; exact ⟨by omega, this.2⟩
  have HSo := Lib.hid (lst_sorted s)
  have hc : (lst s).length ≤ 64 := card_le s
  have HT := Lib.hid hT
  have HV : Hid ((vN (lst s)).length = (lst s).length) := vN_len _
  have HOut : Hid (i < 0 ∨ 63 < i → hasV s i = false ∧ withV s i = s ∧ woV s i = s) := fun h => ⟨hasV_out s i h, withV_out s i h, woV_no s i hs (hasV_out s i h)⟩
  have HIn : Hid (0 ≤ i ∧ i ≤ 63 → hasV (withV s i) i = true ∧ hasV (woV s i) i = false ∧ woV (withV s i) i = woV s i ∧ withV (woV s i) i = withV s i) := fun h => ⟨has_with s i h, has_wo s hs i h, wo_with s hs i h, with_wo s hs i h⟩
  clear hT
  generalize lst s = LL at *
  generalize hn : LL.length = n at *
  have HN := Lib.hid hn
  clear hn
  have HS := Lib.hid hs
  go_enter Tryd.func7, Tryd.ntmps7
  go_wp2_with fail
  refine C1.out.mono ?_
  rintro e w1 ⟨A1, c1, rfl, R1, B1⟩
  have R1 := Lib.hid R1
  have B1 := Lib.hid B1
  rw [HV.out]
  go_wp2_with fail
  refine (L.out _ (HT.out.below B1.out hw0)).mono ?_
  rintro e w2 ⟨rfl, B2⟩
  have R2 := Lib.hid (R1.out.below B2 (Nat.le_refl _))
  have B2 : Hid (Below w.heap.size w w2) := B1.out.trans (B2.mono B1.out.size)
  clear R1 B1
  go_wp2_with fail
  refine (C2.out A1 c1 w2 R2.out).mono ?_
  rintro e w3 ⟨rfl, rfl⟩
  go_wp2_with fail
  refine (C3.out _).mono ?_
  rintro e w3 ⟨rfl, rfl⟩
  go_wp2_with fail
  generalize hg2 : w2.heap.size = g2 at *
  have HG2 := Lib.hid hg2
  clear hg2
  go_loopw [6] (fun q wr => ∃ k : Nat, k ≤ n ∧ q = .int .i64 k ∧ Hid (Below g2 w2 wr)) (fun q _ => n - (intOf q).toNat)
  case atStart => exact ⟨0, by omega, rfl, Below.refl _ _⟩
  case round =>
    obtain ⟨k, hk, rfl, B⟩ := hrel
    by_cases hlt : k < n
    · obtain ⟨x, hx⟩ := get_of_lt (L := LL) (k := k) (by rw [HN.out]; exact hlt)
      have RW := R2.out.below B.out (by rw [HG2.out]; exact Nat.le_refl _)
      obtain ⟨ba, oa, e1, hcell⟩ := RW.at_ (vN_at hx)
      subst e1
      obtain ⟨hx63, hbit⟩ := HB.out x (List.mem_of_getElem? hx)
      have D := C4.out (x : Int)
      rw [hasV_nat s x hx63, hbit] at D
      have D : Hid (∀ W, Calls Tryd.prog 17 #[.int .u64 s, .int .i64 x] W fun e w' => e = .returned (.bool true) ∧ w' = W) := fun W => (D W).mono fun _ _ ⟨h1, h2⟩ => ⟨h1, h2.symm⟩
      have t1 : ¬ (x : Int) < 0 := by omega
      have t2 : ¬ (63 : Int) < (x : Int) := by omega
      have d1 : decide ((x : Int) < 0) = false := decide_eq_false t1
      have d2 : decide ((63 : Int) < (x : Int)) = false := decide_eq_false t2
      by_cases hk0 : k = 0
      · have z : ¬ (0 : Int) < (k : Int) := by omega
        have d3 : decide (0 < k) = false := decide_eq_false (by omega)
        clear hx hk0
        go_wp2_with fail
        go_quiet ((go_at_call 17; exact Calls.quiet_of_same (D.out _)))
        go_wp2
        go_roundw
        case rel => exact ⟨k + 1, by omega, by go_num, below_drewN B.out _⟩
        case measure => simp [intOf]; omega
      · obtain ⟨j, hj⟩ : ∃ j, k = j + 1 := ⟨k - 1, by omega⟩
        obtain ⟨y, hy⟩ := get_of_lt (L := LL) (k := j) (by rw [HN.out]; omega)
        obtain ⟨bb, ob, e2, hcell2⟩ := RW.at_ (vN_at hy)
        cases e2
        have hyx := sorted_at HSo.out (by omega) hy hx
        have z : (0 : Int) < (k : Int) := by omega
        have d3 : decide (0 < k) = true := decide_eq_true (by omega)
        have t4 : ¬ (x : Int) ≤ (y : Int) := by omega
        have d4 : decide ((x : Int) ≤ (y : Int)) = false := decide_eq_false t4
        have w1 : IntKind.i64.wrap ((k : Int) - 1) = (j : Int) := by rw [IntKind.wrap_i64]; omega
        have hjn : j < n := by omega
        clear hx hy hk0 hj
        go_wp2_with fail
        go_quiet ((go_at_call 17; exact Calls.quiet_of_same (D.out _)))
        clear w1
        go_wp2
        go_roundw
        case rel => exact ⟨k + 1, by omega, by go_num, below_drewN B.out _⟩
        case measure => simp [intOf]; omega
    · have BF : Hid (Below w.heap.size w wr) := B2.out.trans (B.out.mono (by have := B2.out.size; rw [HG2.out] at this; exact this))
      clear C1 C2 C3 R2 B2 B
      by_cases h1 : i < 0
      · obtain ⟨e1, e2, e3⟩ := HOut.out (.inl h1)
        have C4 := C4.out i
        have C5 := C5.out
        have C6 := C6.out
        rw [e1] at C4
        rw [e2] at C5
        rw [e3] at C6
        have C4 := Lib.hid C4
        have C5 := Lib.hid C5
        have C6 := Lib.hid C6
        clear e1 e2 e3
        go_wp2_with fail
        refine (C4.out _).mono ?_
        rintro e w3 ⟨rfl, rfl⟩
        go_wp2_with fail
        refine (C5.out _).mono ?_
        rintro e w3 ⟨rfl, rfl⟩
        go_wp2_with fail
        refine (C6.out _).mono ?_
        rintro e w3 ⟨rfl, rfl⟩
        go_wp2
        go_ret
        exact ⟨rfl, BF.out⟩
      by_cases h2 : 63 < i
      · obtain ⟨e1, e2, e3⟩ := HOut.out (.inr h2)
        have C4 := C4.out i
        have C5 := C5.out
        have C6 := C6.out
        rw [e1] at C4
        rw [e2] at C5
        rw [e3] at C6
        have C4 := Lib.hid C4
        have C5 := Lib.hid C5
        have C6 := Lib.hid C6
        clear e1 e2 e3
        go_wp2_with fail
        refine (C4.out _).mono ?_
        rintro e w3 ⟨rfl, rfl⟩
        go_wp2_with fail
        refine (C5.out _).mono ?_
        rintro e w3 ⟨rfl, rfl⟩
        go_wp2_with fail
        refine (C6.out _).mono ?_
        rintro e w3 ⟨rfl, rfl⟩
        go_wp2
        go_ret
        exact ⟨rfl, BF.out⟩
      · obtain ⟨e1, e2, e3, e4⟩ := HIn.out (by omega)
        have C7 := C7.out
        have C8 := C8.out
        have C9 := C9.out
        have C10 := C10.out
        rw [e1] at C7
        rw [e2] at C8
        rw [e3] at C9
        rw [e4] at C10
        clear e1 e2 e3 e4
        generalize withV s i = sw at *
        generalize woV s i = so at *
        have C7 := Lib.hid C7
        have C8 := Lib.hid C8
        have C9 := Lib.hid C9
        have C10 := Lib.hid C10
        go_wp2_with fail
        refine (C5.out _).mono ?_
        rintro e w3 ⟨rfl, rfl⟩
        go_wp2_with fail
        refine (C6.out _).mono ?_
        rintro e w3 ⟨rfl, rfl⟩
        go_wp2_with fail
        refine (C7.out _).mono ?_
        rintro e w3 ⟨rfl, rfl⟩
        go_wp2_with fail
        refine (C8.out _).mono ?_
        rintro e w3 ⟨rfl, rfl⟩
        go_wp2_with fail
        refine (C9.out _).mono ?_
        rintro e w3 ⟨rfl, rfl⟩
        go_wp2_with fail
        refine (C10.out _).mono ?_
        rintro e w3 ⟨rfl, rfl⟩
        go_wp2
        go_ret
        exact ⟨rfl, BF.out⟩
end Go.Proofs.YtmleoiepmmbckaaDoor
