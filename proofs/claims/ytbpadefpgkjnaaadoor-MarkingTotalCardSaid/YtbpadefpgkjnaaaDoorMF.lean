/- Contracts: totals, the lexicographic order, unit markings, by the program and by the reference. -/
import Derived.Test.YtbpadefpgkjnaaaDoorMC
namespace Go.Proofs.YtbpadefpgkjnaaaDoor
open Go.RowKit

theorem made_row {w2 : World} {g N : Nat} (h : w2.ownsRow g 3 1 (.slice (some ⟨g, 0, none⟩) N N) N (madeCells (Value.int .i64 0).cells (N * 1)).toList) :
    w2.ownsRow g 3 1 (.slice (some ⟨g, 0, none⟩) N N) N ((tab N fun _ => 0).map (Value.int .i64)) := by
  have h : w2.ownsRow g 3 1 (.slice (some ⟨g, 0, none⟩) N N) N (madeCells #[.int .i64 0] (N * 1)).toList := h
  rw [toList_madeCells_one, Nat.mul_one] at h
  have e : (tab N fun _ => 0).map (Value.int .i64) = List.replicate N (.int .i64 0) := by
    unfold tab
    rw [List.map_map]
    exact List.map_const'.trans (by rw [List.length_range])
  rw [e]
  exact h
set_option maxHeartbeats 1000000 in
set_option maxRecDepth 100000 in
theorem unit_law (n i : Int) (w : World) : Calls Tryd.prog 14 #[.int .i64 n, .int .i64 i] w (IsPost w.heap.size w (unitL n i)) := by
  by_cases h : 1 ≤ n ∧ n ≤ 24 ∧ 0 ≤ i ∧ i < n
  · obtain ⟨i0, hi, hz0, hz1, hz2⟩ := info_parts infoI
    have HI := Lib.hid hi
    have HZ0 := Lib.hid hz0
    have HZ1 := Lib.hid hz1
    have HZ2 := Lib.hid hz2
    clear hi hz0 hz1 hz2
    obtain ⟨N, rfl⟩ : ∃ N : Nat, n = N := ⟨n.toNat, by omega⟩
    obtain ⟨k, rfl⟩ : ∃ k : Nat, i = k := ⟨i.toNat, by omega⟩
    have E : Hid (unitL N k = (tab N fun _ => 0).set k 1) := by
      show _ = _
      unfold unitL
      rw [if_pos h, Int.toNat_natCast]
      refine list_ext (by simp [tab]) fun j hj => ?_
      rw [tab_len] at hj
      rw [tab_at _ _ _ hj]
      unfold at0
      rw [List.getElem?_set]
      by_cases e : k = j
      · subst e
        simp [tab, hj]
      · rw [if_neg (by omega), if_neg e]
        simp [tab, hj]
    have h1 : ¬ (N : Int) < 1 := by omega
    have h2 : ¬ (24 : Int) < N := by omega
    have h3 : ¬ (k : Int) < 0 := by omega
    have h4 : ¬ (N : Int) ≤ k := by omega
    have h5 : k < N := by omega
    obtain ⟨-, h6, -, -⟩ := h
    go_enter Tryd.func14, Tryd.ntmps14
    go_wp2_with (at_make; refine wpList_make_full _ rfl _ _ 22 rfl w.heap.size 3 i0 (.int .i64 0) 1 Tryd.underlying22 HI.out HZ0.out HZ1.out .i64 .i64 _ _ N rfl rfl rfl rfl (by rw [HZ2.out]; omega) (by unfold maxLen; omega) (Nat.le_refl _) ?_; intro w2 hown2 hgrow2; have O2 := Lib.hid (made_row hown2); have hz := own_cell O2.out k (by rw [tab_len]; exact h5); have fx := O2.out.frozenAt k; clear hown2)
    have B2 : Hid (Below w.heap.size w w2) := (Below.refl _ w).grown hgrow2 (Nat.le_refl _) (fun _ h => by cases h)
    have R2 : Hid (∃ A c, Value.slice (some ⟨w.heap.size, 0, none⟩) N N = .slice A (unitL N k).length c ∧ ReadsV (w2.setCell ⟨w.heap.size, k, none⟩ (.int .i64 1)) A (unitL N k)) := by
      have h := own_put O2.out k 1
      rw [E.out]
      exact ReadsV.own h
    have B3 : Hid (Below w.heap.size w (w2.setCell ⟨w.heap.size, k, none⟩ (.int .i64 1))) := B2.out.setCell (p := ⟨w.heap.size, k, none⟩) (Nat.le_refl _) _
    obtain ⟨A2, c2, e, R3⟩ := R2.out
    replace R3 := Lib.hid R3
    replace e := Lib.hid e
    clear R2
    go_ret
    exact ⟨A2, c2, congrArg Ending.returned e.out, R3.out, B3.out⟩
  · have E : unitL n i = [] := if_neg h
    rw [E]
    clear E
    by_cases h1 : n < 1
    · go_enter Tryd.func14, Tryd.ntmps14
      go_wp2
      go_ret
      exact ⟨none, 0, rfl, ReadsV.nil _ _, Below.refl _ _⟩
    by_cases h2 : 24 < n
    · go_enter Tryd.func14, Tryd.ntmps14
      go_wp2
      go_ret
      exact ⟨none, 0, rfl, ReadsV.nil _ _, Below.refl _ _⟩
    by_cases h3 : i < 0
    · go_enter Tryd.func14, Tryd.ntmps14
      go_wp2
      go_ret
      exact ⟨none, 0, rfl, ReadsV.nil _ _, Below.refl _ _⟩
    have h4 : n ≤ i := by omega
    clear h
    go_enter Tryd.func14, Tryd.ntmps14
    go_wp2
    go_ret
    exact ⟨none, 0, rfl, ReadsV.nil _ _, Below.refl _ _⟩
set_option maxHeartbeats 1000000 in
set_option maxRecDepth 100000 in
theorem runit_law (n i : Int) (w : World) : Calls Tryd.prog 15 #[.int .i64 n, .int .i64 i] w (IsPost w.heap.size w (unitL n i)) := by
  by_cases h : 1 ≤ n ∧ n ≤ 24 ∧ 0 ≤ i ∧ i < n
  · obtain ⟨i0, hi, hz0, hz1, hz2⟩ := info_parts infoI
    have HI := Lib.hid hi
    have HZ0 := Lib.hid hz0
    have HZ1 := Lib.hid hz1
    have HZ2 := Lib.hid hz2
    clear hi hz0 hz1 hz2
    obtain ⟨N, rfl⟩ : ∃ N : Nat, n = N := ⟨n.toNat, by omega⟩
    obtain ⟨k, rfl⟩ : ∃ k : Nat, i = k := ⟨i.toNat, by omega⟩
    have E : Hid (unitL N k = (tab N fun _ => 0).set k 1) := by
      show _ = _
      unfold unitL
      rw [if_pos h, Int.toNat_natCast]
      refine list_ext (by simp [tab]) fun j hj => ?_
      rw [tab_len] at hj
      rw [tab_at _ _ _ hj]
      unfold at0
      rw [List.getElem?_set]
      by_cases e : k = j
      · subst e
        simp [tab, hj]
      · rw [if_neg (by omega), if_neg e]
        simp [tab, hj]
    have h1 : ¬ (N : Int) < 1 := by omega
    have h2 : ¬ (24 : Int) < N := by omega
    have h3 : ¬ (k : Int) < 0 := by omega
    have h4 : ¬ (N : Int) ≤ k := by omega
    have h5 : k < N := by omega
    obtain ⟨-, h6, -, -⟩ := h
    go_enter Tryd.func15, Tryd.ntmps15
    go_wp2_with (at_make; refine wpList_make_full _ rfl _ _ 22 rfl w.heap.size 3 i0 (.int .i64 0) 1 Tryd.underlying22 HI.out HZ0.out HZ1.out .i64 .i64 _ _ N rfl rfl rfl rfl (by rw [HZ2.out]; omega) (by unfold maxLen; omega) (Nat.le_refl _) ?_; intro w2 hown2 hgrow2; have O2 := Lib.hid (made_row hown2); have hz := own_cell O2.out k (by rw [tab_len]; exact h5); have fx := O2.out.frozenAt k; clear hown2)
    have B2 : Hid (Below w.heap.size w w2) := (Below.refl _ w).grown hgrow2 (Nat.le_refl _) (fun _ h => by cases h)
    have R2 : Hid (∃ A c, Value.slice (some ⟨w.heap.size, 0, none⟩) N N = .slice A (unitL N k).length c ∧ ReadsV (w2.setCell ⟨w.heap.size, k, none⟩ (.int .i64 1)) A (unitL N k)) := by
      have h := own_put O2.out k 1
      rw [E.out]
      exact ReadsV.own h
    have B3 : Hid (Below w.heap.size w (w2.setCell ⟨w.heap.size, k, none⟩ (.int .i64 1))) := B2.out.setCell (p := ⟨w.heap.size, k, none⟩) (Nat.le_refl _) _
    obtain ⟨A2, c2, e, R3⟩ := R2.out
    replace R3 := Lib.hid R3
    replace e := Lib.hid e
    clear R2
    go_ret
    exact ⟨A2, c2, congrArg Ending.returned e.out, R3.out, B3.out⟩
  · have E : unitL n i = [] := if_neg h
    rw [E]
    clear E
    by_cases h1 : n < 1
    · go_enter Tryd.func15, Tryd.ntmps15
      go_wp2
      go_ret
      exact ⟨none, 0, rfl, ReadsV.nil _ _, Below.refl _ _⟩
    by_cases h2 : 24 < n
    · go_enter Tryd.func15, Tryd.ntmps15
      go_wp2
      go_ret
      exact ⟨none, 0, rfl, ReadsV.nil _ _, Below.refl _ _⟩
    by_cases h3 : i < 0
    · go_enter Tryd.func15, Tryd.ntmps15
      go_wp2
      go_ret
      exact ⟨none, 0, rfl, ReadsV.nil _ _, Below.refl _ _⟩
    have h4 : n ≤ i := by omega
    clear h
    go_enter Tryd.func15, Tryd.ntmps15
    go_wp2
    go_ret
    exact ⟨none, 0, rfl, ReadsV.nil _ _, Below.refl _ _⟩
end Go.Proofs.YtbpadefpgkjnaaaDoor
