/- The walk of the law on ranges. -/
import Derived.Test.YtgdbnpnlejgfgaaShC
import Derived.Test.YtgdbnpnlejgfgaaRngM
import Derived.Handy
namespace Go.Proofs.Ytgdbnpnlejgfgaa
open Go.RowKit

theorem Try.info4 : (Try.prog.info? 4).map (fun i => (i.zero, i.size, i.bytes)) = some (some (.bool false), 1, 1) := by kernel_rfl

theorem chV_pos (s : Nat) (zs : List Int) : -1 ≤ chV s zs ∧ chV s zs < (zs.length : Int) + 1 ∧ (0 ≤ chV s zs → chV s zs < zs.length ∧ 1 ≤ zs[(chV s zs).toNat]?.getD 0) := by
  unfold chV
  split
  · omega
  · rename_i h
    obtain ⟨e, _⟩ := belV_yes (s := s) (n := totR zs) (by omega) (by have := (totR_le zs).2; omega)
    have hx : 0 ≤ belV s (totR zs) := by rw [e]; exact Int.emod_nonneg _ (by omega)
    have hp := pick_pos zs _ hx
    have hg := pickR_ge zs (belV s (totR zs))
    generalize pickR zs (belV s (totR zs)) = r at *
    refine ⟨hg, ?_, hp⟩
    by_cases h0 : 0 ≤ r
    · have := (hp h0).1; omega
    · omega

set_option maxHeartbeats 6000000 in
theorem ranges_walk (s : Nat) (n : Int) (A : Option Addr) (zs : List Int) (c : Nat) (w : World) (hr : ReadsI w A zs) (hl : zs.length ≤ 9223372036854775807) :
    Calls Try.prog 8 #[.int .u64 s, .int .i64 n, .slice A zs.length c] w fun e w' => e = .returned (.bool true) ∧ Below w.heap.size w w' := by
  have C1 := Lib.hid (next_any s)
  have C2 := Lib.hid (below_any s n)
  have C3 := Lib.hid (choose_any s A zs c w hr hl)
  have ho := outR_lt (stepR s)
  obtain ⟨v1, v2, v3⟩ := chV_pos s zs
  have V3 := Lib.hid v3
  have HR := Lib.hid hr
  have hbel : 1 ≤ n → n ≤ 2147483647 → 0 ≤ belV s n ∧ belV s n < n := by
    intro a b
    rw [(belV_yes a b).1]
    exact ⟨Int.emod_nonneg _ (by omega), Int.emod_lt_of_pos _ (by omega)⟩
  have HBEL := Lib.hid hbel
  clear v3 hr hbel
  generalize outR (stepR s) = o at *
  generalize stepR s = t at *
  generalize belV s n = bv at *
  generalize belS s n = bs at *
  generalize chV s zs = v at *
  generalize chS s zs = cs at *
  generalize hn : zs.length = len at *
  have HN := Lib.hid hn
  clear hn
  by_cases h80 : (80 : Int) < len
  · go_enter Try.func8, Try.ntmps8
    go_wp2_with fail
    refine (alive_any _).mono ?_
    rintro e w1 ⟨rfl, hb⟩
    go_wp2
    go_ret
    exact ⟨rfl, hb⟩
  have hmk : ∀ W, (Instr.makeSlice 38 (.int .i64 0) (.int .i64 0)).run Try.prog W = .ok (.slice (some ⟨W.heap.size, 0, none⟩) 0 0) (W.alloc (.cells #[] 4)) := fun _ => by kernel_rfl
  obtain ⟨i0, hi, hz0, hz1, hz2⟩ := info_parts Try.info4
  have HI := Lib.hid hi
  have HZ0 := Lib.hid hz0
  have HZ1 := Lib.hid hz1
  have HZ2 := Lib.hid hz2
  clear hi hz0 hz1 hz2
  by_cases hv : 0 ≤ v
  · obtain ⟨m, rfl⟩ : ∃ m : Nat, v = m := ⟨v.toNat, by omega⟩
    obtain ⟨q1, q2⟩ := V3.out hv
    obtain ⟨b0, o0, rfl, hcell⟩ := HR.out m (by rw [HN.out]; omega)
    simp only [Int.toNat_natCast] at q2
    generalize zs[m]?.getD 0 = y at *
    have q3 : (m : Int) < (len : Int) := by omega
    have hv' : decide (0 ≤ (m : Int)) = true := by simp
    clear V3
    by_cases hn1 : n < 1
    · have hn1' : ¬ 1 ≤ n := by omega
      have hd : decide (1 ≤ n) = false := by simpa using hn1'
      have C4 := Lib.hid (shuffle_no s n (.inl hn1))
      go_enter Try.func8, Try.ntmps8
      go_wp2_with fail
      refine (C1.out _).mono ?_
      rintro e w1 ⟨rfl, rfl⟩
      as_aux_lemma =>
      go_wp2_with fail
      refine (C2.out _).mono ?_
      rintro e w1 ⟨rfl, rfl⟩
      go_wp2_with fail
      refine C3.out.mono ?_
      rintro e w1 ⟨rfl, rfl⟩
      as_aux_lemma =>
      go_wp2_with fail
      refine (C4.out _).mono ?_
      rintro e w1 ⟨rfl, rfl⟩
      as_aux_lemma =>
      go_wp2_with fail
      refine wp_loop_rounds 1 ?_
      rw [rounds_succ]
      go_wp2_with fail
      refine (alive_any _).mono ?_
      rintro e w4 ⟨rfl, hb⟩
      go_wp2
      go_ret
      exact ⟨rfl, ((Below.refl _ _).alloc (Nat.le_refl _) _).trans (hb.mono (by simp))⟩
    have hn1' : 1 ≤ n := by omega
    by_cases hn2 : 2147483647 < n
    · have hn2' : ¬ n ≤ 2147483647 := by omega
      have hd2 : decide (n ≤ 2147483647) = false := by simpa using hn2'
      have hn4 : 64 < n := by omega
      have C4 := Lib.hid (shuffle_no s n (.inr hn4))
      go_enter Try.func8, Try.ntmps8
      go_wp2_with fail
      refine (C1.out _).mono ?_
      rintro e w1 ⟨rfl, rfl⟩
      as_aux_lemma =>
      go_wp2_with fail
      refine (C2.out _).mono ?_
      rintro e w1 ⟨rfl, rfl⟩
      go_wp2_with fail
      refine C3.out.mono ?_
      rintro e w1 ⟨rfl, rfl⟩
      as_aux_lemma =>
      go_wp2_with fail
      refine (C4.out _).mono ?_
      rintro e w1 ⟨rfl, rfl⟩
      as_aux_lemma =>
      go_wp2_with fail
      refine wp_loop_rounds 1 ?_
      rw [rounds_succ]
      go_wp2_with fail
      refine (alive_any _).mono ?_
      rintro e w4 ⟨rfl, hb⟩
      go_wp2
      go_ret
      exact ⟨rfl, ((Below.refl _ _).alloc (Nat.le_refl _) _).trans (hb.mono (by simp))⟩
    have hn2' : n ≤ 2147483647 := by omega
    obtain ⟨z1, z2⟩ := HBEL.out hn1' hn2'
    by_cases hn4 : 64 < n
    · have C4 := Lib.hid (shuffle_no s n (.inr hn4))
      go_enter Try.func8, Try.ntmps8
      go_wp2_with fail
      refine (C1.out _).mono ?_
      rintro e w1 ⟨rfl, rfl⟩
      as_aux_lemma =>
      go_wp2_with fail
      refine (C2.out _).mono ?_
      rintro e w1 ⟨rfl, rfl⟩
      go_wp2_with fail
      refine C3.out.mono ?_
      rintro e w1 ⟨rfl, rfl⟩
      as_aux_lemma =>
      go_wp2_with fail
      refine (C4.out _).mono ?_
      rintro e w1 ⟨rfl, rfl⟩
      as_aux_lemma =>
      go_wp2_with fail
      refine wp_loop_rounds 1 ?_
      rw [rounds_succ]
      go_wp2_with fail
      refine (alive_any _).mono ?_
      rintro e w4 ⟨rfl, hb⟩
      go_wp2
      go_ret
      exact ⟨rfl, ((Below.refl _ _).alloc (Nat.le_refl _) _).trans (hb.mono (by simp))⟩
    · obtain ⟨k, rfl⟩ : ∃ k : Nat, n = k := ⟨n.toNat, by omega⟩
      have k1 : 1 ≤ k := by omega
      have k2 : k ≤ 64 := by omega
      have HD : Hid (Diff k (shufF outR stepR (k - 1) (mkL k k) s).1) := (Diff.shuf k outR stepR (k - 1) (mkL k k) s (by rw [mkL_len]; omega) (Diff.mk k)).1
      have C4 := Lib.hid (shuffle_any s k k1 k2)
      generalize shufF outR stepR (k - 1) (mkL k k) s = P at *
      go_enter Try.func8, Try.ntmps8
      go_wp2_with fail
      refine (C1.out _).mono ?_
      rintro e w1 ⟨rfl, rfl⟩
      as_aux_lemma =>
      go_wp2_with fail
      refine (C2.out _).mono ?_
      rintro e w1 ⟨rfl, rfl⟩
      go_wp2_with fail
      refine C3.out.mono ?_
      rintro e w1 ⟨rfl, rfl⟩
      as_aux_lemma =>
      go_wp2_with fail
      refine (C4.out _).mono ?_
      rintro e w1 ⟨A1, c1, rfl, hl1, hr1, hb1⟩
      have H1 := Lib.hid hr1
      have L1 := Lib.hid hl1
      have B1 := Lib.hid hb1
      clear hr1 hl1 hb1
      as_aux_lemma =>
      have m1 : 1 * k ≤ 281474976710656 := by omega
      have m2 : k ≤ maxLen := by unfold maxLen; omega
      go_wp2_with (at_make; refine wpList_make_full _ rfl (.tmp 81) (.tmp 81) 38 rfl w1.heap.size 4 i0 (.bool false) 1 Try.underlying38 HI.out HZ0.out HZ1.out .i64 .i64 k k k rfl rfl rfl rfl (by rw [HZ2.out]; exact m1) m2 (Nat.le_refl _) ?_; intro w2 hown hgrow)
      have O0 : Hid (w2.ownsRow w1.heap.size 4 1 (.slice (some ⟨w1.heap.size, 0, none⟩) k k) k ((seenL k P.1 0).map Value.bool)) := by
        show World.ownsRow _ _ _ _ _ _ _
        rw [seenL_zero, List.map_replicate]
        have e := toList_madeCells_one (.bool false) (k * 1)
        rw [Nat.mul_one] at e
        have h := hown
        rw [show (Value.bool false).cells = #[.bool false] from rfl, Nat.mul_one, e] at h
        exact h
      have B2 : Hid (Below w1.heap.size w1 w2) := (Below.refl _ _).grown hgrow (Nat.le_refl _) (fun q e => by cases e)
      clear hown hgrow
      generalize hG : w1.heap.size = G at O0 B2 ⊢
      have HG := Lib.hid hG
      clear hG
      as_aux_lemma =>
      go_loopw [16] (fun q wr => ∃ j : Nat, j ≤ k ∧ q = .int .i64 j ∧ Hid (wr.ownsRow G 4 1 (.slice (some ⟨G, 0, none⟩) k k) k ((seenL k P.1 j).map Value.bool)) ∧ Hid (Below G w1 wr)) (fun q _ => k - (intOf q).toNat)
      case atStart => exact ⟨0, by omega, rfl, O0, B2⟩
      case round =>
        clear O0 B2
        obtain ⟨j, hj, rfl, O, B⟩ := hrel
        by_cases hlt : j < k
        · as_aux_lemma =>
          have hjl : j < P.1.length := by rw [L1.out]; exact hlt
          obtain ⟨b1, o1, rfl, hc1⟩ := H1.out j hjl
          have hy := HD.out.1 j (P.1[j]?.getD 0) (by rw [List.getElem?_eq_getElem hjl]; rfl)
          obtain ⟨x, hx⟩ : ∃ x : Nat, P.1[j]?.getD 0 = (x : Int) := ⟨(P.1[j]?.getD 0).toNat, by omega⟩
          have hxk : x < k := by omega
          have cw := (B.out.cell (p := ⟨b1, o1 + j, none⟩) (by rw [← HG.out]; exact World.block_lt_of_cell? w1 _ hc1)).trans hc1
          rw [hx] at cw
          have sx : wr.cell? ⟨G, x, none⟩ = some (.bool false) := by
            rw [O.out.cellAt x (by omega), List.getElem?_map, seenL_new HD.out j hjl x hx hxk]
            rfl
          have fx := O.out.frozenAt x
          have O2 : Hid ((wr.setCell ⟨G, x, none⟩ (.bool true)).ownsRow G 4 1 (.slice (some ⟨G, 0, none⟩) k k) k ((seenL k P.1 (j + 1)).map Value.bool)) := by
            show World.ownsRow _ _ _ _ _ _ _
            rw [← seenL_set j hjl x hx, List.map_set]
            exact (O.out.stored x (.bool true)).1
          clear hx hy hc1
          go_wp2
          go_roundw
          case rel => exact ⟨j + 1, by omega, by go_num, O2, B.out.setCell (Nat.le_refl _) _⟩
          case measure => simp [intOf]; omega
        · as_aux_lemma =>
          have hkk : ((k : Int) == (k : Int)) = true := by simp
          go_wp2_with fail
          refine (alive_any _).mono ?_
          rintro e w4 ⟨rfl, hb⟩
          go_wp2
          go_ret
          have e1 := HG.out
          have s1 := B1.out.size
          have s2 := B.out.size
          subst e1
          exact ⟨rfl, B1.out.trans ((B.out.mono s1).trans (hb.mono (Nat.le_trans s1 s2)))⟩
  · have hv' : decide (0 ≤ v) = false := by simpa using hv
    have hvl : v < (len : Int) := by omega
    clear V3
    by_cases hn1 : n < 1
    · have hn1' : ¬ 1 ≤ n := by omega
      have hd : decide (1 ≤ n) = false := by simpa using hn1'
      have C4 := Lib.hid (shuffle_no s n (.inl hn1))
      go_enter Try.func8, Try.ntmps8
      go_wp2_with fail
      refine (C1.out _).mono ?_
      rintro e w1 ⟨rfl, rfl⟩
      as_aux_lemma =>
      go_wp2_with fail
      refine (C2.out _).mono ?_
      rintro e w1 ⟨rfl, rfl⟩
      go_wp2_with fail
      refine C3.out.mono ?_
      rintro e w1 ⟨rfl, rfl⟩
      as_aux_lemma =>
      go_wp2_with fail
      refine (C4.out _).mono ?_
      rintro e w1 ⟨rfl, rfl⟩
      as_aux_lemma =>
      go_wp2_with fail
      refine wp_loop_rounds 1 ?_
      rw [rounds_succ]
      go_wp2_with fail
      refine (alive_any _).mono ?_
      rintro e w4 ⟨rfl, hb⟩
      go_wp2
      go_ret
      exact ⟨rfl, ((Below.refl _ _).alloc (Nat.le_refl _) _).trans (hb.mono (by simp))⟩
    have hn1' : 1 ≤ n := by omega
    by_cases hn2 : 2147483647 < n
    · have hn2' : ¬ n ≤ 2147483647 := by omega
      have hd2 : decide (n ≤ 2147483647) = false := by simpa using hn2'
      have hn4 : 64 < n := by omega
      have C4 := Lib.hid (shuffle_no s n (.inr hn4))
      go_enter Try.func8, Try.ntmps8
      go_wp2_with fail
      refine (C1.out _).mono ?_
      rintro e w1 ⟨rfl, rfl⟩
      as_aux_lemma =>
      go_wp2_with fail
      refine (C2.out _).mono ?_
      rintro e w1 ⟨rfl, rfl⟩
      go_wp2_with fail
      refine C3.out.mono ?_
      rintro e w1 ⟨rfl, rfl⟩
      as_aux_lemma =>
      go_wp2_with fail
      refine (C4.out _).mono ?_
      rintro e w1 ⟨rfl, rfl⟩
      as_aux_lemma =>
      go_wp2_with fail
      refine wp_loop_rounds 1 ?_
      rw [rounds_succ]
      go_wp2_with fail
      refine (alive_any _).mono ?_
      rintro e w4 ⟨rfl, hb⟩
      go_wp2
      go_ret
      exact ⟨rfl, ((Below.refl _ _).alloc (Nat.le_refl _) _).trans (hb.mono (by simp))⟩
    have hn2' : n ≤ 2147483647 := by omega
    obtain ⟨z1, z2⟩ := HBEL.out hn1' hn2'
    by_cases hn4 : 64 < n
    · have C4 := Lib.hid (shuffle_no s n (.inr hn4))
      go_enter Try.func8, Try.ntmps8
      go_wp2_with fail
      refine (C1.out _).mono ?_
      rintro e w1 ⟨rfl, rfl⟩
      as_aux_lemma =>
      go_wp2_with fail
      refine (C2.out _).mono ?_
      rintro e w1 ⟨rfl, rfl⟩
      go_wp2_with fail
      refine C3.out.mono ?_
      rintro e w1 ⟨rfl, rfl⟩
      as_aux_lemma =>
      go_wp2_with fail
      refine (C4.out _).mono ?_
      rintro e w1 ⟨rfl, rfl⟩
      as_aux_lemma =>
      go_wp2_with fail
      refine wp_loop_rounds 1 ?_
      rw [rounds_succ]
      go_wp2_with fail
      refine (alive_any _).mono ?_
      rintro e w4 ⟨rfl, hb⟩
      go_wp2
      go_ret
      exact ⟨rfl, ((Below.refl _ _).alloc (Nat.le_refl _) _).trans (hb.mono (by simp))⟩
    · obtain ⟨k, rfl⟩ : ∃ k : Nat, n = k := ⟨n.toNat, by omega⟩
      have k1 : 1 ≤ k := by omega
      have k2 : k ≤ 64 := by omega
      have HD : Hid (Diff k (shufF outR stepR (k - 1) (mkL k k) s).1) := (Diff.shuf k outR stepR (k - 1) (mkL k k) s (by rw [mkL_len]; omega) (Diff.mk k)).1
      have C4 := Lib.hid (shuffle_any s k k1 k2)
      generalize shufF outR stepR (k - 1) (mkL k k) s = P at *
      go_enter Try.func8, Try.ntmps8
      go_wp2_with fail
      refine (C1.out _).mono ?_
      rintro e w1 ⟨rfl, rfl⟩
      as_aux_lemma =>
      go_wp2_with fail
      refine (C2.out _).mono ?_
      rintro e w1 ⟨rfl, rfl⟩
      go_wp2_with fail
      refine C3.out.mono ?_
      rintro e w1 ⟨rfl, rfl⟩
      as_aux_lemma =>
      go_wp2_with fail
      refine (C4.out _).mono ?_
      rintro e w1 ⟨A1, c1, rfl, hl1, hr1, hb1⟩
      have H1 := Lib.hid hr1
      have L1 := Lib.hid hl1
      have B1 := Lib.hid hb1
      clear hr1 hl1 hb1
      as_aux_lemma =>
      have m1 : 1 * k ≤ 281474976710656 := by omega
      have m2 : k ≤ maxLen := by unfold maxLen; omega
      go_wp2_with (at_make; refine wpList_make_full _ rfl (.tmp 81) (.tmp 81) 38 rfl w1.heap.size 4 i0 (.bool false) 1 Try.underlying38 HI.out HZ0.out HZ1.out .i64 .i64 k k k rfl rfl rfl rfl (by rw [HZ2.out]; exact m1) m2 (Nat.le_refl _) ?_; intro w2 hown hgrow)
      have O0 : Hid (w2.ownsRow w1.heap.size 4 1 (.slice (some ⟨w1.heap.size, 0, none⟩) k k) k ((seenL k P.1 0).map Value.bool)) := by
        show World.ownsRow _ _ _ _ _ _ _
        rw [seenL_zero, List.map_replicate]
        have e := toList_madeCells_one (.bool false) (k * 1)
        rw [Nat.mul_one] at e
        have h := hown
        rw [show (Value.bool false).cells = #[.bool false] from rfl, Nat.mul_one, e] at h
        exact h
      have B2 : Hid (Below w1.heap.size w1 w2) := (Below.refl _ _).grown hgrow (Nat.le_refl _) (fun q e => by cases e)
      clear hown hgrow
      generalize hG : w1.heap.size = G at O0 B2 ⊢
      have HG := Lib.hid hG
      clear hG
      as_aux_lemma =>
      go_loopw [16] (fun q wr => ∃ j : Nat, j ≤ k ∧ q = .int .i64 j ∧ Hid (wr.ownsRow G 4 1 (.slice (some ⟨G, 0, none⟩) k k) k ((seenL k P.1 j).map Value.bool)) ∧ Hid (Below G w1 wr)) (fun q _ => k - (intOf q).toNat)
      case atStart => exact ⟨0, by omega, rfl, O0, B2⟩
      case round =>
        clear O0 B2
        obtain ⟨j, hj, rfl, O, B⟩ := hrel
        by_cases hlt : j < k
        · as_aux_lemma =>
          have hjl : j < P.1.length := by rw [L1.out]; exact hlt
          obtain ⟨b1, o1, rfl, hc1⟩ := H1.out j hjl
          have hy := HD.out.1 j (P.1[j]?.getD 0) (by rw [List.getElem?_eq_getElem hjl]; rfl)
          obtain ⟨x, hx⟩ : ∃ x : Nat, P.1[j]?.getD 0 = (x : Int) := ⟨(P.1[j]?.getD 0).toNat, by omega⟩
          have hxk : x < k := by omega
          have cw := (B.out.cell (p := ⟨b1, o1 + j, none⟩) (by rw [← HG.out]; exact World.block_lt_of_cell? w1 _ hc1)).trans hc1
          rw [hx] at cw
          have sx : wr.cell? ⟨G, x, none⟩ = some (.bool false) := by
            rw [O.out.cellAt x (by omega), List.getElem?_map, seenL_new HD.out j hjl x hx hxk]
            rfl
          have fx := O.out.frozenAt x
          have O2 : Hid ((wr.setCell ⟨G, x, none⟩ (.bool true)).ownsRow G 4 1 (.slice (some ⟨G, 0, none⟩) k k) k ((seenL k P.1 (j + 1)).map Value.bool)) := by
            show World.ownsRow _ _ _ _ _ _ _
            rw [← seenL_set j hjl x hx, List.map_set]
            exact (O.out.stored x (.bool true)).1
          clear hx hy hc1
          go_wp2
          go_roundw
          case rel => exact ⟨j + 1, by omega, by go_num, O2, B.out.setCell (Nat.le_refl _) _⟩
          case measure => simp [intOf]; omega
        · as_aux_lemma =>
          have hkk : ((k : Int) == (k : Int)) = true := by simp
          go_wp2_with fail
          refine (alive_any _).mono ?_
          rintro e w4 ⟨rfl, hb⟩
          go_wp2
          go_ret
          have e1 := HG.out
          have s1 := B1.out.size
          have s2 := B.out.size
          subst e1
          exact ⟨rfl, B1.out.trans ((B.out.mono s1).trans (hb.mono (Nat.le_trans s1 s2)))⟩
end Go.Proofs.Ytgdbnpnlejgfgaa
