/- The reference's primitive vector. -/
import Derived.Test.YtcihdecfganohaaV8
import Derived.IntWalk
namespace Go.Proofs.Ytcihdecfganohaa
open Go.RowKit

theorem headL_zero (n : Nat) (a : List Int) (d : Nat) (h : ∀ k, k < n → at0 a k = 0) : headL (primE a d) n = headL (fun _ => (0, true)) n := by
  unfold headL
  refine List.map_congr_left fun k hk => ?_
  simp [primE, h k (List.mem_range.1 hk)]

set_option maxHeartbeats 4000000 in
theorem rprim_law (A : Option Addr) (a : List Int) (ca : Nat) (w : World) (ia : In64 a) (ra : ReadsV w A a) (hl : a.length ≤ 100) :
    Calls Try.prog 28 #[.slice A a.length ca] w (VecPost w.heap.size w (primV a)) := by
  have HE1 : Hid (leastV a = false → primV a = trF a.length (primE a (gcdS a a.length))) := by intro h; unfold primV; rw [h]; rfl
  have HE2 : Hid (leastV a = true → primV a = ([], 3)) := by intro h; unfold primV; rw [h]; rfl
  obtain ⟨i0, hi, hz0, hz1, hz2⟩ := info_parts info64
  have HI := Lib.hid hi
  have HZ0 := Lib.hid hz0
  have HZ1 := Lib.hid hz1
  have HZ2 := Lib.hid hz2
  clear hi hz0 hz1 hz2
  generalize primV a = P at *
  have RA := Lib.hid ra
  clear ra
  have IA := Lib.hid ia
  clear ia
  generalize hg : w.heap.size = g at *
  have HG := Lib.hid hg
  clear hg
  generalize hn : a.length = n at *
  have HN := Lib.hid hn
  clear hn
  go_enter Try.func28, Try.ntmps28
  go_wp2_with fail
  go_loopw [4, 5] (fun v q wr => ∃ k d : Nat, k ≤ n ∧ d ≤ 9223372036854775807 ∧ q = .int .i64 k ∧ v = .int .i64 d ∧ Hid (d = gcdS a k) ∧ Hid (Below g w wr) ∧ Hid (∀ j, j < k → at0 a j ≠ -9223372036854775808)) (fun _ q _ => n - (intOf q).toNat)
  case atStart => exact ⟨0, 0, by omega, by omega, rfl, rfl, rfl, Below.refl _ _, fun j hj => absurd hj (by omega)⟩
  case round =>
    obtain ⟨k, d, hk, hd, rfl, rfl, HK, B1, HT⟩ := hrel
    by_cases hlt : k < n
    · obtain ⟨ba, oa, e1, hx⟩ := at_of_reads (RA.out.below B1.out (by rw [HG.out]; exact Nat.le_refl _)) k (by rw [HN.out]; exact hlt)
      subst e1
      have HX : Hid (at0 a k = -9223372036854775808 → P = ([], 3)) := fun h => HE2.out (leastV_yes k (by rw [HN.out]; exact hlt) h)
      have HY : Hid (at0 a k ≠ -9223372036854775808 → ∀ j, j < k + 1 → at0 a j ≠ -9223372036854775808) := fun h j hj => by
        by_cases e : j < k
        · exact HT.out j e
        · obtain rfl : j = k := by omega
          exact h
      have HK2 : Hid (Nat.gcd d (at0 a k).natAbs = gcdS a (k + 1)) := by
        show _ = Nat.gcd _ _
        rw [← HK.out]
      have hx1 := (IA.out.at k).1
      have hx2 := (IA.out.at k).2
      generalize at0 a k = x at *
      by_cases hxy : x = -9223372036854775808
      · have E := Lib.hid (HX.out hxy)
        subst hxy
        go_wp2
        go_ret2
        exact ⟨none, 0, by rw [E.out]; rfl, by rw [E.out]; exact ReadsV.nil _ _, B1.out⟩
      · have HE := Lib.hid (HY.out hxy)
        have z1 : (x == -9223372036854775808) = false := by simpa using hxy
        have hx3 : -9223372036854775807 ≤ x := by omega
        have hz : Nat.gcd d x.natAbs ≤ 9223372036854775807 := by
          rcases Nat.eq_zero_or_pos d with h0 | h0
          · rw [h0, Nat.gcd_zero_left]; omega
          · exact Nat.le_trans (Nat.gcd_le_left _ h0) hd
        have C : Hid (∀ W, Calls Try.prog 49 #[.int .i64 d, .int .i64 (x.natAbs : Int)] W fun e w' => e = .returned (.int .i64 (Nat.gcd d x.natAbs : Nat)) ∧ w' = W) := fun W => (rgcd_law d x.natAbs hd (by omega) W).mono fun _ _ ⟨h1, h2⟩ => ⟨h1, h2.symm⟩
        clear hxy HX HY HT
        generalize Nat.gcd d x.natAbs = z at *
        have hw : IntKind.i64.wrap (-x) = -x := IntWalk.i64_in _ (by omega)
        by_cases hs : 0 ≤ x
        · have hna : (x.natAbs : Int) = x := by omega
          have hmax : max x (-x) = x := by omega
          have hle : -x ≤ x := by omega
          rw [hna] at C
          clear hna
          go_wp2_with fail
          go_quiet ((go_at_call 49; exact Calls.quiet_of_same (C.out _)))
          clear hw hmax
          go_wp2
          go_roundw
          case rel => exact ⟨k + 1, z, by omega, hz, by go_num, rfl, HK2, below_drewN B1.out _, HE⟩
          case measure => simp [intOf]; omega
        · have hna : (x.natAbs : Int) = -x := by omega
          have hmax : max x (-x) = -x := by omega
          have hle : x ≤ -x := by omega
          rw [hna] at C
          clear hna
          go_wp2_with fail
          go_quiet ((go_at_call 49; exact Calls.quiet_of_same (C.out _)))
          clear hw hmax
          go_wp2
          go_roundw
          case rel => exact ⟨k + 1, z, by omega, hz, by go_num, rfl, HK2, below_drewN B1.out _, HE⟩
          case measure => simp [intOf]; omega
    · obtain rfl : k = n := by omega
      have E : Hid (P = trF k (primE a d)) := by
        rw [HK.out]
        refine HE1.out (leastV_no fun j hj => HT.out j ?_)
        rw [HN.out] at hj
        exact hj
      have E2 : Hid (P = (headL (primE a d) k, 0)) := E.out.trans (trF_yes fun _ _ => rfl)
      clear E HE1 HE2
      by_cases h0 : d = 0
      · have HZ : Hid (∀ j, j < k → at0 a j = 0) := fun j hj => gcdS_zero (HK.out.symm.trans h0) j hj
        rw [headL_zero k a d HZ.out] at E2
        have z0 : ((d : Int) == 0) = true := by simp [h0]
        clear h0
        obtain ⟨wo, rfl⟩ : ∃ wo : World, wo = wr := ⟨_, rfl⟩
        go_wp2_with fail
        go_loopw [6, 7] (fun v q wr => ∃ j : Nat, j ≤ k ∧ q = .int .i64 j ∧ Hid (wr.ownsRow g 2 1 v j ((headL (fun _ => (0, true)) j).map (Value.int .i64))) ∧ Hid (Below g w wr)) (fun _ q _ => k - (intOf q).toNat)
        case atStart => exact ⟨0, by omega, rfl, World.ownsRow_nil _ _ _ _, B1.out⟩
        case round =>
          obtain ⟨j, hj, rfl, O, B2⟩ := hrel
          by_cases hlt2 : j < k
          · have hs := B2.out.size
            rw [HG.out] at hs
            have b1 : j + 1 ≤ maxLen := by unfold maxLen; omega
            have b2 : (j + 1) * 8 ≤ 140737488355328 := by omega
            have b3 : g ≤ (wr.alloc (.cells #[.int .i64 0] 2)).heap.size := by rw [World.size_alloc]; omega
            have b4 : Hid (∀ q, u6.ownBlock = some q → g ≤ q) := fun q e => (O.out.lt q e).1
            have BA : Hid (Below g w (wr.alloc (.cells #[.int .i64 0] 2))) := B2.out.alloc hs _
            go_wp2_with (at_builtin; (refine wpList_append_own _ rfl (.tmp 39) (.tmp 40) 22 rfl g 2 i0 (.int .i64 0) 1 8 Try.underlying22 HI.out HZ0.out HZ1.out HZ2.out rfl (by decide) u6 j _ rfl (O.out.alloc _) ⟨wr.heap.size, 0, none⟩ 1 1 [.int .i64 0] rfl rfl (cell_one_new _ _ _) (one_cells 0) b1 b2 b3 ?_); intro v' w5 hown' hgrow _)
            have O5 : Hid (w5.ownsRow g 2 1 v' (j + 1) ((headL (fun _ => (0, true)) (j + 1)).map (Value.int .i64))) := by
              show World.ownsRow _ _ _ _ _ _ _
              rw [headL_snoc, List.map_append]
              exact hown'
            have B5 : Hid (Below g w w5) := BA.out.grown hgrow b3 b4.out
            clear hown' hgrow
            go_wp2
            go_roundw
            case rel => exact ⟨j + 1, by omega, by go_num, O5, B5⟩
            case measure => simp [intOf]; omega
          · obtain rfl : j = k := by omega
            obtain ⟨A2, c2, h1, h2⟩ := ReadsV.own O.out
            rw [headL_len] at h1
            subst h1
            go_wp2
            go_ret2
            refine ⟨A2, c2, ?_, by rw [E2.out]; exact h2, B2.out⟩
            rw [E2.out]
            show _ = Ending.returned (.tuple #[.slice _ (headL (fun _ => (0, true)) j).length _, .int .i64 0])
            rw [headL_len]
            rfl
      · have z0 : ((d : Int) == 0) = false := by simp; omega
        have d1 : 1 ≤ d := by omega
        clear h0
        obtain ⟨wo, rfl⟩ : ∃ wo : World, wo = wr := ⟨_, rfl⟩
        go_wp2_with fail
        go_loopw [6, 7] (fun v q wr => ∃ j : Nat, j ≤ k ∧ q = .int .i64 j ∧ Hid (wr.ownsRow g 2 1 v j ((headL (primE a d) j).map (Value.int .i64))) ∧ Hid (Below g w wr)) (fun _ q _ => k - (intOf q).toNat)
        case atStart => exact ⟨0, by omega, rfl, World.ownsRow_nil _ _ _ _, B1.out⟩
        case round =>
          obtain ⟨j, hj, rfl, O, B2⟩ := hrel
          by_cases hlt2 : j < k
          · have hs := B2.out.size
            rw [HG.out] at hs
            obtain ⟨ba, oa, e1, hx⟩ := at_of_reads (RA.out.below B2.out (by rw [HG.out]; exact Nat.le_refl _)) j (by rw [HN.out]; exact hlt2)
            subst e1
            have HZ : Hid (headL (primE a d) (j + 1) = headL (primE a d) j ++ [(at0 a j).tdiv d]) := headL_snoc _ j
            have hx1 := (IA.out.at j).1
            have hx2 := (IA.out.at j).2
            have hnl : at0 a j ≠ -9223372036854775808 := HT.out j hlt2
            have hq : -9223372036854775808 ≤ (at0 a j).tdiv d ∧ (at0 a j).tdiv d ≤ 9223372036854775807 := by
              have := Int.natAbs_tdiv_le_natAbs (at0 a j) d
              omega
            generalize at0 a j = x at *
            have b1 : j + 1 ≤ maxLen := by unfold maxLen; omega
            have b2 : (j + 1) * 8 ≤ 140737488355328 := by omega
            have b3 : g ≤ (wr.alloc (.cells #[.int .i64 (x.tdiv d)] 2)).heap.size := by rw [World.size_alloc]; omega
            have b4 : Hid (∀ q, u6.ownBlock = some q → g ≤ q) := fun q e => (O.out.lt q e).1
            have BA : Hid (Below g w (wr.alloc (.cells #[.int .i64 (x.tdiv d)] 2))) := B2.out.alloc hs _
            go_wp2_with (at_builtin; (refine wpList_append_own _ rfl (.tmp 42) (.tmp 49) 22 rfl g 2 i0 (.int .i64 0) 1 8 Try.underlying22 HI.out HZ0.out HZ1.out HZ2.out rfl (by decide) u6 j _ rfl (O.out.alloc _) ⟨wr.heap.size, 0, none⟩ 1 1 [.int .i64 (x.tdiv d)] rfl rfl (cell_one_new _ _ _) (one_cells _) b1 b2 b3 ?_); intro v' w5 hown' hgrow _)
            have O5 : Hid (w5.ownsRow g 2 1 v' (j + 1) ((headL (primE a d) (j + 1)).map (Value.int .i64))) := by
              show World.ownsRow _ _ _ _ _ _ _
              rw [HZ.out, List.map_append]
              exact hown'
            have B5 : Hid (Below g w w5) := BA.out.grown hgrow b3 b4.out
            clear hown' hgrow
            go_wp2
            go_roundw
            case rel => exact ⟨j + 1, by omega, by go_num, O5, B5⟩
            case measure => simp [intOf]; omega
          · obtain rfl : j = k := by omega
            obtain ⟨A2, c2, h1, h2⟩ := ReadsV.own O.out
            rw [headL_len] at h1
            subst h1
            go_wp2
            go_ret2
            refine ⟨A2, c2, ?_, by rw [E2.out]; exact h2, B2.out⟩
            rw [E2.out]
            show _ = Ending.returned (.tuple #[.slice _ (headL (primE a d) j).length _, .int .i64 0])
            rw [headL_len]
            rfl
end Go.Proofs.Ytcihdecfganohaa
