/- Contracts of the multiples of a multiset, and the law on sums. -/
import Derived.Test.YthpbgdeeajhbjaaDoorT
import Derived.Test.YthpbgdeeajhbjaaDoorO
namespace Go.Proofs.YthpbgdeeajhbjaaDoor
open Go.RowKit

def sclS (a : List Int) (s : Int) : List Int := tab a.length fun k => at0 a k * s
def sclM (a : List Int) (s : Int) : List Int := if 0 ≤ s ∧ multiB a = true ∧ multiB (sclS a s) = true then sclS a s else []
theorem sclM_yes {a : List Int} {s : Int} (h : 0 ≤ s ∧ multiB a = true ∧ multiB (sclS a s) = true) : sclM a s = sclS a s := if_pos h
theorem sclM_no {a : List Int} {s : Int} (h : ¬ (0 ≤ s ∧ multiB a = true ∧ multiB (sclS a s) = true)) : sclM a s = [] := if_neg h
theorem sclM_big {a : List Int} {s : Int} (k : Nat) (hk : k < a.length) (h : 1048576 < at0 a k * s) : sclM a s = [] := sclM_no fun h' => by
  have := (multi_iff.1 h'.2.2) k (by unfold sclS; rw [tab_len]; exact hk)
  unfold sclS at this
  rw [tab_at _ _ _ hk] at this
  omega
theorem quo_lt {x s : Int} (hx : 0 < x) (h : (1048576 : Int).tdiv x < s) : 1048576 < x * s := by
  rw [Int.tdiv_eq_ediv_of_nonneg (by omega)] at h
  have := (Int.ediv_lt_iff_lt_mul hx).1 h
  rw [Int.mul_comm]
  exact this
theorem quo_le {x s : Int} (hx : 0 < x) (h : s ≤ (1048576 : Int).tdiv x) : x * s ≤ 1048576 := by
  rw [Int.tdiv_eq_ediv_of_nonneg (by omega)] at h
  have := (Int.le_ediv_iff_mul_le hx).1 h
  rw [Int.mul_comm]
  exact this
theorem quo_in {x : Int} (hx : 0 < x) : 0 ≤ (1048576 : Int).tdiv x ∧ (1048576 : Int).tdiv x ≤ 1048576 := by
  rw [Int.tdiv_eq_ediv_of_nonneg (by omega)]
  exact ⟨Int.ediv_nonneg (by omega) (by omega), Int.ediv_le_self _ (by omega)⟩

set_option maxHeartbeats 4000000 in
set_option maxRecDepth 100000 in
theorem scale_law (A : Option Addr) (a : List Int) (ca : Nat) (s : Int) (w : World) (ra : ReadsV w A a) (hl : a.length * 8 ≤ 140737488351232) (s1 : -9223372036854775808 ≤ s) (s2 : s ≤ 9223372036854775807) :
    Calls Tryd.prog 27 #[.slice A a.length ca, .int .i64 s] w (IsPost w.heap.size w (sclM a s)) := by
  have M1 := Lib.hid (multi_law A a ca w ra hl)
  by_cases hneg : s < 0
  · rw [sclM_no fun h => by have := h.1; omega]
    clear ra M1
    generalize a.length = n at *
    go_enter Tryd.func27, Tryd.ntmps27
    go_wp2_with fail
    go_ret
    exact ⟨none, 0, rfl, ReadsV.nil _ _, Below.refl _ _⟩
  have hpos : 0 ≤ s := by omega
  clear hneg s1
  cases h1 : multiB a
  · rw [sclM_no fun h => by rw [h1] at h; exact absurd h.2.1 (by decide)]
    rw [h1] at M1
    clear ra h1
    generalize a.length = n at *
    go_enter Tryd.func27, Tryd.ntmps27
    go_wp2_with fail
    refine M1.out.mono ?_
    rintro e w1 ⟨rfl, rfl⟩
    go_wp2_with fail
    go_ret
    exact ⟨none, 0, rfl, ReadsV.nil _ _, Below.refl _ _⟩
  rw [h1] at M1
  have KA := Lib.hid (multi_iff.1 h1)
  have EY : Hid ((∀ k, k < a.length → at0 a k * s ≤ 1048576) → sclM a s = sclS a s) := fun h => sclM_yes ⟨hpos, h1, multi_iff.2 fun k hk => by
    unfold sclS at hk ⊢
    rw [tab_len] at hk
    rw [tab_at _ _ _ hk]
    exact ⟨Int.mul_nonneg (KA.out k hk).1 hpos, h k hk⟩⟩
  have EN : Hid (∀ k, k < a.length → 1048576 < at0 a k * s → sclM a s = []) := fun k hk h => sclM_big k hk h
  have RA := Lib.hid ra
  clear ra h1
  obtain ⟨i0, hi, hz0, hz1, hz2⟩ := info_parts infoI
  have HI := Lib.hid hi
  have HZ0 := Lib.hid hz0
  have HZ1 := Lib.hid hz1
  have HZ2 := Lib.hid hz2
  clear hi hz0 hz1 hz2
  generalize hP : sclM a s = P at *
  clear hP
  generalize hn : a.length = n at *
  have HN := Lib.hid hn
  clear hn
  go_enter Tryd.func27, Tryd.ntmps27
  go_wp2_with fail
  refine M1.out.mono ?_
  rintro e w1 ⟨rfl, rfl⟩
  go_wp2_with (at_make; refine wpList_make_full _ rfl _ _ 34 rfl w.heap.size 3 i0 (.int .i64 0) 1 Tryd.underlying34 HI.out HZ0.out HZ1.out .i64 .i64 _ _ n rfl rfl rfl rfl (by rw [HZ2.out]; omega) (by unfold maxLen; omega) (Nat.le_refl _) ?_; intro w2 hown2 hgrow2)
  have O2 : Hid (w2.ownsRow w.heap.size 3 1 (.slice (some ⟨w.heap.size, 0, none⟩) n n) n ((tab n fun j => if j < 0 then at0 a j * s else 0).map (Value.int .i64))) := by
    show World.ownsRow _ _ _ _ _ _ _
    rw [tab_none]
    have h : w2.ownsRow w.heap.size 3 1 (.slice (some ⟨w.heap.size, 0, none⟩) n n) n (madeCells #[.int .i64 0] (n * 1)).toList := hown2
    rw [toList_madeCells_one, Nat.mul_one] at h
    have e : (tab n fun _ => 0).map (Value.int .i64) = List.replicate n (.int .i64 0) := by
      unfold tab
      rw [List.map_map]
      exact List.map_const'.trans (by rw [List.length_range])
    rw [e]
    exact h
  have B2 : Hid (Below w.heap.size w w2) := (Below.refl _ _).grown hgrow2 (Nat.le_refl _) (fun _ h => by cases h)
  clear hown2 hgrow2
  go_wp2_with fail
  go_loopw [20] (fun q wr => ∃ k : Nat, k ≤ n ∧ q = .int .i64 k ∧ Hid (wr.ownsRow w.heap.size 3 1 (.slice (some ⟨w.heap.size, 0, none⟩) n n) n ((tab n fun j => if j < k then at0 a j * s else 0).map (Value.int .i64))) ∧ Hid (Below w.heap.size w wr) ∧ Hid (∀ j, j < k → at0 a j * s ≤ 1048576)) (fun q _ => n - (intOf q).toNat)
  case atStart => exact ⟨0, by omega, rfl, O2, B2, fun j hj => absurd hj (by omega)⟩
  case round =>
    obtain ⟨k, hk, rfl, O, BB, HT⟩ := hrel
    by_cases hlt : k < n
    · obtain ⟨ba, oa, e1, hx⟩ := at_of_reads (RA.out.below BB.out (Nat.le_refl _)) k (by rw [HN.out]; exact hlt)
      subst e1
      have hz := own_cell O.out k (by rw [tab_len]; exact hlt)
      have fx := O.out.frozenAt k
      have r1 := KA.out k hlt
      have E := Lib.hid (EN.out k hlt)
      have HS := Lib.hid (tab_set n k (fun j => at0 a j * s) (fun _ => 0))
      have HU : Hid (at0 a k * s ≤ 1048576 → ∀ j, j < k + 1 → at0 a j * s ≤ 1048576) := fun h j hj => by
        by_cases e : j < k
        · exact HT.out j e
        · obtain rfl : j = k := by omega
          exact h
      generalize at0 (tab n fun j => if j < k then at0 a j * s else 0) k = z at hz
      generalize hxa : at0 a k = x at *
      have HX := Lib.hid hxa
      clear hxa HT
      have hp0 := Int.mul_nonneg r1.1 hpos
      by_cases hx0 : 0 < x
      · obtain ⟨q1, q2⟩ := quo_in hx0
        by_cases hq : (1048576 : Int).tdiv x < s
        · have E2 := Lib.hid (E.out (quo_lt hx0 hq))
          generalize x * s = p at *
          go_wp2_with fail
          go_ret
          exact ⟨none, 0, by rw [E2.out]; rfl, by rw [E2.out]; exact ReadsV.nil _ _, BB.out⟩
        · have hq2 : s ≤ (1048576 : Int).tdiv x := by omega
          have hp := quo_le hx0 hq2
          have HV := Lib.hid (HU.out hp)
          clear hq
          go_wp2_with fail
          go_roundw
          case rel =>
            refine ⟨k + 1, by omega, by go_num, ?_, BB.out.setCell (Nat.le_refl _) _, HV⟩
            show World.ownsRow _ _ _ _ _ _ _
            rw [← HS.out, ← HX.out]
            exact own_put O.out k _
          case measure => simp [intOf]; omega
      · have hx1 : x = 0 := by omega
        have hp : x * s ≤ 1048576 := by rw [hx1]; omega
        have HV := Lib.hid (HU.out hp)
        have hx2 : x ≤ 0 := by omega
        clear hx0 hx1
        go_wp2_with fail
        go_roundw
        case rel =>
          refine ⟨k + 1, by omega, by go_num, ?_, BB.out.setCell (Nat.le_refl _) _, HV⟩
          show World.ownsRow _ _ _ _ _ _ _
          rw [← HS.out, ← HX.out]
          exact own_put O.out k _
        case measure => simp [intOf]; omega
    · obtain rfl : k = n := by omega
      have E := Lib.hid (EY.out HT.out)
      have O2 : Hid (wr.ownsRow w.heap.size 3 1 (.slice (some ⟨w.heap.size, 0, none⟩) k k) k ((sclS a s).map (Value.int .i64))) := by
        show World.ownsRow _ _ _ _ _ _ _
        have h := O.out
        rw [tab_all] at h
        unfold sclS
        rw [HN.out]
        exact h
      go_wp2
      go_ret
      obtain ⟨A3, c3, e3, R3⟩ := ReadsV.own O2.out
      injection e3 with e4 _ e6
      refine ⟨A3, c3, ?_, by rw [E.out]; exact R3, BB.out⟩
      rw [E.out, show (sclS a s).length = k from (tab_len _ _).trans HN.out, ← e4, ← e6]
      rfl

set_option maxHeartbeats 4000000 in
set_option maxRecDepth 100000 in
theorem rscale_law (A : Option Addr) (a : List Int) (ca : Nat) (s : Int) (w : World) (ra : ReadsV w A a) (hl : a.length * 8 ≤ 140737488351232) (s1 : -9223372036854775808 ≤ s) (s2 : s ≤ 9223372036854775807) :
    Calls Tryd.prog 28 #[.slice A a.length ca, .int .i64 s] w (IsPost w.heap.size w (sclM a s)) := by
  have M1 := Lib.hid (rmulti_law A a ca w ra hl)
  cases h1 : multiB a
  · rw [sclM_no fun h => by rw [h1] at h; exact absurd h.2.1 (by decide)]
    rw [h1] at M1
    clear ra h1
    generalize a.length = n at *
    go_enter Tryd.func28, Tryd.ntmps28
    go_wp2_with fail
    refine M1.out.mono ?_
    rintro e w1 ⟨rfl, rfl⟩
    go_wp2_with fail
    go_ret
    exact ⟨none, 0, rfl, ReadsV.nil _ _, Below.refl _ _⟩
  rw [h1] at M1
  by_cases hneg : s < 0
  · rw [sclM_no fun h => by have := h.1; omega]
    clear ra h1
    generalize a.length = n at *
    go_enter Tryd.func28, Tryd.ntmps28
    go_wp2_with fail
    refine M1.out.mono ?_
    rintro e w1 ⟨rfl, rfl⟩
    go_wp2_with fail
    go_ret
    exact ⟨none, 0, rfl, ReadsV.nil _ _, Below.refl _ _⟩
  have hpos : 0 ≤ s := by omega
  clear hneg s1
  have KA := Lib.hid (multi_iff.1 h1)
  have EY : Hid (multiB (sclS a s) = true → sclM a s = sclS a s) := fun h => sclM_yes ⟨hpos, h1, h⟩
  have EX : Hid (multiB (sclS a s) = false → sclM a s = []) := fun h => sclM_no fun h' => by rw [h] at h'; exact absurd h'.2.2 (by decide)
  have EN : Hid (∀ k, k < a.length → 1048576 < at0 a k * s → sclM a s = []) := fun k hk h => sclM_big k hk h
  have WH := Lib.hid (fun A2 c2 W (h : ReadsV W A2 (sclS a s)) => whole_law A2 (sclS a s) c2 W h (by rw [show (sclS a s).length = a.length from tab_len _ _]; exact hl))
  rw [show (sclS a s).length = a.length from tab_len _ _] at WH
  have RA := Lib.hid ra
  clear ra h1
  obtain ⟨i0, hi, hz0, hz1, hz2⟩ := info_parts infoI
  have HI := Lib.hid hi
  have HZ0 := Lib.hid hz0
  have HZ1 := Lib.hid hz1
  have HZ2 := Lib.hid hz2
  clear hi hz0 hz1 hz2
  generalize hP : sclM a s = P at *
  clear hP
  generalize hn : a.length = n at *
  have HN := Lib.hid hn
  clear hn
  generalize hg : w.heap.size = g at *
  have HG := Lib.hid hg
  clear hg
  go_enter Tryd.func28, Tryd.ntmps28
  go_wp2_with fail
  refine M1.out.mono ?_
  rintro e w1 ⟨rfl, rfl⟩
  go_wp2_with fail
  go_loopw [5, 6] (fun v q wr => ∃ k : Nat, k ≤ n ∧ q = .int .i64 k ∧ Hid (wr.ownsRow g 3 1 v k ((tab k fun j => at0 a j * s).map (Value.int .i64))) ∧ Hid (Below g w wr)) (fun _ q _ => n - (intOf q).toNat)
  case atStart => exact ⟨0, by omega, rfl, World.ownsRow_nil _ _ _ _, Below.refl _ _⟩
  case round =>
    obtain ⟨k, hk, rfl, O, B1⟩ := hrel
    by_cases hlt : k < n
    · have hs := B1.out.size
      rw [HG.out] at hs
      obtain ⟨ba, oa, e1, hx⟩ := at_of_reads (RA.out.below B1.out (by rw [HG.out]; exact Nat.le_refl _)) k (by rw [HN.out]; exact hlt)
      subst e1
      have HZ := Lib.hid (tab_snoc k fun j => at0 a j * s)
      have r1 := KA.out k hlt
      have E := Lib.hid (EN.out k hlt)
      generalize hxa : at0 a k = x at *
      have HX := Lib.hid hxa
      clear hxa
      have b1 : k + 1 ≤ maxLen := by unfold maxLen; omega
      have b2 : (k + 1) * 8 ≤ 140737488355328 := by omega
      have b4 : Hid (∀ q, u5.ownBlock = some q → g ≤ q) := fun q e => (O.out.lt q e).1
      by_cases hx0 : x = 0
      · subst hx0
        have b3 : g ≤ (wr.alloc (.cells #[.int .i64 0] 3)).heap.size := by rw [World.size_alloc]; omega
        have BA : Hid (Below g w (wr.alloc (.cells #[.int .i64 0] 3))) := B1.out.alloc hs _
        clear E
        go_wp2_with (at_builtin; (refine wpList_append_own _ rfl (.tmp 34) (.tmp 35) 34 rfl g 3 i0 (.int .i64 0) 1 8 Tryd.underlying34 HI.out HZ0.out HZ1.out HZ2.out rfl (by decide) u5 k _ rfl (O.out.alloc _) ⟨wr.heap.size, 0, none⟩ 1 1 [.int .i64 0] rfl rfl (cell_one_new _ _ _) (one_cells _) b1 b2 b3 ?_); intro v' w5 hown' hgrow _)
        have O5 : Hid (w5.ownsRow g 3 1 v' (k + 1) ((tab (k + 1) fun j => at0 a j * s).map (Value.int .i64))) := by
          show World.ownsRow _ _ _ _ _ _ _
          rw [HZ.out, List.map_append, Int.zero_mul]
          exact hown'
        have B5 : Hid (Below g w w5) := BA.out.grown hgrow b3 b4.out
        clear hown' hgrow
        go_wp2
        go_roundw
        case rel => exact ⟨k + 1, by omega, by go_num, O5, B5⟩
        case measure => simp [intOf]; omega
      · have hx1 : 0 < x := by omega
        by_cases hbig : 1048576 < s
        · have E2 := Lib.hid (E.out (by
            have := Int.mul_le_mul (show (1 : Int) ≤ x by omega) (show (1048577 : Int) ≤ s by omega) (by omega) (by omega)
            omega))
          clear E hx0
          go_wp2_with fail
          go_ret
          exact ⟨none, 0, by rw [E2.out]; rfl, by rw [E2.out]; exact ReadsV.nil _ _, B1.out⟩
        · have hsm : s ≤ 1048576 := by omega
          have hp0 := Int.mul_nonneg r1.1 hpos
          have hp1 : x * s ≤ 1048576 * 1048576 := Int.mul_le_mul r1.2 hsm hpos (by omega)
          have hx2 : (x == 0) = false := by simp; omega
          have b3 : g ≤ (wr.alloc (.cells #[.int .i64 (x * s)] 3)).heap.size := by rw [World.size_alloc]; omega
          have BA : Hid (Below g w (wr.alloc (.cells #[.int .i64 (x * s)] 3))) := B1.out.alloc hs _
          clear E hbig
          go_wp2_with (at_builtin; (refine wpList_append_own _ rfl (.tmp 37) (.tmp 44) 34 rfl g 3 i0 (.int .i64 0) 1 8 Tryd.underlying34 HI.out HZ0.out HZ1.out HZ2.out rfl (by decide) u5 k _ rfl (O.out.alloc _) ⟨wr.heap.size, 0, none⟩ 1 1 [.int .i64 (x * s)] rfl rfl (cell_one_new _ _ _) (one_cells _) b1 b2 b3 ?_); intro v' w5 hown' hgrow _)
          have O5 : Hid (w5.ownsRow g 3 1 v' (k + 1) ((tab (k + 1) fun j => at0 a j * s).map (Value.int .i64))) := by
            show World.ownsRow _ _ _ _ _ _ _
            rw [HZ.out, List.map_append]
            exact hown'
          have B5 : Hid (Below g w w5) := BA.out.grown hgrow b3 b4.out
          clear hown' hgrow
          go_wp2
          go_roundw
          case rel => exact ⟨k + 1, by omega, by go_num, O5, B5⟩
          case measure => simp [intOf]; omega
    · obtain rfl : k = n := by omega
      obtain ⟨A2, c2, h1, h2⟩ := ReadsV.own O.out
      rw [tab_len] at h1
      subst h1
      have R2 : Hid (ReadsV wr A2 (sclS a s)) := by
        unfold sclS
        rw [HN.out]
        exact h2
      clear h2 O
      have C3 := Lib.hid (WH.out A2 c2 wr R2.out)
      cases h3 : multiB (sclS a s)
      · rw [h3] at C3
        have E := Lib.hid (EX.out h3)
        clear h3
        go_wp2_with fail
        refine C3.out.mono ?_
        rintro e w2 ⟨rfl, rfl⟩
        go_wp2_with fail
        go_ret
        exact ⟨none, 0, by rw [E.out]; rfl, by rw [E.out]; exact ReadsV.nil _ _, B1.out⟩
      · rw [h3] at C3
        have E := Lib.hid (EY.out h3)
        clear h3
        go_wp2_with fail
        refine C3.out.mono ?_
        rintro e w2 ⟨rfl, rfl⟩
        go_wp2_with fail
        go_ret
        refine ⟨A2, c2, ?_, by rw [E.out]; exact R2.out, B1.out⟩
        rw [E.out, show (sclS a s).length = k from (tab_len _ _).trans HN.out]
        rfl
end Go.Proofs.YthpbgdeeajhbjaaDoor
