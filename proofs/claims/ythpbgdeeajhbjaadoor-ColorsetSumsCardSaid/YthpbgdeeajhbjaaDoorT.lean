/- The reference's sums, differences and order of multisets. -/
import Derived.Test.YthpbgdeeajhbjaaDoorR
import Derived.Deep.RegionHeld3
import Derived.Deep.AppendLies
namespace Go.Proofs.YthpbgdeeajhbjaaDoor
open Go.RowKit

theorem one_cells (x : Int) : ∀ u ∈ [Value.int .i64 x], u.oneCell' = true := by simp [Value.oneCell']

set_option maxHeartbeats 1000000 in
theorem valid04_law (A : Option Addr) (zs : List Int) (cap : Nat) (w : World) (hr : ReadsV w A zs) (hl : zs.length * 8 ≤ 140737488351232) :
    Calls Tryd.prog 41 #[.slice A zs.length cap, .int .i64 zs.length] w fun e w' => e = .returned (.bool (multiB zs)) ∧ w = w' := by
  generalize hS : multiB zs = S
  have HS := Lib.hid hS
  clear hS
  have HR := Lib.hid hr
  clear hr
  generalize hn : zs.length = n at *
  have HN := Lib.hid hn
  clear hn
  go_enter Tryd.func41, Tryd.ntmps41
  go_wp2
  go_loop [5] (fun q => ∃ k : Nat, k ≤ n ∧ q = .int .i64 k ∧ Hid (∀ j, j < k → 0 ≤ at0 zs j ∧ at0 zs j ≤ 1048576)) (fun q => n - (intOf q).toNat)
  case atStart => exact ⟨0, by omega, rfl, fun j hj => absurd hj (by omega)⟩
  case round =>
    obtain ⟨k, hk, rfl, HM⟩ := hrel
    by_cases hlt : k < n
    · obtain ⟨b, off, rfl, hcx⟩ := at_of_reads HR.out k (by rw [HN.out]; exact hlt)
      have HF : Hid (¬ (0 ≤ at0 zs k ∧ at0 zs k ≤ 1048576) → false = S) := by
        intro h
        rw [← HS.out, multi_no k (by rw [HN.out]; exact hlt) h]
      have HT : Hid (0 ≤ at0 zs k ∧ at0 zs k ≤ 1048576 → ∀ j, j < k + 1 → 0 ≤ at0 zs j ∧ at0 zs j ≤ 1048576) := fun h j hj => by
        by_cases e : j < k
        · exact HM.out j e
        · obtain rfl : j = k := by omega
          exact h
      clear HM
      generalize at0 zs k = z at *
      by_cases z1 : z < 0
      · have G := Lib.hid (HF.out (by omega))
        go_wp2
        go_ret
        exact ⟨ret_b G.out, rfl⟩
      by_cases z2 : 1048576 < z
      · have z3 : 0 ≤ z := by omega
        have G := Lib.hid (HF.out (by omega))
        clear z1
        go_wp2
        go_ret
        exact ⟨ret_b G.out, rfl⟩
      · have z3 : 0 ≤ z := by omega
        have z4 : z ≤ 1048576 := by omega
        have G := Lib.hid (HT.out (by omega))
        clear z1 z2
        go_wp2
        go_round
        case rel => exact ⟨k + 1, by omega, by go_num, G⟩
        case measure => simp [intOf]; omega
    · have E : Hid (true = S) := by
        show _ = _
        rw [← HS.out]
        refine (multi_iff.2 fun j hj => HM.out j ?_).symm
        rw [HN.out] at hj
        omega
      go_wp2
      go_ret
      exact ⟨ret_b E.out, rfl⟩
theorem rmulti_law (A : Option Addr) (zs : List Int) (cap : Nat) (w : World) (hr : ReadsV w A zs) (hl : zs.length * 8 ≤ 140737488351232) :
    Calls Tryd.prog 36 #[.slice A zs.length cap] w fun e w' => e = .returned (.bool (multiB zs)) ∧ w = w' := by
  have C := Lib.hid (valid04_law A zs cap w hr hl)
  clear hr
  generalize zs.length = n at *
  generalize multiB zs = S at *
  go_enter Tryd.func36, Tryd.ntmps36
  go_wp2_with fail
  refine C.out.mono ?_
  rintro e w1 ⟨rfl, rfl⟩
  go_wp2
  go_ret
  exact ⟨rfl, rfl⟩
theorem whole_law (A : Option Addr) (zs : List Int) (cap : Nat) (w : World) (hr : ReadsV w A zs) (hl : zs.length * 8 ≤ 140737488351232) :
    Calls Tryd.prog 37 #[.slice A zs.length cap] w fun e w' => e = .returned (if multiB zs = true then .slice A zs.length cap else .slice none 0 0) ∧ w = w' := by
  have C := Lib.hid (rmulti_law A zs cap w hr hl)
  clear hr
  generalize zs.length = n at *
  cases h : multiB zs
  · rw [h] at C
    go_enter Tryd.func37, Tryd.ntmps37
    go_wp2_with fail
    refine C.out.mono ?_
    rintro e w1 ⟨rfl, rfl⟩
    go_wp2
    go_ret
    exact ⟨rfl, rfl⟩
  · rw [h] at C
    go_enter Tryd.func37, Tryd.ntmps37
    go_wp2_with fail
    refine C.out.mono ?_
    rintro e w1 ⟨rfl, rfl⟩
    go_wp2
    go_ret
    exact ⟨rfl, rfl⟩

set_option maxHeartbeats 2000000 in
theorem rleq_law (A B : Option Addr) (a b : List Int) (ca cb : Nat) (w : World) (ra : ReadsV w A a) (rb : ReadsV w B b) (hl : a.length * 8 ≤ 140737488351232) (hm : b.length * 8 ≤ 140737488351232) :
    Calls Tryd.prog 24 #[.slice A a.length ca, .slice B b.length cb] w (BPost w.heap.size w (leqM a b)) := by
  have M1 := Lib.hid (rmulti_law A a ca w ra hl)
  have M2 := Lib.hid (rmulti_law B b cb w rb hm)
  by_cases hlen : a.length = b.length
  rotate_left
  · rw [leqM_no fun h => hlen h.1]
    clear ra rb
    generalize a.length = n at *
    generalize b.length = m at *
    have h1 : (n != m) = true := by simpa using hlen
    have h2 : ((n : Int) != (m : Int)) = true := by simp; omega
    cases h3 : multiB a
    · rw [h3] at M1
      go_enter Tryd.func24, Tryd.ntmps24
      go_wp2_with fail
      refine M1.out.mono ?_
      rintro e w1 ⟨rfl, rfl⟩
      go_wp2_with fail
      go_ret
      exact ⟨rfl, Below.refl _ _⟩
    rw [h3] at M1
    cases h4 : multiB b
    all_goals
      rw [h4] at M2
      go_enter Tryd.func24, Tryd.ntmps24
      go_wp2_with fail
      refine M1.out.mono ?_
      rintro e w1 ⟨rfl, rfl⟩
      go_wp2_with fail
      refine M2.out.mono ?_
      rintro e w1 ⟨rfl, rfl⟩
      go_wp2_with fail
      go_ret
      exact ⟨rfl, Below.refl _ _⟩
  rw [← hlen] at M2 ⊢
  cases h1 : multiB a
  · rw [leqM_no fun h => by rw [h1] at h; exact absurd h.2.1 (by decide)]
    rw [h1] at M1
    clear ra rb h1 hlen hm
    generalize a.length = n at *
    go_enter Tryd.func24, Tryd.ntmps24
    go_wp2_with fail
    refine M1.out.mono ?_
    rintro e w1 ⟨rfl, rfl⟩
    go_wp2_with fail
    go_ret
    exact ⟨rfl, Below.refl _ _⟩
  cases h2 : multiB b
  · rw [leqM_no fun h => by rw [h2] at h; exact absurd h.2.2 (by decide)]
    rw [h1] at M1
    rw [h2] at M2
    clear ra rb h1 h2 hlen hm
    generalize a.length = n at *
    go_enter Tryd.func24, Tryd.ntmps24
    go_wp2_with fail
    refine M1.out.mono ?_
    rintro e w1 ⟨rfl, rfl⟩
    go_wp2_with fail
    refine M2.out.mono ?_
    rintro e w1 ⟨rfl, rfl⟩
    go_wp2_with fail
    go_ret
    exact ⟨rfl, Below.refl _ _⟩
  · rw [h1] at M1
    rw [h2] at M2
    have H1 := Lib.hid h1
    have H2 := Lib.hid h2
    clear h1 h2
    generalize hP : leqM a b = P
    have HP := Lib.hid hP
    clear hP
    have RA := Lib.hid ra
    have RB := Lib.hid rb
    clear ra rb
    generalize hg : w.heap.size = g at *
    have HG := Lib.hid hg
    clear hg
    have HL := Lib.hid hlen
    clear hlen hm
    generalize hn : a.length = n at *
    have HN := Lib.hid hn
    clear hn
    go_enter Tryd.func24, Tryd.ntmps24
    go_wp2_with fail
    refine M1.out.mono ?_
    rintro e w1 ⟨rfl, rfl⟩
    go_wp2_with fail
    refine M2.out.mono ?_
    rintro e w1 ⟨rfl, rfl⟩
    go_wp2_with fail
    go_loopw [5] (fun q wr => ∃ k : Nat, k ≤ n ∧ q = .int .i64 k ∧ Hid (Below g w wr) ∧ Hid (∀ j, j < k → at0 a j ≤ at0 b j)) (fun q _ => n - (intOf q).toNat)
    case atStart => exact ⟨0, by omega, rfl, Below.refl _ _, fun j hj => absurd hj (by omega)⟩
    case round =>
      obtain ⟨k, hk, rfl, B1, HT⟩ := hrel
      by_cases hlt : k < n
      · obtain ⟨ba, oa, e1, hx⟩ := at_of_reads (RA.out.below B1.out (by rw [HG.out]; exact Nat.le_refl _)) k (by rw [HN.out]; exact hlt)
        subst e1
        obtain ⟨bb, ob, e2, hy⟩ := at_of_reads (RB.out.below B1.out (by rw [HG.out]; exact Nat.le_refl _)) k (by rw [← HL.out]; exact hlt)
        subst e2
        have HX : Hid (at0 b k < at0 a k → P = false) := fun h => HP.out.symm.trans (leqM_at k (by rw [HN.out]; exact hlt) h)
        have HY : Hid (at0 a k ≤ at0 b k → ∀ j, j < k + 1 → at0 a j ≤ at0 b j) := fun h j hj => by
          by_cases e : j < k
          · exact HT.out j e
          · obtain rfl : j = k := by omega
            exact h
        generalize at0 a k = x at *
        generalize at0 b k = y at *
        by_cases hxy : y < x
        · have E := Lib.hid (HX.out hxy)
          go_wp2_with fail
          go_quiet (fail)
          go_wp2
          go_ret
          exact ⟨by rw [E.out]; rfl, below_drewN B1.out _⟩
        · have hxy' : x ≤ y := by omega
          have HE := Lib.hid (HY.out hxy')
          clear hxy
          go_wp2_with fail
          go_quiet (fail)
          go_wp2
          go_roundw
          case rel => exact ⟨k + 1, by omega, by go_num, below_drewN B1.out _, HE⟩
          case measure => simp [intOf]; omega
      · have E : Hid (P = true) := by
          refine HP.out.symm.trans (leqM_yes (by rw [HN.out]; exact HL.out) H1.out H2.out fun j hj => HT.out j ?_)
          rw [HN.out] at hj
          omega
        go_wp2
        go_ret
        exact ⟨by rw [E.out]; rfl, B1.out⟩
set_option maxHeartbeats 4000000 in
set_option maxRecDepth 100000 in
theorem radd_law (A B : Option Addr) (a b : List Int) (ca cb : Nat) (w : World) (ra : ReadsV w A a) (rb : ReadsV w B b) (hl : a.length * 8 ≤ 140737488351232) (hm : b.length * 8 ≤ 140737488351232) :
    Calls Tryd.prog 22 #[.slice A a.length ca, .slice B b.length cb] w (IsPost w.heap.size w (addM a b)) := by
  have M1 := Lib.hid (rmulti_law A a ca w ra hl)
  have M2 := Lib.hid (rmulti_law B b cb w rb hm)
  cases h1 : multiB a
  · rw [addM_no fun h => by rw [h1] at h; exact absurd h.1 (by decide)]
    rw [h1] at M1
    clear ra rb
    generalize a.length = n at *
    generalize b.length = m at *
    go_enter Tryd.func22, Tryd.ntmps22
    go_wp2_with fail
    refine M1.out.mono ?_
    rintro e w1 ⟨rfl, rfl⟩
    go_wp2_with fail
    go_ret
    exact ⟨none, 0, rfl, ReadsV.nil _ _, Below.refl _ _⟩
  rw [h1] at M1
  cases h2 : multiB b
  · rw [addM_no fun h => by rw [h2] at h; exact absurd h.2.1 (by decide)]
    rw [h2] at M2
    clear ra rb
    generalize a.length = n at *
    generalize b.length = m at *
    go_enter Tryd.func22, Tryd.ntmps22
    go_wp2_with fail
    refine M1.out.mono ?_
    rintro e w1 ⟨rfl, rfl⟩
    go_wp2_with fail
    refine M2.out.mono ?_
    rintro e w1 ⟨rfl, rfl⟩
    go_wp2_with fail
    go_ret
    exact ⟨none, 0, rfl, ReadsV.nil _ _, Below.refl _ _⟩
  rw [h2] at M2
  by_cases hlen : a.length = b.length
  rotate_left
  · rw [addM_no fun h => hlen h.2.2.1]
    clear ra rb
    generalize a.length = n at *
    generalize b.length = m at *
    have h3 : (n != m) = true := by simpa using hlen
    have h4 : ((n : Int) != (m : Int)) = true := by simp; omega
    go_enter Tryd.func22, Tryd.ntmps22
    go_wp2_with fail
    refine M1.out.mono ?_
    rintro e w1 ⟨rfl, rfl⟩
    go_wp2_with fail
    refine M2.out.mono ?_
    rintro e w1 ⟨rfl, rfl⟩
    go_wp2_with fail
    go_ret
    exact ⟨none, 0, rfl, ReadsV.nil _ _, Below.refl _ _⟩
  have RA := Lib.hid ra
  have RB := Lib.hid rb
  obtain ⟨i0, hi, hz0, hz1, hz2⟩ := info_parts infoI
  have HI := Lib.hid hi
  have HZ0 := Lib.hid hz0
  have HZ1 := Lib.hid hz1
  have HZ2 := Lib.hid hz2
  clear hi hz0 hz1 hz2
  have KA := Lib.hid (multi_iff.1 h1)
  have KB := Lib.hid (multi_iff.1 h2)
  have EY : Hid (multiB (addS a b) = true → addM a b = addS a b) := fun h => addM_yes ⟨h1, h2, hlen, h⟩
  have EN : Hid (multiB (addS a b) = false → addM a b = []) := fun h => addM_no fun h' => by rw [h] at h'; exact absurd h'.2.2.2 (by decide)
  have W := Lib.hid (fun A2 c2 W (h : ReadsV W A2 (addS a b)) => whole_law A2 (addS a b) c2 W h (by rw [show (addS a b).length = a.length from tab_len _ _]; exact hl))
  rw [show (addS a b).length = a.length from tab_len _ _] at W
  have HL := Lib.hid hlen.symm
  rw [← hlen] at M2 ⊢
  clear ra rb h1 h2 hlen hm
  generalize hn : a.length = n at *
  have HN := Lib.hid hn
  clear hn
  generalize hg : w.heap.size = g at *
  have HG := Lib.hid hg
  clear hg
  go_enter Tryd.func22, Tryd.ntmps22
  go_wp2_with fail
  refine M1.out.mono ?_
  rintro e w1 ⟨rfl, rfl⟩
  go_wp2_with fail
  refine M2.out.mono ?_
  rintro e w1 ⟨rfl, rfl⟩
  go_wp2_with fail
  · go_loopw [5, 6] (fun v q wr => ∃ k : Nat, k ≤ n ∧ q = .int .i64 k ∧ Hid (wr.ownsRow g 3 1 v k ((tab k fun j => at0 a j + at0 b j).map (Value.int .i64))) ∧ Hid (Below g w wr)) (fun _ q _ => n - (intOf q).toNat)
    case atStart => exact ⟨0, by omega, rfl, World.ownsRow_nil _ _ _ _, Below.refl _ _⟩
    case round =>
      obtain ⟨k, hk, rfl, O, B1⟩ := hrel
      by_cases hlt : k < n
      · have hs := B1.out.size
        rw [HG.out] at hs
        obtain ⟨ba, oa, e1, lx, hx⟩ := RA.out k (by rw [HN.out]; exact hlt)
        subst e1
        rw [HG.out] at lx
        have hx := (B1.out.cell lx).trans hx
        obtain ⟨bb, ob, e2, ly, hy⟩ := RB.out k (by rw [HL.out]; exact hlt)
        subst e2
        rw [HG.out] at ly
        have hy := (B1.out.cell ly).trans hy
        have HZ := Lib.hid (tab_snoc k fun j => at0 a j + at0 b j)
        have r1 := KA.out k hlt
        have r2 := KB.out k (by rw [HL.out]; exact hlt)
        generalize hxa : at0 a k = x at *
        generalize hyb : at0 b k = y at *
        have b1 : k + 1 ≤ maxLen := by unfold maxLen; omega
        have b2 : (k + 1) * 8 ≤ 140737488355328 := by omega
        have b4 : Hid (∀ q, u5.ownBlock = some q → g ≤ q) := fun q e => (O.out.lt q e).1
        go_wp2_with fail
        have na : u5.ownBlock ≠ some ba := fun e => by have := b4.out _ e; omega
        have nb : u5.ownBlock ≠ some bb := fun e => by have := b4.out _ e; omega
        go_region_held3 (fun w' => w'.cell? ⟨ba, oa + k, none⟩ = some (.int .i64 x) ∧ w'.cell? ⟨bb, ob + k, none⟩ = some (.int .i64 y))
          (first
            | go_keep
            | (go_split_ands
               refine ⟨?_, ?_⟩
               · (rw [hgrow.cell_far _ (by simp; omega) (by first | exact na | exact na.symm)]; assumption)
               · (rw [hgrow.cell_far _ (by simp; omega) (by first | exact nb | exact nb.symm)]; assumption)))
          ((refine step_append_lies _ (by rfl) _ _ _ (by rfl) g 3 i0 _ 1 8 Tryd.underlying34 HI.out HZ0.out HZ1.out HZ2.out rfl (by omega) u5 k _ (by rfl) ((O.out.alloc _).drew)
              ⟨wr.heap.size, 0, none⟩ 1 1 [_] (by rfl) (by rfl) (World.news_of_block (cs := #[_]) (t := 3) (fr := (0, 0)) (heap_alloc_new wr _)) (by simp [Value.oneCell'])
              (by omega) b1 b2 (by simp; omega) (wr.heap.size + 1) (by simp) ?_; intro gg cap w5 hown' hgrow hat hlt2))
        rename_i hHeld
        clear hHeld
        have b5 : IntKind.i64.wrap (x + y) = x + y := by rw [IntKind.wrap_i64]; omega
        rw [b5] at hown'
        have O5 : Hid (w5.ownsRow g 3 1 (.slice (some ⟨gg, 0, none⟩) (k + 1) cap) (k + 1) ((tab (k + 1) fun j => at0 a j + at0 b j).map (Value.int .i64))) := by
          show World.ownsRow _ _ _ _ _ _ _
          rw [HZ.out, List.map_append]
          exact hown'
        have B5 : Hid (Below g w w5) := ((B1.out.alloc hs _).drew).grown hgrow (by show g ≤ (World.alloc wr _).heap.size; rw [World.size_alloc]; omega) b4.out
        clear hown' hgrow
        go_wp2
        go_roundw
        case rel => exact ⟨k + 1, by omega, by go_num, O5, B5⟩
        case measure => simp [intOf]; omega
      · obtain rfl : k = n := by omega
        obtain ⟨A2, c2, h1, h2⟩ := ReadsV.own O.out
        rw [tab_len] at h1
        subst h1
        have R2 : Hid (ReadsV wr A2 (addS a b)) := by
          unfold addS
          rw [HN.out]
          exact h2
        clear h2 O
        have C3 := Lib.hid (W.out A2 c2 wr R2.out)
        cases h3 : multiB (addS a b)
        · rw [h3] at C3
          have E := Lib.hid (EN.out h3)
          clear h3
          go_wp2_with fail
          refine C3.out.mono ?_
          rintro e w2 ⟨rfl, rfl⟩
          go_wp2_with fail
          go_ret
          exact ⟨none, 0, by rw [E.out]; rfl, by rw [E.out]; exact ReadsV.nil _ _, B1.out⟩
        · rw [h3] at C3
          have E := Lib.hid (EY.out h3)
          clear h3
          go_wp2_with fail
          refine C3.out.mono ?_
          rintro e w2 ⟨rfl, rfl⟩
          go_wp2_with fail
          go_ret
          refine ⟨A2, c2, ?_, by rw [E.out]; exact R2.out, B1.out⟩
          rw [E.out, show (addS a b).length = k from (tab_len _ _).trans HN.out]
          rfl

set_option maxHeartbeats 4000000 in
set_option maxRecDepth 100000 in
theorem rsub_law (A B : Option Addr) (a b : List Int) (ca cb : Nat) (w : World) (ra : ReadsV w A a) (rb : ReadsV w B b) (hl : a.length * 8 ≤ 140737488351232) (hm : b.length * 8 ≤ 140737488351232) :
    Calls Tryd.prog 26 #[.slice A a.length ca, .slice B b.length cb] w (IsPost w.heap.size w (subM a b)) := by
  have C := Lib.hid (rleq_law B A b a cb ca w rb ra hm hl)
  cases h : leqM b a
  · have E : Hid (subM a b = []) := by show _ = _; unfold subM; rw [if_neg (by rw [h]; decide)]
    rw [h] at C
    rw [E.out]
    clear ra rb h E
    generalize a.length = n at *
    generalize b.length = m at *
    go_enter Tryd.func26, Tryd.ntmps26
    go_wp2_with fail
    refine C.out.mono ?_
    rintro e w1 ⟨rfl, B1⟩
    go_wp2
    go_ret
    exact ⟨none, 0, rfl, ReadsV.nil _ _, B1⟩
  obtain ⟨hlen, h1, h2, hle⟩ := leqM_of h
  have E : Hid (subM a b = subS a b) := by show _ = _; unfold subM; rw [if_pos h]
  rw [h] at C
  have KA := Lib.hid (multi_iff.1 h2)
  have KB := Lib.hid (multi_iff.1 h1)
  have RA := Lib.hid ra
  have RB := Lib.hid rb
  have HL := Lib.hid hlen
  clear ra rb h h1 h2 hle hm
  rw [hlen] at C ⊢
  clear hlen
  obtain ⟨i0, hi, hz0, hz1, hz2⟩ := info_parts infoI
  have HI := Lib.hid hi
  have HZ0 := Lib.hid hz0
  have HZ1 := Lib.hid hz1
  have HZ2 := Lib.hid hz2
  clear hi hz0 hz1 hz2
  generalize hn : a.length = n at *
  have HN := Lib.hid hn
  clear hn
  generalize hg : w.heap.size = g at *
  have HG := Lib.hid hg
  clear hg
  go_enter Tryd.func26, Tryd.ntmps26
  go_wp2_with fail
  refine C.out.mono ?_
  rintro e w1 ⟨rfl, B1'⟩
  have B1 := Lib.hid B1'
  clear B1'
  have hs1 := B1.out.size
  rw [HG.out] at hs1
  go_wp2_with fail
  · go_loopw [5, 6] (fun v q wr => ∃ k : Nat, k ≤ n ∧ q = .int .i64 k ∧ Hid (wr.ownsRow g 3 1 v k ((tab k fun j => at0 a j - at0 b j).map (Value.int .i64))) ∧ Hid (Below g w wr)) (fun _ q _ => n - (intOf q).toNat)
    case atStart => exact ⟨0, by omega, rfl, World.ownsRow_nil _ _ _ _, B1⟩
    case round =>
      obtain ⟨k, hk, rfl, O, B1⟩ := hrel
      by_cases hlt : k < n
      · have hs := B1.out.size
        rw [HG.out] at hs
        obtain ⟨ba, oa, e1, lx, hx⟩ := RA.out k (by rw [HN.out]; exact hlt)
        subst e1
        rw [HG.out] at lx
        have hx := (B1.out.cell lx).trans hx
        obtain ⟨bb, ob, e2, ly, hy⟩ := RB.out k (by rw [HL.out]; exact hlt)
        subst e2
        rw [HG.out] at ly
        have hy := (B1.out.cell ly).trans hy
        have HZ := Lib.hid (tab_snoc k fun j => at0 a j - at0 b j)
        have r1 := KA.out k hlt
        have r2 := KB.out k (by rw [HL.out]; exact hlt)
        generalize hxa : at0 a k = x at *
        generalize hyb : at0 b k = y at *
        have b1 : k + 1 ≤ maxLen := by unfold maxLen; omega
        have b2 : (k + 1) * 8 ≤ 140737488355328 := by omega
        have b4 : Hid (∀ q, u5.ownBlock = some q → g ≤ q) := fun q e => (O.out.lt q e).1
        go_wp2_with fail
        have na : u5.ownBlock ≠ some ba := fun e => by have := b4.out _ e; omega
        have nb : u5.ownBlock ≠ some bb := fun e => by have := b4.out _ e; omega
        go_region_held3 (fun w' => w'.cell? ⟨ba, oa + k, none⟩ = some (.int .i64 x) ∧ w'.cell? ⟨bb, ob + k, none⟩ = some (.int .i64 y))
          (first
            | go_keep
            | (go_split_ands
               refine ⟨?_, ?_⟩
               · (rw [hgrow.cell_far _ (by simp; omega) (by first | exact na | exact na.symm)]; assumption)
               · (rw [hgrow.cell_far _ (by simp; omega) (by first | exact nb | exact nb.symm)]; assumption)))
          ((refine step_append_lies _ (by rfl) _ _ _ (by rfl) g 3 i0 _ 1 8 Tryd.underlying34 HI.out HZ0.out HZ1.out HZ2.out rfl (by omega) u5 k _ (by rfl) ((O.out.alloc _).drew)
              ⟨wr.heap.size, 0, none⟩ 1 1 [_] (by rfl) (by rfl) (World.news_of_block (cs := #[_]) (t := 3) (fr := (0, 0)) (heap_alloc_new wr _)) (by simp [Value.oneCell'])
              (by omega) b1 b2 (by simp; omega) (wr.heap.size + 1) (by simp) ?_; intro gg cap w5 hown' hgrow hat hlt2))
        rename_i hHeld
        clear hHeld
        have b5 : IntKind.i64.wrap (x - y) = x - y := by rw [IntKind.wrap_i64]; omega
        rw [b5] at hown'
        have O5 : Hid (w5.ownsRow g 3 1 (.slice (some ⟨gg, 0, none⟩) (k + 1) cap) (k + 1) ((tab (k + 1) fun j => at0 a j - at0 b j).map (Value.int .i64))) := by
          show World.ownsRow _ _ _ _ _ _ _
          rw [HZ.out, List.map_append]
          exact hown'
        have B5 : Hid (Below g w w5) := ((B1.out.alloc hs _).drew).grown hgrow (by show g ≤ (World.alloc wr _).heap.size; rw [World.size_alloc]; omega) b4.out
        clear hown' hgrow
        go_wp2
        go_roundw
        case rel => exact ⟨k + 1, by omega, by go_num, O5, B5⟩
        case measure => simp [intOf]; omega
      · obtain rfl : k = n := by omega
        obtain ⟨A2, c2, h1, h2⟩ := ReadsV.own O.out
        rw [tab_len] at h1
        subst h1
        have R2 : Hid (ReadsV wr A2 (subS a b)) := by
          unfold subS
          rw [HN.out]
          exact h2
        clear h2 O
        go_wp2
        go_ret
        refine ⟨A2, c2, ?_, by rw [E.out]; exact R2.out, B1.out⟩
        rw [E.out, show (subS a b).length = k from (tab_len _ _).trans HN.out]
        rfl
end Go.Proofs.YthpbgdeeajhbjaaDoor
