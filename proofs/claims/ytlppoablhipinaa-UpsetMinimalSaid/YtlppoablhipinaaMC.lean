/- Contracts: the element-wise maximum and minimum, by the program and by the reference. -/
import Derived.Test.YtlppoablhipinaaMB
namespace Go.Proofs.Ytlppoablhipinaa
open Go.RowKit

theorem loop_list (n : Nat) (f g : Nat → Int) (h : ∀ k, k < n → f k = g k) : tab n f = tab n g := tab_congr h
theorem max1 (x y : Int) (w : World) : Calls Try.prog 57 #[.int .i64 x, .int .i64 y] w fun e w' => e = .returned (.int .i64 (max x y)) ∧ w = w' := by
  have hm : max (x : Int) (y : Int) = max x y := rfl
  generalize hz : max x y = z at *
  go_enter Try.func57, Try.ntmps57
  go_wp2
  go_ret
  exact ⟨rfl, rfl⟩
set_option maxHeartbeats 4000000 in
set_option maxRecDepth 100000 in
theorem comb_max (A B : Option Addr) (a b : List Int) (ca cb : Nat) (w : World) (ra : ReadsV w A a) (rb : ReadsV w B b) (hab : b.length = a.length) (hl : a.length * 8 ≤ 140737488351232) :
    Calls Try.prog 56 #[.slice A a.length ca, .slice B b.length cb, .func (.func 57) #[] #[]] w (IsPost w.heap.size w (maxL a b)) := by
  have E : Hid (maxL a b = tab a.length fun k => max (at0 a k) (at0 b k)) := if_pos hab.symm
  have C := Lib.hid max1
  have RA := Lib.hid ra
  have RB := Lib.hid rb
  have HL := Lib.hid hab
  clear ra rb
  rw [hab]
  clear hab
  obtain ⟨i0, hi, hz0, hz1, hz2⟩ := info_parts infoI
  have HI := Lib.hid hi
  have HZ0 := Lib.hid hz0
  have HZ1 := Lib.hid hz1
  have HZ2 := Lib.hid hz2
  clear hi hz0 hz1 hz2
  generalize hn : a.length = n at *
  have HN := Lib.hid hn
  clear hn
  generalize hg : w.heap.size = g at *
  have HG := Lib.hid hg
  clear hg
  go_enter Try.func56, Try.ntmps56
  go_wp2_with (at_make; refine wpList_make_full _ rfl _ _ 28 rfl w.heap.size 3 i0 (.int .i64 0) 1 Try.underlying28 HI.out HZ0.out HZ1.out .i64 .i64 _ _ n rfl rfl rfl rfl (by rw [HZ2.out]; omega) (by unfold maxLen; omega) (Nat.le_refl _) ?_; intro w2 hown2 hgrow2)
  rw [HG.out] at hown2
  have O2 : Hid (w2.ownsRow g 3 1 (.slice (some ⟨g, 0, none⟩) n n) n ((tab n fun j => if j < 0 then max (at0 a j) (at0 b j) else 0).map (Value.int .i64))) := by
    show World.ownsRow _ _ _ _ _ _ _
    rw [tab_none]
    have h : w2.ownsRow g 3 1 (.slice (some ⟨g, 0, none⟩) n n) n (madeCells #[.int .i64 0] (n * 1)).toList := hown2
    rw [toList_madeCells_one, Nat.mul_one] at h
    have e : (tab n fun _ => 0).map (Value.int .i64) = List.replicate n (.int .i64 0) := by
      unfold tab
      rw [List.map_map]
      exact List.map_const'.trans (by rw [List.length_range])
    rw [e]
    exact h
  have B2 : Hid (Below g w w2) := (Below.refl g w).grown hgrow2 (by rw [HG.out]; exact Nat.le_refl _) (fun _ h => by cases h)
  clear hown2 hgrow2
  rw [HG.out]
  go_wp2_with fail
  go_loopw [19] (fun q wr => ∃ k : Nat, k ≤ n ∧ q = .int .i64 k ∧ Hid (wr.ownsRow g 3 1 (.slice (some ⟨g, 0, none⟩) n n) n ((tab n fun j => if j < k then max (at0 a j) (at0 b j) else 0).map (Value.int .i64))) ∧ Hid (Below g w wr)) (fun q _ => n - (intOf q).toNat)
  case atStart => exact ⟨0, by omega, rfl, O2, B2⟩
  case round =>
    obtain ⟨k, hk, rfl, O, BB⟩ := hrel
    by_cases hlt : k < n
    · obtain ⟨ba, oa, e1, lx, hx⟩ := RA.out k (by rw [HN.out]; exact hlt)
      subst e1
      rw [HG.out] at lx
      have hx := (BB.out.cell lx).trans hx
      obtain ⟨bb, ob, e2, ly, hy⟩ := RB.out k (by rw [HL.out]; exact hlt)
      subst e2
      rw [HG.out] at ly
      have hy := (BB.out.cell ly).trans hy
      have hz := own_cell O.out k (by rw [tab_len]; exact hlt)
      have fx := O.out.frozenAt k
      have HS := Lib.hid (tab_set n k (fun j => max (at0 a j) (at0 b j)) (fun _ => 0))
      generalize hxa : at0 a k = x at hx
      generalize hyb : at0 b k = y at hy
      generalize at0 (tab n fun j => if j < k then max (at0 a j) (at0 b j) else 0) k = z at hz
      have HX := Lib.hid hxa
      have HY := Lib.hid hyb
      clear hxa hyb
      have OD : Hid (wr.drew.ownsRow g 3 1 (.slice (some ⟨g, 0, none⟩) n n) n ((tab n fun j => if j < k then max (at0 a j) (at0 b j) else 0).map (Value.int .i64))) := own_below O.out (Below.refl _ _).drew (Nat.le_refl _)
      have BD : Hid (Below g w wr.drew) := BB.out.drew
      go_wp2_with fail
      have B7 : Hid (∀ v, Below g wr (wr.setCell ⟨g, k, none⟩ v).drew) := fun v => ((Below.refl g wr).setCell (p := ⟨g, k, none⟩) (Nat.le_refl _) v).drew
      have Z7 : Hid (∀ v, (wr.setCell ⟨g, k, none⟩ v).drew.cell? ⟨g, k, none⟩ = some v) := fun v => by
        show (wr.setCell ⟨g, k, none⟩ v).cell? ⟨g, k, none⟩ = some v
        exact World.cell?_setCell_same' _ _ _ (by rw [hz]; rfl)
      have F7 : Hid (∀ v, (wr.setCell ⟨g, k, none⟩ v).drew.frozen? ⟨g, k, none⟩ = false) := fun v => by
        show (wr.setCell ⟨g, k, none⟩ v).frozen? ⟨g, k, none⟩ = false
        rw [World.frozen?_setCell]; exact fx
      go_region_held3 (fun w' => w'.cell? ⟨ba, oa + k, none⟩ = some (.int .i64 x) ∧ w'.cell? ⟨bb, ob + k, none⟩ = some (.int .i64 y) ∧ (∃ z, w'.cell? ⟨g, k, none⟩ = some (.int .i64 z)) ∧ w'.frozen? ⟨g, k, none⟩ = false)
        (first
          | (go_keep; done)
          | exact ⟨((B7.out _).cell (p := ⟨ba, oa + k, none⟩) lx).trans hx, ((B7.out _).cell (p := ⟨bb, ob + k, none⟩) ly).trans hy, ⟨_, Z7.out _⟩, F7.out _⟩)
        ((go_at_call 57; refine (C.out _ _ _).mono ?_; rintro _ _ ⟨rfl, rfl⟩))
      rename_i hHeld
      clear hHeld B7 Z7 F7
      have O3 : Hid ((wr.setCell ⟨g, k, none⟩ (.int .i64 (max x y))).drew.ownsRow g 3 1 (.slice (some ⟨g, 0, none⟩) n n) n ((tab n fun j => if j < k + 1 then max (at0 a j) (at0 b j) else 0).map (Value.int .i64))) := by
        show World.ownsRow _ _ _ _ _ _ _
        rw [← HS.out, HX.out, HY.out]
        exact own_below (own_put O.out k _) (Below.refl _ _).drew (Nat.le_refl _)
      have B3 : Hid (Below g w (wr.setCell ⟨g, k, none⟩ (.int .i64 (max x y))).drew) := (BB.out.setCell (p := ⟨g, k, none⟩) (Nat.le_refl _) _).drew
      go_wp2
      go_roundw
      case rel => exact ⟨k + 1, by omega, by go_num, O3, B3⟩
      case measure => simp [intOf]; omega
    · obtain rfl : k = n := by omega
      have R2 : Hid (∃ A c, Value.slice (some ⟨g, 0, none⟩) k k = .slice A (maxL a b).length c ∧ FreshV wr A (maxL a b)) := by
        have h := O.out
        rw [tab_all] at h
        rw [E.out]
        exact FreshV.own h
      obtain ⟨A2, c2, e, R3⟩ := R2.out
      replace R3 := Lib.hid R3
      replace e := Lib.hid e
      clear R2
      go_wp2
      go_ret
      exact ⟨A2, c2, congrArg Ending.returned e.out, R3.out, BB.out⟩
theorem max_law (A B : Option Addr) (a b : List Int) (ca cb : Nat) (w : World) (ra : ReadsV w A a) (rb : ReadsV w B b) (hl : a.length * 8 ≤ 140737488351232) :
    Calls Try.prog 45 #[.slice A a.length ca, .slice B b.length cb] w (IsPost w.heap.size w (maxL a b)) := by
  have C : Calls Try.prog 56 #[.slice A a.length ca, .slice B b.length cb, .func (.func 57) #[] #[]] w (IsPost w.heap.size w (maxL a b)) := by
    by_cases h : b.length = a.length
    · exact comb_max A B a b ca cb w ra rb h hl
    · have E : maxL a b = [] := if_neg (fun e => h e.symm)
      rw [E]
      have h2 : ((a.length : Int) != (b.length : Int)) = true := by simp; omega
      clear ra rb
      generalize a.length = n at *
      generalize b.length = m at *
      go_enter Try.func56, Try.ntmps56
      go_wp2
      go_ret
      exact ⟨none, 0, rfl, FreshV.nil _ _, Below.refl _ _⟩
  have C := Lib.hid C
  clear ra rb
  generalize maxL a b = L at *
  generalize a.length = n at *
  generalize b.length = m at *
  go_enter Try.func45, Try.ntmps45
  go_wp2_with fail
  refine C.out.mono ?_
  rintro e w1 ⟨A1, c1, rfl, R1, B1⟩
  go_wp2
  go_ret
  exact ⟨A1, c1, rfl, R1, B1⟩
set_option maxHeartbeats 4000000 in
set_option maxRecDepth 100000 in
theorem rmax_eq (A B : Option Addr) (a b : List Int) (ca cb : Nat) (w : World) (ra : ReadsV w A a) (rb : ReadsV w B b) (hab : b.length = a.length) (hl : a.length * 8 ≤ 140737488351232) :
    Calls Try.prog 46 #[.slice A a.length ca, .slice B b.length cb] w (IsPost w.heap.size w (maxL a b)) := by
  have E : Hid (maxL a b = tab a.length fun k => max (at0 a k) (at0 b k)) := if_pos hab.symm
  have RA := Lib.hid ra
  have RB := Lib.hid rb
  have HL := Lib.hid hab
  clear ra rb
  rw [hab]
  clear hab
  obtain ⟨i0, hi, hz0, hz1, hz2⟩ := info_parts infoI
  have HI := Lib.hid hi
  have HZ0 := Lib.hid hz0
  have HZ1 := Lib.hid hz1
  have HZ2 := Lib.hid hz2
  clear hi hz0 hz1 hz2
  generalize hn : a.length = n at *
  have HN := Lib.hid hn
  clear hn
  generalize hg : w.heap.size = g at *
  have HG := Lib.hid hg
  clear hg
  go_enter Try.func46, Try.ntmps46
  go_wp2_with fail
  go_loopw [5, 6] (fun v q wr => ∃ k : Nat, k ≤ n ∧ q = .int .i64 k ∧ Hid (wr.ownsRow g 3 1 v k ((tab k fun j => max (at0 a j) (at0 b j)).map (Value.int .i64))) ∧ Hid (Below g w wr)) (fun _ q _ => n - (intOf q).toNat)
  case atStart => exact ⟨0, by omega, rfl, World.ownsRow_nil _ _ _ _, Below.refl _ _⟩
  case round =>
    obtain ⟨k, hk, rfl, O, B1⟩ := hrel
    by_cases hlt : k < n
    · have hs := B1.out.size
      rw [HG.out] at hs
      obtain ⟨ba, oa, e1, lx, hx⟩ := RA.out k (by rw [HN.out]; exact hlt)
      subst e1
      rw [HG.out] at lx
      have hx := (B1.out.cell lx).trans hx
      obtain ⟨bb, ob, e2, ly, hy⟩ := RB.out k (by rw [HL.out]; exact hlt)
      subst e2
      rw [HG.out] at ly
      have hy := (B1.out.cell ly).trans hy
      have HZ := Lib.hid (tab_snoc k fun j => max (at0 a j) (at0 b j))
      generalize hxa : at0 a k = x at *
      generalize hyb : at0 b k = y at *
      have b1 : k + 1 ≤ maxLen := by unfold maxLen; omega
      have b2 : (k + 1) * 8 ≤ 140737488355328 := by omega
      have b4 : Hid (∀ q, u5.ownBlock = some q → g ≤ q) := fun q e => (O.out.lt q e).1
      go_wp2_with fail
      have na : u5.ownBlock ≠ some ba := fun e => by have := b4.out _ e; omega
      have nb : u5.ownBlock ≠ some bb := fun e => by have := b4.out _ e; omega
      go_region_held3 (fun w' => w'.cell? ⟨ba, oa + k, none⟩ = some (.int .i64 x) ∧ w'.cell? ⟨bb, ob + k, none⟩ = some (.int .i64 y))
        (first
          | go_keep
          | (go_split_ands
             refine ⟨?_, ?_⟩
             · (rw [hgrow.cell_far _ (by simp; omega) (by first | exact na | exact na.symm)]; assumption)
             · (rw [hgrow.cell_far _ (by simp; omega) (by first | exact nb | exact nb.symm)]; assumption)))
        ((refine step_append_lies _ (by rfl) _ _ _ (by rfl) g 3 i0 _ 1 8 Try.underlying28 HI.out HZ0.out HZ1.out HZ2.out rfl (by omega) u5 k _ (by rfl) ((O.out.alloc _).drew)
            ⟨wr.heap.size, 0, none⟩ 1 1 [_] (by rfl) (by rfl) (World.news_of_block (cs := #[_]) (t := 3) (fr := (0, 0)) (heap_alloc_new wr _)) (by simp [Value.oneCell'])
            (by omega) b1 b2 (by simp; omega) (wr.heap.size + 1) (by simp) ?_; intro gg cap w5 hown' hgrow hat hlt2))
      rename_i hHeld
      clear hHeld
      have O5 : Hid (w5.ownsRow g 3 1 (.slice (some ⟨gg, 0, none⟩) (k + 1) cap) (k + 1) ((tab (k + 1) fun j => max (at0 a j) (at0 b j)).map (Value.int .i64))) := by
        show World.ownsRow _ _ _ _ _ _ _
        rw [HZ.out, List.map_append]
        exact hown'
      have B5 : Hid (Below g w w5) := ((B1.out.alloc hs _).drew).grown hgrow (by show g ≤ (World.alloc wr _).heap.size; rw [World.size_alloc]; omega) b4.out
      clear hown' hgrow
      go_wp2
      go_roundw
      case rel => exact ⟨k + 1, by omega, by go_num, O5, B5⟩
      case measure => simp [intOf]; omega
    · obtain rfl : k = n := by omega
      have R2 : Hid (∃ A c, u5 = .slice A (maxL a b).length c ∧ FreshV wr A (maxL a b)) := by
        have h := O.out
        rw [E.out]
        exact FreshV.own h
      obtain ⟨A2, c2, e, R3⟩ := R2.out
      replace R3 := Lib.hid R3
      subst e
      clear R2 O
      generalize maxL a b = L at *
      go_wp2
      go_ret
      exact ⟨A2, c2, rfl, R3.out, B1.out⟩
theorem rmax_law (A B : Option Addr) (a b : List Int) (ca cb : Nat) (w : World) (ra : ReadsV w A a) (rb : ReadsV w B b) (hl : a.length * 8 ≤ 140737488351232) :
    Calls Try.prog 46 #[.slice A a.length ca, .slice B b.length cb] w (IsPost w.heap.size w (maxL a b)) := by
  by_cases h : b.length = a.length
  · exact rmax_eq A B a b ca cb w ra rb h hl
  · have E : maxL a b = [] := if_neg (fun e => h e.symm)
    rw [E]
    have h2 : ((a.length : Int) != (b.length : Int)) = true := by simp; omega
    clear ra rb
    generalize a.length = n at *
    generalize b.length = m at *
    go_enter Try.func46, Try.ntmps46
    go_wp2
    go_ret
    exact ⟨none, 0, rfl, FreshV.nil _ _, Below.refl _ _⟩
end Go.Proofs.Ytlppoablhipinaa
