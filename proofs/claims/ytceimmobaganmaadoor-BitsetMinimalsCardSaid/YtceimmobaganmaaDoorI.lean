/- The fixed example, in every world in which the table lies. -/
import Derived.Test.YtceimmobaganmaaDoorH
namespace Go.Proofs.YtceimmobaganmaaDoor
open Go.RowKit Go.Shelf Go.Sort

theorem Reads.block {w : World} {g : Nat} {t : TypeId} {cs : Array Value} {vs : List Value} (h : w.heap[g]? = some (.cells cs t (0, 0))) (hz : cs = vs.toArray) : Reads w (some ⟨g, 0, none⟩) vs := fun j v hj => by
  subst hz
  have hc := cell_of_row w g j _ t (0, 0) h
  have hv : vs.toArray[j]? = some v := by simpa using hj
  refine ⟨g, 0, rfl, ?_, ?_⟩
  · exact World.block_lt_of_cell? w ⟨g, j, none⟩ (by rw [hc]; exact hv)
  · rw [Nat.zero_add, hc]; exact hv
def u1 : U64 := ⟨1, by decide⟩
def u3 : U64 := ⟨3, by decide⟩
def u6 : U64 := ⟨6, by decide⟩
theorem min_ex : minU [u3, u1, u6] = [u1, u6] := by
  obtain ⟨h1, h2, _, _⟩ := minU_spec [u3, u1, u6]
  have c1 : card 1 = 1 := by decide +kernel
  have c6 : card 6 = 2 := by decide +kernel
  have s11 : subV 1 1 = true := by decide +kernel
  have s13 : subV 1 3 = true := by decide +kernel
  have s16 : subV 1 6 = false := by decide +kernel
  have s36 : subV 3 6 = false := by decide +kernel
  have s61 : subV 6 1 = false := by decide +kernel
  have s31 : subV 3 1 = false := by decide +kernel
  refine sorted_ext ltU ltU_asym _ _ h1 (List.pairwise_cons.2 ⟨fun y hy => ?_, List.pairwise_cons.2 ⟨(fun y hy => by cases hy), List.Pairwise.nil⟩⟩) fun x => ?_
  · simp at hy
    subst hy
    unfold ltU u1 u6
    dsimp only
    rw [c1, c6]
    omega
  · rw [h2]
    constructor
    · rintro ⟨hx, hm⟩
      simp only [List.mem_cons, List.not_mem_nil, or_false] at hx ⊢
      rcases hx with e | e | e
      · subst e
        have := hm u1 (by simp) s13
        exact absurd (congrArg U64.val this) (by decide)
      · exact .inl e
      · exact .inr e
    · intro hx
      simp only [List.mem_cons, List.not_mem_nil, or_false] at hx ⊢
      rcases hx with e | e
      · subst e
        refine ⟨.inr (.inl rfl), fun y hy hs => ?_⟩
        rcases hy with e | e | e
        · subst e; exact absurd (s31.symm.trans hs) (by decide)
        · exact e
        · subst e; exact absurd (s61.symm.trans hs) (by decide)
      · subst e
        refine ⟨.inr (.inr rfl), fun y hy hs => ?_⟩
        rcases hy with e | e | e
        · subst e; exact absurd (s36.symm.trans hs) (by decide)
        · subst e; exact absurd (s16.symm.trans hs) (by decide)
        · exact e
theorem ex_next (W : World) : Calls Tryd.prog 8 #[.int .u64 1, .int .u64 5] W fun e w' => e = .returned (.tuple #[.int .u64 4, .bool true]) ∧ W = w' := by
  have h := next_any 1 5 W (by decide) (by decide)
  have e1 : (if subV 1 5 = true ∧ 1 ≠ 5 then nextV 1 5 else 0) = 4 := by decide +kernel
  have e2 : decide (subV 1 5 = true ∧ 1 ≠ 5) = true := by decide +kernel
  rw [e1, e2] at h
  exact h
theorem ex_min (g : Nat) (W : World) (h : W.heap[g]? = some (.cells #[.int .u64 3, .int .u64 1, .int .u64 6] 27 (0, 0))) :
    Calls Tryd.prog 6 #[.slice (some ⟨g, 0, none⟩) 3 3] W (ListPost W.heap.size W [.int .u64 1, .int .u64 6]) := by
  have := minimal_any (some ⟨g, 0, none⟩) [u3, u1, u6] 3 W (Reads.block h rfl) (by decide)
  rw [min_ex] at this
  exact this
theorem ex_list (W : World) (hT : Tab W) : Calls Tryd.prog 9 #[.int .u64 9] W (ListPost W.heap.size W [.int .i64 0, .int .i64 3]) := by
  have h := list_any 9 (by decide) W hT
  have e : lst 9 = [0, 3] := by decide +kernel
  rw [e] at h
  exact h
theorem ex_of (g : Nat) (W : World) (h : W.heap[g]? = some (.cells #[.int .i64 0, .int .i64 3] 3 (0, 0))) :
    Calls Tryd.prog 10 #[.slice (some ⟨g, 0, none⟩) 2 2] W fun e w' => e = .returned (.int .u64 9) ∧ W = w' := by
  have h := of_any (some ⟨g, 0, none⟩) [0, 3] 2 W (Reads.block h rfl) (by decide)
  have e : ofV [0, 3] = 9 := by decide +kernel
  rw [e] at h
  exact h
theorem ex_has (W : World) : Calls Tryd.prog 11 #[.int .u64 4, .int .i64 2] W fun e w' => e = .returned (.bool true) ∧ W = w' := by
  have h := has_any 4 2 W (by decide)
  have e : hasV 4 2 = true := by decide +kernel
  rw [e] at h
  exact h
theorem ex_with (W : World) : Calls Tryd.prog 12 #[.int .u64 4, .int .i64 0] W fun e w' => e = .returned (.int .u64 5) ∧ W = w' := by
  have h := with_any 4 0 W (by decide)
  have e : withV 4 0 = 5 := by decide +kernel
  rw [e] at h
  exact h
theorem ex_without (W : World) : Calls Tryd.prog 13 #[.int .u64 5, .int .i64 0] W fun e w' => e = .returned (.int .u64 4) ∧ W = w' := by
  have h := without_any 5 0 W (by decide)
  have e : woV 5 0 = 4 := by decide +kernel
  rw [e] at h
  exact h
theorem ex_len (W : World) : Calls Tryd.prog 14 #[.int .u64 7] W fun e w' => e = .returned (.int .i64 3) ∧ W = w' := by
  have h := len_any 7 W (by decide)
  have e : card 7 = 3 := by decide +kernel
  rw [e] at h
  exact h
theorem ex_least (W : World) (hT : Tab W) : Calls Tryd.prog 15 #[.int .u64 12] W (IntPost W.heap.size W 2) := by
  have h := least_any 12 (by decide) W hT
  have e : leastV 12 = 2 := by decide +kernel
  rw [e] at h
  exact h
theorem ex_subset (W : World) : Calls Tryd.prog 16 #[.int .u64 1, .int .u64 3] W fun e w' => e = .returned (.bool true) ∧ W = w' := by
  have h := subset_any 1 3 W (by decide) (by decide)
  have e : subV 1 3 = true := by decide +kernel
  rw [e] at h
  exact h
theorem ex_all (W : World) : Calls Tryd.prog 17 #[.int .i64 3] W fun e w' => e = .returned (.int .u64 7) ∧ W = w' := by
  have h := all_any 3 W
  have e : allV 3 = 7 := by decide +kernel
  rw [e] at h
  exact h
set_option maxHeartbeats 4000000 in
set_option maxRecDepth 100000 in
theorem lives_any (w : World) (hT : Tab w) : Calls Tryd.prog 4 #[] w (BoolPost w.heap.size w true) := by
  have hw0 := hT.2
  have HT := Lib.hid hT
  clear hT
  generalize hg : w.heap.size = g at *
  have HG := Lib.hid hg
  clear hg
  go_enter Tryd.func4, Tryd.ntmps4
  go_wp2_with fail
  refine (ex_next _).mono ?_
  rintro e w1 ⟨rfl, rfl⟩
  go_wp2_with fail
  refine (ex_min w.heap.size _ (World.alloc_heap_new _ _)).mono ?_
  rintro e w1 ⟨A1, c1, rfl, R1, B1⟩
  have B1 : Hid (Below g w w1) := ((Below.refl g w).alloc (by rw [HG.out]; exact Nat.le_refl _) _).trans (B1.mono (by rw [World.size_alloc, HG.out]; omega))
  have T1 : Tab w1 := HT.out.below B1.out hw0
  have R1 := Lib.hid R1
  go_wp2_with fail
  refine (ex_list w1 T1).mono ?_
  rintro e w2 ⟨A2, c2, rfl, R2, B2⟩
  have R1' : Hid (Reads w2 A1 [.int .u64 1, .int .u64 6]) := R1.out.below B2 (Nat.le_refl _)
  have B2 : Hid (Below g w w2) := B1.out.trans (B2.mono (by have := B1.out.size; rw [HG.out] at this; exact this))
  have T2 : Tab w2 := HT.out.below B2.out hw0
  obtain ⟨b2, o2, rfl, hx20⟩ := R2.at_ (k := 0) rfl
  obtain ⟨b2', o2', e2, hx21⟩ := R2.at_ (k := 1) rfl
  cases e2
  obtain ⟨b1, o1, rfl, hx10⟩ := R1'.out.at_ (k := 0) rfl
  obtain ⟨b1', o1', e1, hx11⟩ := R1'.out.at_ (k := 1) rfl
  cases e1
  have hb2 : b2 < w2.heap.size := World.block_lt_of_cell? w2 _ hx20
  have hb1 : b1 < w2.heap.size := World.block_lt_of_cell? w2 _ hx10
  rw [Nat.add_zero] at hx10 hx20
  clear R1 R2 R1' B1 T1
  go_wp2_with fail
  refine (ex_of w2.heap.size _ (World.alloc_heap_new _ _)).mono ?_
  rintro e w3 ⟨rfl, rfl⟩
  have T3 : Tab (w2.alloc (.cells #[.int .i64 0, .int .i64 3] 3)) := T2.alloc _
  have B3 : Hid (Below g w (w2.alloc (.cells #[.int .i64 0, .int .i64 3] 3))) := B2.out.alloc (by have := B2.out.size; rw [HG.out] at this; exact this) _
  have kx10 := (World.cell?_alloc_lt w2 (.cells #[.int .i64 0, .int .i64 3] 3) ⟨b1, o1, none⟩ hb1).trans hx10
  have kx11 := (World.cell?_alloc_lt w2 (.cells #[.int .i64 0, .int .i64 3] 3) ⟨b1, o1 + 1, none⟩ hb1).trans hx11
  have kx20 := (World.cell?_alloc_lt w2 (.cells #[.int .i64 0, .int .i64 3] 3) ⟨b2, o2, none⟩ hb2).trans hx20
  have kx21 := (World.cell?_alloc_lt w2 (.cells #[.int .i64 0, .int .i64 3] 3) ⟨b2, o2 + 1, none⟩ hb2).trans hx21
  generalize (w2.alloc (.cells #[.int .i64 0, .int .i64 3] 3)) = w3 at *
  have T3 := Lib.hid T3
  clear T2 B2 hx10 hx11 hx20 hx21
  go_wp2_with fail
  refine (ex_has _).mono ?_
  rintro e w4 ⟨rfl, rfl⟩
  go_wp2_with fail
  refine (ex_with _).mono ?_
  rintro e w4 ⟨rfl, rfl⟩
  go_wp2_with fail
  refine (ex_without _).mono ?_
  rintro e w4 ⟨rfl, rfl⟩
  go_wp2_with fail
  refine (ex_len _).mono ?_
  rintro e w4 ⟨rfl, rfl⟩
  go_wp2_with fail
  refine (ex_least _ T3.out).mono ?_
  rintro e w4 ⟨rfl, B4⟩
  have B4 : Hid (Below g w w4) := B3.out.trans (B4.mono (by have := B3.out.size; rw [HG.out] at this; exact this))
  go_wp2_with fail
  refine (ex_subset _).mono ?_
  rintro e w5 ⟨rfl, rfl⟩
  go_wp2_with fail
  refine (ex_all _).mono ?_
  rintro e w5 ⟨rfl, rfl⟩
  go_wp2
  go_ret
  exact ⟨rfl, B4.out⟩
end Go.Proofs.YtceimmobaganmaaDoor
