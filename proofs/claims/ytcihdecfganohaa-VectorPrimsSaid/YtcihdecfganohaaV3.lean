/- Sums, differences, multiples and combinations of vectors. -/
import Derived.Test.YtcihdecfganohaaV2
namespace Go.Proofs.Ytcihdecfganohaa
open Go.RowKit

theorem box_a (w : World) (v : Value) (t : TypeId) (o2 o3 : Obj) : (((w.alloc (.cells #[v] t)).alloc o2).alloc o3).cell? ⟨w.heap.size, 0, none⟩ = some v := by
  have h1 : (⟨w.heap.size, 0, none⟩ : Addr).block < ((w.alloc (.cells #[v] t)).alloc o2).heap.size := by simp; omega
  have h2 : (⟨w.heap.size, 0, none⟩ : Addr).block < (w.alloc (.cells #[v] t)).heap.size := by simp
  rw [World.cell?_alloc_lt (h := h1), World.cell?_alloc_lt (h := h2), World.cell?_alloc_new]
  rfl
theorem box_b (w : World) (v : Value) (t : TypeId) (o1 o3 : Obj) : (((w.alloc o1).alloc (.cells #[v] t)).alloc o3).cell? ⟨w.heap.size + 1, 0, none⟩ = some v := by
  have h1 : (⟨w.heap.size + 1, 0, none⟩ : Addr).block < ((w.alloc o1).alloc (.cells #[v] t)).heap.size := by simp
  rw [World.cell?_alloc_lt (h := h1), World.cell?_alloc_at _ _ _ 0 (by simp)]
  rfl
theorem box_c (w : World) (v : Value) (t : TypeId) (o1 o2 : Obj) : (((w.alloc o1).alloc o2).alloc (.cells #[v] t)).cell? ⟨w.heap.size + 1 + 1, 0, none⟩ = some v := by
  rw [World.cell?_alloc_at _ _ _ 0 (by simp)]
  rfl
theorem below3 (w : World) (o1 o2 o3 : Obj) : Below w.heap.size w (((w.alloc o1).alloc o2).alloc o3) :=
  (((Below.refl _ _).alloc (Nat.le_refl _) _).alloc (by simp) _).alloc (by simp; omega) _
theorem box2_a (w : World) (v : Value) (t : TypeId) (o2 : Obj) : ((w.alloc (.cells #[v] t)).alloc o2).cell? ⟨w.heap.size, 0, none⟩ = some v := by
  have h2 : (⟨w.heap.size, 0, none⟩ : Addr).block < (w.alloc (.cells #[v] t)).heap.size := by simp
  rw [World.cell?_alloc_lt (h := h2), World.cell?_alloc_new]
  rfl
theorem box2_b (w : World) (v : Value) (t : TypeId) (o1 : Obj) : ((w.alloc o1).alloc (.cells #[v] t)).cell? ⟨w.heap.size + 1, 0, none⟩ = some v := by
  rw [World.cell?_alloc_at _ _ _ 0 (by simp)]
  rfl
theorem below2 (w : World) (o1 o2 : Obj) : Below w.heap.size w ((w.alloc o1).alloc o2) :=
  ((Below.refl _ _).alloc (Nat.le_refl _) _).alloc (by simp) _
theorem at_of_reads {w : World} {A : Option Addr} {zs : List Int} (h : ReadsV w A zs) (k : Nat) (hk : k < zs.length) : ∃ b off, A = some ⟨b, off, none⟩ ∧ w.cell? ⟨b, off + k, none⟩ = some (.int .i64 (at0 zs k)) := by
  obtain ⟨b, off, h1, _, h2⟩ := h k hk
  exact ⟨b, off, h1, h2⟩

set_option maxHeartbeats 1000000 in
theorem pairwise_add (A B : Option Addr) (a b : List Int) (ca cb : Nat) (w : World) (ia : In64 a) (ib : In64 b) (ra : ReadsV w A a) (rb : ReadsV w B b) (hl : a.length ≤ 100) :
    Calls Try.prog 34 #[.slice A a.length ca, .slice B b.length cb, .func (.func 35) #[] #[]] w (VecPost w.heap.size w (pairF a b (addE a b))) := by
  by_cases hlen : a.length = b.length
  · have e0 : pairF a b (addE a b) = trF a.length (addE a b) := by unfold pairF; rw [if_pos hlen]
    rw [e0]
    clear e0
    have T : Hid (∀ W, Below w.heap.size w W → W.cell? ⟨w.heap.size, 0, none⟩ = some (.slice A a.length ca) → W.cell? ⟨w.heap.size + 1, 0, none⟩ = some (.slice B a.length cb) → W.cell? ⟨w.heap.size + 1 + 1, 0, none⟩ = some (.func (.func 35) #[] #[]) → w.heap.size + 1 + 1 < W.heap.size →
        Calls Try.prog 41 #[.slice A a.length ca, .func (.func 50) #[] #[.pointer (some ⟨w.heap.size + 1 + 1, 0, none⟩), .pointer (some ⟨w.heap.size, 0, none⟩), .pointer (some ⟨w.heap.size + 1, 0, none⟩)]] W (VecPost W.heap.size W (trF a.length (addE a b)))) := by
      intro W hW g1 g2 g3 g4
      refine transform_pw A a.length ca _ _ _ W hl _ fun k W2 hk hb => ?_
      have r1 := (ra.below hW (Nat.le_refl _)).below hb (Nat.le_refl _)
      have r2 := (rb.below hW (Nat.le_refl _)).below hb (Nat.le_refl _)
      obtain ⟨ba, oa, e1, hx⟩ := at_of_reads r1 k hk
      obtain ⟨bb, ob, e2, hy⟩ := at_of_reads r2 k (by omega)
      subst e1 e2
      refine pw_add k a.length ca cb  _ _ _  ba oa bb ob _ _ W2 hk hl  (ia.at k).1 (ia.at k).2 (ib.at k).1 (ib.at k).2  ?_ ?_ ?_ hx hy
      · exact (hb.cell (by exact g4)).trans g3
      · exact (hb.cell (by show w.heap.size < _; omega)).trans g1
      · exact (hb.cell (by show w.heap.size + 1 < _; omega)).trans g2
    clear ra rb
    rw [← hlen]
    clear hlen ia ib hl
    generalize trF a.length (addE a b) = P at *
    generalize a.length = n at *
    go_enter Try.func34, Try.ntmps34
    go_wp2_with fail
    refine (T.out _ (below3 _ _ _ _) (box_a _ _ _ _ _) (box_b _ _ _ _ _) (box_c _ _ _ _ _) (by simp)).mono ?_
    rintro e w1 ⟨A1, c1, rfl, hr, hb⟩
    have hb := Lib.hid hb
    have hr := Lib.hid hr
    go_wp2
    go_ret2
    exact ⟨A1, c1, rfl, hr.out, (below3 _ _ _ _).trans (hb.out.mono (by simp; omega))⟩
  · have e0 : pairF a b (addE a b) = ([], 2) := by unfold pairF; rw [if_neg hlen]
    rw [e0]
    clear e0 ra rb
    generalize a.length = n at *
    generalize b.length = m at *
    have h1 : (n != m) = true := by simpa using hlen
    have h2 : ((n : Int) != (m : Int)) = true := by simp; omega
    go_enter Try.func34, Try.ntmps34
    go_wp2_with fail
    go_ret2
    exact ⟨none, 0, rfl, ReadsV.nil _ _, below3 _ _ _ _⟩

set_option maxHeartbeats 1000000 in
theorem pairwise_sub (A B : Option Addr) (a b : List Int) (ca cb : Nat) (w : World) (ia : In64 a) (ib : In64 b) (ra : ReadsV w A a) (rb : ReadsV w B b) (hl : a.length ≤ 100) :
    Calls Try.prog 34 #[.slice A a.length ca, .slice B b.length cb, .func (.func 36) #[] #[]] w (VecPost w.heap.size w (pairF a b (subE a b))) := by
  by_cases hlen : a.length = b.length
  · have e0 : pairF a b (subE a b) = trF a.length (subE a b) := by unfold pairF; rw [if_pos hlen]
    rw [e0]
    clear e0
    have T : Hid (∀ W, Below w.heap.size w W → W.cell? ⟨w.heap.size, 0, none⟩ = some (.slice A a.length ca) → W.cell? ⟨w.heap.size + 1, 0, none⟩ = some (.slice B a.length cb) → W.cell? ⟨w.heap.size + 1 + 1, 0, none⟩ = some (.func (.func 36) #[] #[]) → w.heap.size + 1 + 1 < W.heap.size →
        Calls Try.prog 41 #[.slice A a.length ca, .func (.func 50) #[] #[.pointer (some ⟨w.heap.size + 1 + 1, 0, none⟩), .pointer (some ⟨w.heap.size, 0, none⟩), .pointer (some ⟨w.heap.size + 1, 0, none⟩)]] W (VecPost W.heap.size W (trF a.length (subE a b)))) := by
      intro W hW g1 g2 g3 g4
      refine transform_pw A a.length ca _ _ _ W hl _ fun k W2 hk hb => ?_
      have r1 := (ra.below hW (Nat.le_refl _)).below hb (Nat.le_refl _)
      have r2 := (rb.below hW (Nat.le_refl _)).below hb (Nat.le_refl _)
      obtain ⟨ba, oa, e1, hx⟩ := at_of_reads r1 k hk
      obtain ⟨bb, ob, e2, hy⟩ := at_of_reads r2 k (by omega)
      subst e1 e2
      refine pw_sub k a.length ca cb  _ _ _  ba oa bb ob _ _ W2 hk hl  (ia.at k).1 (ia.at k).2 (ib.at k).1 (ib.at k).2  ?_ ?_ ?_ hx hy
      · exact (hb.cell (by exact g4)).trans g3
      · exact (hb.cell (by show w.heap.size < _; omega)).trans g1
      · exact (hb.cell (by show w.heap.size + 1 < _; omega)).trans g2
    clear ra rb
    rw [← hlen]
    clear hlen ia ib hl
    generalize trF a.length (subE a b) = P at *
    generalize a.length = n at *
    go_enter Try.func34, Try.ntmps34
    go_wp2_with fail
    refine (T.out _ (below3 _ _ _ _) (box_a _ _ _ _ _) (box_b _ _ _ _ _) (box_c _ _ _ _ _) (by simp)).mono ?_
    rintro e w1 ⟨A1, c1, rfl, hr, hb⟩
    have hb := Lib.hid hb
    have hr := Lib.hid hr
    go_wp2
    go_ret2
    exact ⟨A1, c1, rfl, hr.out, (below3 _ _ _ _).trans (hb.out.mono (by simp; omega))⟩
  · have e0 : pairF a b (subE a b) = ([], 2) := by unfold pairF; rw [if_neg hlen]
    rw [e0]
    clear e0 ra rb
    generalize a.length = n at *
    generalize b.length = m at *
    have h1 : (n != m) = true := by simpa using hlen
    have h2 : ((n : Int) != (m : Int)) = true := by simp; omega
    go_enter Try.func34, Try.ntmps34
    go_wp2_with fail
    go_ret2
    exact ⟨none, 0, rfl, ReadsV.nil _ _, below3 _ _ _ _⟩

set_option maxHeartbeats 1000000 in
theorem pairwise_cmb (A B : Option Addr) (a b : List Int) (ca cb : Nat) (i j : Int) (pI pJ : Addr) (w : World) (ia : In64 a) (ib : In64 b) (ra : ReadsV w A a) (rb : ReadsV w B b) (hl : a.length ≤ 100) (i1 : -9223372036854775808 ≤ i) (i2 : i ≤ 9223372036854775807) (j1 : -9223372036854775808 ≤ j) (j2 : j ≤ 9223372036854775807) (hI : w.cell? pI = some (.int .i64 i)) (hJ : w.cell? pJ = some (.int .i64 j)) :
    Calls Try.prog 34 #[.slice A a.length ca, .slice B b.length cb, .func (.func 43) #[] #[.pointer (some pI), .pointer (some pJ)]] w (VecPost w.heap.size w (pairF a b (cmbE a i b j))) := by
  by_cases hlen : a.length = b.length
  · have e0 : pairF a b (cmbE a i b j) = trF a.length (cmbE a i b j) := by unfold pairF; rw [if_pos hlen]
    rw [e0]
    clear e0
    have T : Hid (∀ W, Below w.heap.size w W → W.cell? ⟨w.heap.size, 0, none⟩ = some (.slice A a.length ca) → W.cell? ⟨w.heap.size + 1, 0, none⟩ = some (.slice B a.length cb) → W.cell? ⟨w.heap.size + 1 + 1, 0, none⟩ = some (.func (.func 43) #[] #[.pointer (some pI), .pointer (some pJ)]) → w.heap.size + 1 + 1 < W.heap.size →
        Calls Try.prog 41 #[.slice A a.length ca, .func (.func 50) #[] #[.pointer (some ⟨w.heap.size + 1 + 1, 0, none⟩), .pointer (some ⟨w.heap.size, 0, none⟩), .pointer (some ⟨w.heap.size + 1, 0, none⟩)]] W (VecPost W.heap.size W (trF a.length (cmbE a i b j)))) := by
      intro W hW g1 g2 g3 g4
      refine transform_pw A a.length ca _ _ _ W hl _ fun k W2 hk hb => ?_
      have r1 := (ra.below hW (Nat.le_refl _)).below hb (Nat.le_refl _)
      have r2 := (rb.below hW (Nat.le_refl _)).below hb (Nat.le_refl _)
      obtain ⟨ba, oa, e1, hx⟩ := at_of_reads r1 k hk
      obtain ⟨bb, ob, e2, hy⟩ := at_of_reads r2 k (by omega)
      subst e1 e2
      refine pw_cmb k a.length ca cb i j _ _ _ pI pJ ba oa bb ob _ _ W2 hk hl i1 i2 j1 j2 (ia.at k).1 (ia.at k).2 (ib.at k).1 (ib.at k).2 ((hb.cell (Nat.lt_of_lt_of_le (World.block_lt_of_cell? w pI hI) hW.size)).trans ((hW.cell (World.block_lt_of_cell? w pI hI)).trans hI)) ((hb.cell (Nat.lt_of_lt_of_le (World.block_lt_of_cell? w pJ hJ) hW.size)).trans ((hW.cell (World.block_lt_of_cell? w pJ hJ)).trans hJ)) (Nat.lt_of_lt_of_le (World.block_lt_of_cell? w pJ hJ) (Nat.le_trans hW.size hb.size)) ?_ ?_ ?_ hx hy
      · exact (hb.cell (by exact g4)).trans g3
      · exact (hb.cell (by show w.heap.size < _; omega)).trans g1
      · exact (hb.cell (by show w.heap.size + 1 < _; omega)).trans g2
    clear ra rb
    rw [← hlen]
    clear hlen ia ib hl
    generalize trF a.length (cmbE a i b j) = P at *
    generalize a.length = n at *
    go_enter Try.func34, Try.ntmps34
    go_wp2_with fail
    refine (T.out _ (below3 _ _ _ _) (box_a _ _ _ _ _) (box_b _ _ _ _ _) (box_c _ _ _ _ _) (by simp)).mono ?_
    rintro e w1 ⟨A1, c1, rfl, hr, hb⟩
    have hb := Lib.hid hb
    have hr := Lib.hid hr
    go_wp2
    go_ret2
    exact ⟨A1, c1, rfl, hr.out, (below3 _ _ _ _).trans (hb.out.mono (by simp; omega))⟩
  · have e0 : pairF a b (cmbE a i b j) = ([], 2) := by unfold pairF; rw [if_neg hlen]
    rw [e0]
    clear e0 ra rb
    generalize a.length = n at *
    generalize b.length = m at *
    have h1 : (n != m) = true := by simpa using hlen
    have h2 : ((n : Int) != (m : Int)) = true := by simp; omega
    go_enter Try.func34, Try.ntmps34
    go_wp2_with fail
    go_ret2
    exact ⟨none, 0, rfl, ReadsV.nil _ _, below3 _ _ _ _⟩

theorem add_law (A B : Option Addr) (a b : List Int) (ca cb : Nat) (w : World) (ia : In64 a) (ib : In64 b) (ra : ReadsV w A a) (rb : ReadsV w B b) (hl : a.length ≤ 100) :
    Calls Try.prog 12 #[.slice A a.length ca, .slice B b.length cb] w (VecPost w.heap.size w (addV a b)) := by
  have C := Lib.hid (pairwise_add A B a b ca cb w ia ib ra rb hl)
  clear ra rb
  unfold addV
  generalize pairF a b (addE a b) = P at *
  generalize a.length = n at *
  generalize b.length = m at *
  go_enter Try.func12, Try.ntmps12
  go_wp2_with fail
  refine C.out.mono ?_
  rintro e w1 ⟨A1, c1, rfl, hr, hb⟩
  have hb := Lib.hid hb
  have hr := Lib.hid hr
  go_wp2
  go_ret2
  exact ⟨A1, c1, rfl, hr.out, hb.out⟩
theorem sub_law (A B : Option Addr) (a b : List Int) (ca cb : Nat) (w : World) (ia : In64 a) (ib : In64 b) (ra : ReadsV w A a) (rb : ReadsV w B b) (hl : a.length ≤ 100) :
    Calls Try.prog 14 #[.slice A a.length ca, .slice B b.length cb] w (VecPost w.heap.size w (subV a b)) := by
  have C := Lib.hid (pairwise_sub A B a b ca cb w ia ib ra rb hl)
  clear ra rb
  unfold subV
  generalize pairF a b (subE a b) = P at *
  generalize a.length = n at *
  generalize b.length = m at *
  go_enter Try.func14, Try.ntmps14
  go_wp2_with fail
  refine C.out.mono ?_
  rintro e w1 ⟨A1, c1, rfl, hr, hb⟩
  have hb := Lib.hid hb
  have hr := Lib.hid hr
  go_wp2
  go_ret2
  exact ⟨A1, c1, rfl, hr.out, hb.out⟩
theorem cmb_law (A B : Option Addr) (a b : List Int) (ca cb : Nat) (i j : Int) (w : World) (ia : In64 a) (ib : In64 b) (ra : ReadsV w A a) (rb : ReadsV w B b) (hl : a.length ≤ 100) (i1 : -9223372036854775808 ≤ i) (i2 : i ≤ 9223372036854775807) (j1 : -9223372036854775808 ≤ j) (j2 : j ≤ 9223372036854775807) :
    Calls Try.prog 21 #[.slice A a.length ca, .int .i64 i, .slice B b.length cb, .int .i64 j] w (VecPost w.heap.size w (cmbV a i b j)) := by
  have C : Hid (∀ W, Below w.heap.size w W → W.cell? ⟨w.heap.size, 0, none⟩ = some (.int .i64 i) → W.cell? ⟨w.heap.size + 1, 0, none⟩ = some (.int .i64 j) → Calls Try.prog 34 #[.slice A a.length ca, .slice B b.length cb, .func (.func 43) #[] #[.pointer (some ⟨w.heap.size, 0, none⟩), .pointer (some ⟨w.heap.size + 1, 0, none⟩)]] W (VecPost W.heap.size W (pairF a b (cmbE a i b j)))) :=
    fun W hW g1 g2 => pairwise_cmb A B a b ca cb i j _ _ W ia ib (ra.below hW (Nat.le_refl _)) (rb.below hW (Nat.le_refl _)) hl i1 i2 j1 j2 g1 g2
  clear ra rb
  unfold cmbV
  generalize pairF a b (cmbE a i b j) = P at *
  generalize a.length = n at *
  generalize b.length = m at *
  go_enter Try.func21, Try.ntmps21
  go_wp2_with fail
  refine (C.out _ (below2 _ _ _) (box2_a _ _ _ _) (box2_b _ _ _ _)).mono ?_
  rintro e w1 ⟨A1, c1, rfl, hr, hb⟩
  have hb := Lib.hid hb
  have hr := Lib.hid hr
  go_wp2
  go_ret2
  exact ⟨A1, c1, rfl, hr.out, (below2 _ _ _).trans (hb.out.mono (by simp; omega))⟩
theorem scl_law (A : Option Addr) (a : List Int) (ca : Nat) (s : Int) (w : World) (ia : In64 a) (ra : ReadsV w A a) (hl : a.length ≤ 100) (s1 : -9223372036854775808 ≤ s) (s2 : s ≤ 9223372036854775807) :
    Calls Try.prog 19 #[.slice A a.length ca, .int .i64 s] w (VecPost w.heap.size w (sclV a s)) := by
  have T : Hid (∀ W, Below w.heap.size w W → W.cell? ⟨w.heap.size, 0, none⟩ = some (.slice A a.length ca) → W.cell? ⟨w.heap.size + 1, 0, none⟩ = some (.int .i64 s) → w.heap.size + 1 < W.heap.size →
      Calls Try.prog 41 #[.slice A a.length ca, .func (.func 42) #[] #[.pointer (some ⟨w.heap.size, 0, none⟩), .pointer (some ⟨w.heap.size + 1, 0, none⟩)]] W (VecPost W.heap.size W (trF a.length (sclE a s)))) := by
    intro W hW g1 g2 g4
    refine transform_sc A a.length ca _ _ W hl _ fun k W2 hk hb => ?_
    have r1 := (ra.below hW (Nat.le_refl _)).below hb (Nat.le_refl _)
    obtain ⟨ba, oa, e1, hx⟩ := at_of_reads r1 k hk
    subst e1
    refine scl_el k a.length ca s _ _ ba oa _ W2 hk hl (ia.at k).1 (ia.at k).2 s1 s2 ?_ ?_ hx
    · exact (hb.cell (by show w.heap.size + 1 < _; omega)).trans g2
    · exact (hb.cell (by show w.heap.size < _; omega)).trans g1
  clear ra
  unfold sclV
  generalize trF a.length (sclE a s) = P at *
  generalize a.length = n at *
  go_enter Try.func19, Try.ntmps19
  go_wp2_with fail
  refine (T.out _ (below2 _ _ _) (box2_a _ _ _ _) (box2_b _ _ _ _) (by simp)).mono ?_
  rintro e w1 ⟨A1, c1, rfl, hr, hb⟩
  have hb := Lib.hid hb
  have hr := Lib.hid hr
  go_wp2
  go_ret2
  exact ⟨A1, c1, rfl, hr.out, (below2 _ _ _).trans (hb.out.mono (by simp; omega))⟩
end Go.Proofs.Ytcihdecfganohaa
