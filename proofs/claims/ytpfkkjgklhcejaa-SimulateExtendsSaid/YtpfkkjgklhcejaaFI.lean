/- The iterator over the changes of a transition. -/
import Derived.Test.YtpfkkjgklhcejaaFB
import Derived.RangeFuncNested
import Derived.RangeFuncBound
import Derived.RangeFuncCalls
import Derived.RangeFuncLeaves
import Derived.RangeFuncBox
import Derived.Shelf.Abstract
import Derived.Shelf.AbstractIn
import Derived.Shelf.RegionOpen
import Derived.OwnWalkIn
import Derived.TacticsInMore
import Derived.LoopNIn
import Derived.LoopIn
namespace Go.Proofs.Ytpfkkjgklhcejaa
open Go.RowKit Go.Shelf

attribute [local go_sem] Oper.semAt_some

/-- a change of a place, in bounds -/
abbrev Chg (k : Nat) := { a : Int × Int // 0 ≤ a.1 ∧ a.1 < k ∧ -99 ≤ a.2 ∧ a.2 ≤ 99 }
abbrev GoodArcs (k : Nat) (l : List (Int × Int)) : Prop := ∀ a ∈ l, 0 ≤ a.1 ∧ a.1 < k ∧ 1 ≤ a.2 ∧ a.2 ≤ 99
theorem goodArcs_of {k : Nat} {l : List (Int × Int)} (h : arcsE k l = 0) : GoodArcs k l := fun a ha => by
  obtain ⟨j, hj, rfl⟩ := List.getElem_of_mem ha
  have := arcsE_parts h j hj
  have e1 : aP l j = l[j].1 := by simp [aP, List.getElem?_eq_getElem hj]
  have e2 : aW l j = l[j].2 := by simp [aW, List.getElem?_eq_getElem hj]
  rw [e1, e2] at this
  exact ⟨this.1, this.2.1, this.2.2.2.1, this.2.2.2.2⟩
def preC (k : Nat) (l : List (Int × Int)) (h : GoodArcs k l) : List (Chg k) := l.pmap (fun a ha => ⟨(a.1, -a.2), ha.1, ha.2.1, by have := ha.2.2; dsimp only; omega, by have := ha.2.2; dsimp only; omega⟩) h
def postC (k : Nat) (l : List (Int × Int)) (h : GoodArcs k l) : List (Chg k) := l.pmap (fun a ha => ⟨a, ha.1, ha.2.1, by have := ha.2.2; omega, by have := ha.2.2; omega⟩) h
theorem preC_val (k : Nat) (l : List (Int × Int)) (h : GoodArcs k l) : (preC k l h).map (·.1) = l.map fun a => (a.1, -a.2) := by
  unfold preC
  rw [List.map_pmap]
  exact (List.pmap_eq_map ..)
theorem postC_val (k : Nat) (l : List (Int × Int)) (h : GoodArcs k l) : (postC k l h).map (·.1) = l := by
  unfold postC
  rw [List.map_pmap]
  exact (List.pmap_eq_map ..).trans (List.map_id' _)
theorem preC_len (k : Nat) (l : List (Int × Int)) (h : GoodArcs k l) : (preC k l h).length = l.length := by simp [preC]
theorem postC_len (k : Nat) (l : List (Int × Int)) (h : GoodArcs k l) : (postC k l h).length = l.length := by simp [postC]
theorem preC_take {k : Nat} {l : List (Int × Int)} (h : GoodArcs k l) (j : Nat) (hj : j < l.length) : ∃ y : Chg k, y.1 = (aP l j, -aW l j) ∧ (preC k l h).take (j + 1) = (preC k l h).take j ++ [y] := by
  have hj' : j < (preC k l h).length := by rw [preC_len]; exact hj
  refine ⟨(preC k l h)[j], ?_, List.take_succ_eq_append_getElem hj'⟩
  simp [preC, aP, aW, List.getElem?_eq_getElem hj]
theorem postC_take {k : Nat} {l : List (Int × Int)} (h : GoodArcs k l) (j : Nat) (hj : j < l.length) : ∃ y : Chg k, y.1 = (aP l j, aW l j) ∧ (postC k l h).take (j + 1) = (postC k l h).take j ++ [y] := by
  have hj' : j < (postC k l h).length := by rw [postC_len]; exact hj
  refine ⟨(postC k l h)[j], ?_, List.take_succ_eq_append_getElem hj'⟩
  simp [postC, aP, aW, List.getElem?_eq_getElem hj]
/-- what a round keeps: old memory, and the iterator's box -/
def KpB (n₀ Bt : Nat) (W W' : World) : Prop := Below n₀ W W' ∧ (Bt < W.heap.size → W'.heap[Bt]? = W.heap[Bt]?)
theorem kpB_t {n₀ Bt : Nat} {A B C : World} (h : KpB n₀ Bt A B) (k : KpB n₀ Bt B C) : KpB n₀ Bt A C :=
  ⟨h.1.trans k.1, fun hl => (k.2 (Nat.lt_of_lt_of_le hl h.1.size)).trans (h.2 hl)⟩
theorem kpB_alloc {n₀ Bt : Nat} {W : World} (h : n₀ ≤ W.heap.size) (o : Obj) : KpB n₀ Bt W (W.alloc o) :=
  ⟨(Below.refl _ _).alloc h _, fun hl => Below.heap_alloc W o Bt hl⟩
def transCells (x : TransV) : Array Value := #[.string x.nm, .slice x.pre.A x.pre.l.length x.pre.c, .slice x.post.A x.post.l.length x.post.c, .slice x.inh.A x.inh.l.length x.inh.c, .int .i64 x.prio]

set_option maxRecDepth 100000 in
set_option maxHeartbeats 4000000 in
theorem chg_in (n : Nat) (hn : 1 ≤ n) (l Bt n₀ k : Nat) (x : TransV) (h1 : GoodArcs k x.pre.l) (h2 : GoodArcs k x.post.l) (N : Nat) (hN : x.pre.l.length + x.post.l.length ≤ N) (hz1 : x.pre.l.length ≤ 1000) (hz2 : x.post.l.length ≤ 1000)
    (J Jx : List (Chg k) → World → Prop) (hAl : ∀ pre W o, J pre W → J pre (W.alloc o))
    (hY : ∀ pre (y : Chg k) W, J pre W → pre.length < N → YieldAt Fence.wide (n - 1) Try.prog l #[.int .i64 y.1.1, .int .i64 y.1.2] W fun e W' =>
      (e = .returned (.bool true) ∧ J (pre ++ [y]) W' ∧ KpB n₀ Bt W W') ∨ (e = .returned (.bool false) ∧ Jx (pre ++ [y]) W'))
    (W0 W : World) (hB0 : Below n₀ W0 W) (hn0 : W0.heap.size ≤ n₀) (r1 : ReadsA W0 x.pre.A x.pre.l) (r2 : ReadsA W0 x.post.A x.post.l)
    (hBt : W.heap[Bt]? = some (.cells (transCells x) 68 (0, 0))) (hle : n₀ ≤ W.heap.size) (h0 : J [] W) :
    CallsIn Fence.wide n Try.prog 87 #[.func (.yield l) #[] #[], .pointer (some ⟨Bt, 0, none⟩)] W fun e W' => (∃ v, e = .returned v) ∧
      ((∃ ys, ys = preC k x.pre.l h1 ++ postC k x.post.l h2 ∧ J ys W') ∨ (∃ pre, True ∧ Jx pre W')) := by
  have T1 : Hid (∀ j, j < x.pre.l.length → ∃ y : Chg k, y.1 = (aP x.pre.l j, -aW x.pre.l j) ∧ (preC k x.pre.l h1).take (j + 1) = (preC k x.pre.l h1).take j ++ [y]) := fun j hj => preC_take h1 j hj
  have T2 : Hid (∀ j, j < x.post.l.length → ∃ y : Chg k, y.1 = (aP x.post.l j, aW x.post.l j) ∧ (postC k x.post.l h2).take (j + 1) = (postC k x.post.l h2).take j ++ [y]) := fun j hj => postC_take h2 j hj
  have G1 : Hid (∀ j, j < x.pre.l.length → 1 ≤ aW x.pre.l j ∧ aW x.pre.l j ≤ 99) := fun j hj => by
    have := h1 _ (List.getElem_mem hj)
    have e2 : aW x.pre.l j = x.pre.l[j].2 := by simp [aW, List.getElem?_eq_getElem hj]
    rw [e2]; exact this.2.2
  have A1 : Hid ((preC k x.pre.l h1).take x.pre.l.length = preC k x.pre.l h1) := List.take_of_length_le (by rw [preC_len]; exact Nat.le_refl _)
  have A2 : Hid ((postC k x.post.l h2).take x.post.l.length = postC k x.post.l h2) := List.take_of_length_le (by rw [postC_len]; exact Nat.le_refl _)
  have L1 : Hid (∀ j, ((preC k x.pre.l h1).take j).length ≤ x.pre.l.length) := fun j => by rw [List.length_take, preC_len]; omega
  have LT1 : Hid (∀ j, j < x.pre.l.length → ((preC k x.pre.l h1).take j).length < N) := fun j hj => by rw [List.length_take, preC_len]; omega
  have LT2 : Hid (∀ j, j < x.post.l.length → (preC k x.pre.l h1 ++ (postC k x.post.l h2).take j).length < N) := fun j hj => by rw [List.length_append, List.length_take, preC_len, postC_len]; omega
  obtain ⟨P1, hP1⟩ : ∃ P1, P1 = preC k x.pre.l h1 := ⟨_, rfl⟩
  obtain ⟨P2, hP2⟩ : ∃ P2, P2 = postC k x.post.l h2 := ⟨_, rfl⟩
  rw [← hP1] at T1 A1 L1 LT1 LT2 ⊢
  rw [← hP2] at T2 A2 LT2 ⊢
  clear hP1 hP2 h1 h2
  have R1 := Lib.hid r1
  have R2 := Lib.hid r2
  have HBt := Lib.hid hBt
  have HB0 := Lib.hid hB0
  have HAl := Lib.hid hAl
  clear r1 r2 hBt hB0 hAl
  obtain ⟨nm, ⟨a1, c1, l1⟩, ⟨a2, c2, l2⟩, a3, prio⟩ := x
  dsimp only [transCells] at *
  refine callsIn_of_wp Try.func87 rfl trivial ?_ rfl
  simp only [Try.ntmps87, List.size_toArray, List.length_cons, List.length_nil, Nat.reduceAdd, Nat.reduceSub, Array.replicate_succ, Array.replicate_zero, List.push_toArray, List.append_toArray, List.nil_append, List.cons_append]
  have b1 : W.cell? ⟨Bt, 1, none⟩ = some (.slice a1 l1.length c1) := by rw [cell_of_row W Bt 1 _ _ _ HBt.out]; rfl
  have hgt : Bt < W.heap.size := World.block_lt_of_cell? W ⟨Bt, 1, none⟩ b1
  gi_wp2
  gi_loopw [10] (fun p wr => ∃ j : Nat, j ≤ l1.length ∧ p = .int .i64 j ∧ Hid (Below n₀ W0 wr) ∧ Hid (wr.heap[Bt]? = some (.cells #[.string nm, .slice a1 l1.length c1, .slice a2 l2.length c2, .slice a3.A a3.l.length a3.c, .int .i64 prio] 68 (0, 0))) ∧ n₀ ≤ wr.heap.size ∧ J (P1.take j) wr)
    (fun p wr => l1.length - (intOf p).toNat)
  case atStart => exact ⟨0, by omega, rfl, HB0, HBt, hle, h0⟩
  case round =>
    obtain ⟨j, hj, rfl, HB, HT, hsz, hJ⟩ := hrel
    by_cases hlt : j < l1.length
    · obtain ⟨b0, off, rfl, hb0, d0, d1⟩ := (R1.out.below HB.out hn0) j hlt
      obtain ⟨y, hy1, hy2⟩ := T1.out j hlt
      have g1 := (G1.out j hlt)
      have hlen := LT1.out j hlt
      have hJ2 := HAl.out _ _ (.cells #[.int .i64 (aP l1 j), .int .i64 (aW l1 j)] 70) hJ
      have HY := hY (P1.take j) y _ hJ2 hlen
      rw [hy1] at HY
      dsimp only at HY
      have HY2 := Lib.hid hy2
      clear hy1 hy2
      generalize aP l1 j = p at *
      generalize aW l1 j = u at *
      obtain ⟨fn, tmps, assign, body, hy, hR⟩ := HY
      gi_wp2
      refine hR.mono ?_
      rintro e W3 (⟨rfl, hJ3, hk3⟩ | ⟨rfl, hJx3⟩)
      · have hB3 : Hid (Below n₀ W0 W3) := (HB.out.alloc hsz _).trans hk3.1
        have hT3 : Hid (W3.heap[Bt]? = some (.cells #[.string nm, .slice (some ⟨b0, off, none⟩) l1.length c1, .slice a2 l2.length c2, .slice a3.A a3.l.length a3.c, .int .i64 prio] 68 (0, 0))) := by
          have hl : Bt < wr.heap.size := (Array.getElem?_eq_some_iff.1 HT.out).1
          exact ((hk3.2 (by rw [World.size_alloc]; omega)).trans (Below.heap_alloc _ _ _ hl)).trans HT.out
        have hs3 : n₀ ≤ W3.heap.size := by have := hk3.1.size; rw [World.size_alloc] at this; omega
        rw [← HY2.out] at hJ3
        clear hk3
        gi_wp2
        go_roundw
        case rel => exact ⟨j + 1, by omega, by go_num, hB3, hT3, hs3, hJ3⟩
        case measure => simp [intOf]; omega
      · gi_wp2
        refine bodyPost_ret (results_none rfl _ _ _) rfl ?_
        exact ⟨⟨_, rfl⟩, .inr ⟨_, trivial, hJx3⟩⟩
    · obtain rfl : j = l1.length := by omega
      rw [A1.out] at hJ
      have b2 : wr.cell? ⟨Bt, 2, none⟩ = some (.slice a2 l2.length c2) := by rw [cell_of_row wr Bt 2 _ _ _ HT.out]; rfl
      have hgt2 : Bt < wr.heap.size := World.block_lt_of_cell? wr ⟨Bt, 2, none⟩ b2
      have hJ' : J (P1 ++ P2.take 0) wr := by rw [List.take_zero, List.append_nil]; exact hJ
      clear hJ
      gi_wp2
      gi_loopw [26] (fun p wr => ∃ j : Nat, j ≤ l2.length ∧ p = .int .i64 j ∧ Hid (Below n₀ W0 wr) ∧ Hid (wr.heap[Bt]? = some (.cells #[.string nm, .slice a1 l1.length c1, .slice a2 l2.length c2, .slice a3.A a3.l.length a3.c, .int .i64 prio] 68 (0, 0))) ∧ n₀ ≤ wr.heap.size ∧ J (P1 ++ P2.take j) wr)
        (fun p wr => l2.length - (intOf p).toNat)
      case atStart => exact ⟨0, by omega, rfl, HB, HT, hsz, hJ'⟩
      case round =>
        clear b2 hgt2 hJ' hsz HB HT
        obtain ⟨j, hj, rfl, HB, HT, hsz, hJ⟩ := hrel
        by_cases hlt : j < l2.length
        · obtain ⟨b0, off, rfl, hb0, d0, d1⟩ := (R2.out.below HB.out hn0) j hlt
          obtain ⟨y, hy1, hy2⟩ := T2.out j hlt
          have hlen := LT2.out j hlt
          have hJ2 := HAl.out _ _ (.cells #[.int .i64 (aP l2 j), .int .i64 (aW l2 j)] 70) hJ
          have HY := hY (P1 ++ P2.take j) y _ hJ2 hlen
          rw [hy1] at HY
          dsimp only at HY
          have HY2 := Lib.hid hy2
          clear hy1 hy2
          generalize aP l2 j = p at *
          generalize aW l2 j = u at *
          obtain ⟨fn, tmps, assign, body, hy, hR⟩ := HY
          gi_wp2
          refine hR.mono ?_
          rintro e W3 (⟨rfl, hJ3, hk3⟩ | ⟨rfl, hJx3⟩)
          · have hB3 : Hid (Below n₀ W0 W3) := (HB.out.alloc hsz _).trans hk3.1
            have hT3 : Hid (W3.heap[Bt]? = some (.cells #[.string nm, .slice a1 l1.length c1, .slice (some ⟨b0, off, none⟩) l2.length c2, .slice a3.A a3.l.length a3.c, .int .i64 prio] 68 (0, 0))) := by
              have hl : Bt < wr.heap.size := (Array.getElem?_eq_some_iff.1 HT.out).1
              exact ((hk3.2 (by rw [World.size_alloc]; omega)).trans (Below.heap_alloc _ _ _ hl)).trans HT.out
            have hs3 : n₀ ≤ W3.heap.size := by have := hk3.1.size; rw [World.size_alloc] at this; omega
            rw [List.append_assoc, ← HY2.out] at hJ3
            clear hk3
            gi_wp2
            go_roundw
            case rel => exact ⟨j + 1, by omega, by go_num, hB3, hT3, hs3, hJ3⟩
            case measure => simp [intOf]; omega
          · gi_wp2
            refine bodyPost_ret (results_none rfl _ _ _) rfl ?_
            exact ⟨⟨_, rfl⟩, .inr ⟨_, trivial, hJx3⟩⟩
        · obtain rfl : j = l2.length := by omega
          rw [A2.out] at hJ
          gi_wp2
          go_end0
          exact ⟨⟨_, rfl⟩, .inl ⟨_, rfl, hJ⟩⟩
/-- changes(t) hands back the iterator's value -/
theorem changes_in (n : Nat) (x : TransV) (w : World) :
    CallsIn Fence.wide n Try.prog 78 #[.agg (transCells x)] w fun e w' => e = .returned (.func (.func 87) #[] #[.pointer (some ⟨w.heap.size, 0, none⟩)]) ∧ w' = w.alloc (.cells (transCells x) 68) := by
  refine callsIn_of_wp Try.func78 rfl trivial ?_ rfl
  simp only [Try.ntmps78, List.size_toArray, List.length_cons, List.length_nil, Nat.reduceAdd, Nat.reduceSub, Array.replicate_succ, Array.replicate_zero, List.push_toArray, List.append_toArray, List.nil_append, List.cons_append]
  gi_wp2
  go_ret
  exact ⟨rfl, rfl⟩
end Go.Proofs.Ytpfkkjgklhcejaa
