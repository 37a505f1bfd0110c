/- Contracts of the two Of, and of the reference's List, Len, Least, Subset, All, Ints, Next. -/
import Derived.Test.YtnlgfkokaphhjaaBtA
import Derived.Laws.Rows
import Derived.Laws.OwnMore
import Derived.Deep.Draws
import Derived.OwnWalk
import Derived.Maps.AppendAt
import Derived.Deep.QuietTactic
import Derived.BigQuiet
namespace Go.Proofs.Ytnlgfkokaphhjaa.Bt
open Go.RowKit

/-! ### words for memory -/
def vN (L : List Nat) : List Value := L.map fun n : Nat => .int .i64 (n : Int)
def vU (L : List Nat) : List Value := L.map fun n : Nat => .int .u64 (n : Int)
def vI (L : List Int) : List Value := L.map fun x => .int .i64 x
theorem vN_len (L : List Nat) : (vN L).length = L.length := by simp [vN]
theorem vU_len (L : List Nat) : (vU L).length = L.length := by simp [vU]
theorem vI_len (L : List Int) : (vI L).length = L.length := by simp [vI]
theorem vN_snoc (L : List Nat) (n : Nat) : vN (L ++ [n]) = vN L ++ [.int .i64 (n : Int)] := by simp [vN]
theorem vU_snoc (L : List Nat) (n : Nat) : vU (L ++ [n]) = vU L ++ [.int .u64 (n : Int)] := by simp [vU]
theorem vN_at {L : List Nat} {k n : Nat} (h : L[k]? = some n) : (vN L)[k]? = some (.int .i64 (n : Int)) := by simp [vN, h]
theorem vU_at {L : List Nat} {k n : Nat} (h : L[k]? = some n) : (vU L)[k]? = some (.int .u64 (n : Int)) := by simp [vU, h]
theorem vI_at {L : List Int} {k : Nat} {n : Int} (h : L[k]? = some n) : (vI L)[k]? = some (.int .i64 n) := by simp [vI, h]
theorem get_of_lt {α : Type} {L : List α} {k : Nat} (h : k < L.length) : ∃ x, L[k]? = some x := ⟨L[k], List.getElem?_eq_getElem h⟩
def Reads (w : World) (A : Option Addr) (vs : List Value) : Prop :=
  ∀ j v, vs[j]? = some v → ∃ b off, A = some ⟨b, off, none⟩ ∧ b < w.heap.size ∧ w.cell? ⟨b, off + j, none⟩ = some v
theorem Reads.nil (w : World) (A : Option Addr) : Reads w A [] := fun _ _ h => by simp at h
theorem Reads.below {w w' : World} {A : Option Addr} {vs : List Value} {B : Nat} (h : Reads w A vs) (hb : Below B w w') (hB : w.heap.size ≤ B) : Reads w' A vs := fun j v hj => by
  obtain ⟨b, off, e, h1, h2⟩ := h j v hj
  exact ⟨b, off, e, Nat.lt_of_lt_of_le h1 hb.size, (hb.cell (p := ⟨b, off + j, none⟩) (Nat.lt_of_lt_of_le h1 hB)).trans h2⟩
theorem Reads.alloc {w : World} {A : Option Addr} {vs : List Value} (h : Reads w A vs) (o : Obj) : Reads (w.alloc o) A vs := h.below (B := w.heap.size) ((Below.refl _ _).alloc (Nat.le_refl _) _) (Nat.le_refl _)
theorem Reads.own {w : World} {base : Nat} {e : TypeId} {v : Value} {n : Nat} {vs : List Value} (h : w.ownsRow base e 1 v n vs) : vs.length = n ∧ ∃ A c, v = .slice A n c ∧ Reads w A vs := by
  have hl : vs.length = n := by have := h.1; simpa using this
  refine ⟨hl, ?_⟩
  rcases h.2 with ⟨rfl, h0⟩ | ⟨g, cap, cur, rfl, _, hg, _⟩
  · obtain rfl : vs = [] := List.eq_nil_of_length_eq_zero (by omega)
    exact ⟨none, 0, by rw [h0], Reads.nil _ _⟩
  · refine ⟨_, _, rfl, fun j u hj => ⟨_, _, rfl, ?_, ?_⟩⟩
    · have hjl : j < vs.length := (List.getElem?_eq_some_iff.1 hj).1
      have := h.cellAt j (by omega)
      exact World.block_lt_of_cell? w ⟨g, j, none⟩ (by rw [this]; simp [hjl]; rfl)
    · have hjl : j < vs.length := (List.getElem?_eq_some_iff.1 hj).1
      rw [Nat.zero_add, h.cellAt j (by omega), hj]
theorem Reads.at_ {w : World} {A : Option Addr} {vs : List Value} {k : Nat} {v : Value} (h : Reads w A vs) (hk : vs[k]? = some v) : ∃ b off, A = some ⟨b, off, none⟩ ∧ w.cell? ⟨b, off + k, none⟩ = some v := by
  obtain ⟨b, off, h1, _, h2⟩ := h k v hk
  exact ⟨b, off, h1, h2⟩
theorem Reads.drewN {w : World} {A : Option Addr} {vs : List Value} (h : Reads w A vs) (n : Nat) : Reads (w.drewN n) A vs := h
theorem below_drewN {B : Nat} {a w : World} (h : Below B a w) (n : Nat) : Below B a (w.drewN n) := ⟨h.os, h.tape, h.output, h.size, h.block⟩
theorem info_parts {i0 : Option TypeInfo} {z : Option Value} {s b : Nat} (h : i0.map (fun i => (i.zero, i.size, i.bytes)) = some (z, s, b)) : ∃ i, i0 = some i ∧ i.zero = z ∧ i.size = s ∧ i.bytes = b := by
  cases i0 with
  | none => simp at h
  | some i => simp at h; exact ⟨i, rfl, h.1, h.2.1, h.2.2⟩
theorem infoI : (Try.prog.info? 3).map (fun i => (i.zero, i.size, i.bytes)) = some (some (.int .i64 0), 1, 8) := by kernel_rfl
theorem infoU : (Try.prog.info? 26).map (fun i => (i.zero, i.size, i.bytes)) = some (some (.int .u64 0), 1, 8) := by kernel_rfl
theorem one_cellI (x : Int) : ∀ u ∈ [Value.int .i64 x], u.oneCell' = true := by simp [Value.oneCell']
theorem one_cellU (x : Int) : ∀ u ∈ [Value.int .u64 x], u.oneCell' = true := by simp [Value.oneCell']

/-- a slice that reads as vs -/
def ListPost (g : Nat) (w : World) (vs : List Value) (e : Ending) (w' : World) : Prop := ∃ A c, e = .returned (.slice A vs.length c) ∧ Reads w' A vs ∧ Below g w w'
def IntPost (g : Nat) (w : World) (x : Int) (e : Ending) (w' : World) : Prop := e = .returned (.int .i64 x) ∧ Below g w w'
def BoolPost (g : Nat) (w : World) (x : Bool) (e : Ending) (w' : World) : Prop := e = .returned (.bool x) ∧ Below g w w'

/-! ### Of -/
theorem take_snoc {α : Type} {L : List α} {k : Nat} {x : α} (h : L[k]? = some x) : L.take (k + 1) = L.take k ++ [x] := by rw [List.take_add_one, h]; rfl
def lstK (s k : Nat) : List Nat := (List.range k).filter fun i => s.testBit i
theorem lstK_yes {s k : Nat} (h : s.testBit k = true) : lstK s (k + 1) = lstK s k ++ [k] := by
  unfold lstK; rw [List.range_succ, List.filter_append]; simp [h]
theorem lstK_no {s k : Nat} (h : s.testBit k = false) : lstK s (k + 1) = lstK s k := by
  unfold lstK; rw [List.range_succ, List.filter_append]; simp [h]
theorem lstK_le (s k : Nat) : (lstK s k).length ≤ k := by
  have := List.length_filter_le (fun i => s.testBit i) (List.range k)
  simpa [lstK] using this
set_option maxHeartbeats 1000000 in
theorem rlist_any (s : Nat) (w : World) (hs : s < 18446744073709551616) :
    Calls Try.prog 66 #[.int .u64 s] w (ListPost w.heap.size w (vN (lst s))) := by
  obtain ⟨i0, hi, hz0, hz1, hz2⟩ := info_parts infoI
  have HI := Lib.hid hi
  have HZ0 := Lib.hid hz0
  have HZ1 := Lib.hid hz1
  have HZ2 := Lib.hid hz2
  clear hi hz0 hz1 hz2
  have HL : Hid (lst s = lstK s 64) := rfl
  generalize lst s = L at *
  generalize hg : w.heap.size = g at *
  have HG := Lib.hid hg
  clear hg
  go_enter Try.func66, Try.ntmps66
  go_wp2
  go_loopw [3, 4] (fun v q wr => ∃ k m : Nat, k ≤ 64 ∧ m ≤ k ∧ q = .int .i64 k ∧ Hid (wr.ownsRow g 3 1 v m (vN (lstK s k))) ∧ Hid (Below g w wr)) (fun _ q _ => 64 - (intOf q).toNat)
  case atStart => exact ⟨0, 0, by omega, by omega, rfl, World.ownsRow_nil _ _ _ _, Below.refl _ _⟩
  case round =>
    obtain ⟨k, m, hk, hm, rfl, O, B⟩ := hrel
    by_cases hlt : k < 64
    · have hlt' : (k : Int) < 64 := by omega
      have C := rhas_any s (k : Int) wr hs
      rw [hasV_nat s k (by omega)] at C
      have HY := Lib.hid (lstK_yes (s := s) (k := k))
      have HNo := Lib.hid (lstK_no (s := s) (k := k))
      have hsz := B.out.size
      rw [HG.out] at hsz
      cases hb : s.testBit k
      · rw [hb] at C
        have HE := Lib.hid (HNo.out hb)
        have C := Lib.hid C
        clear hb HY HNo
        go_wp2_with fail
        refine C.out.mono ?_
        rintro e w' ⟨rfl, rfl⟩
        go_wp2
        go_roundw
        case rel => exact ⟨k + 1, m, by omega, by omega, by go_num, by show World.ownsRow _ _ _ _ _ _ _; rw [HE.out]; exact O.out, B⟩
        case measure => simp [intOf]; omega
      · rw [hb] at C
        have HE := Lib.hid (HY.out hb)
        have C := Lib.hid C
        clear hb HY HNo
        have b1 : m + 1 ≤ maxLen := by unfold maxLen; omega
        have b2 : (m + 1) * 8 ≤ 140737488355328 := by omega
        have b3 : g ≤ (wr.alloc (.cells #[.int .i64 k] 3)).heap.size := by rw [World.size_alloc]; omega
        have b4 : Hid (∀ q, u3.ownBlock = some q → g ≤ q) := fun q e => (O.out.lt q e).1
        have BA : Hid (Below g w (wr.alloc (.cells #[.int .i64 k] 3))) := B.out.alloc hsz _
        go_wp2_with fail
        refine C.out.mono ?_
        rintro e w' ⟨rfl, rfl⟩
        go_wp2_with (at_builtin; (refine wpList_append_own _ rfl (.tmp 12) (.tmp 14) 34 rfl g 3 i0 (.int .i64 0) 1 8 Try.underlying34 HI.out HZ0.out HZ1.out HZ2.out rfl (by decide) u3 m _ rfl (O.out.alloc _) ⟨wr.heap.size, 0, none⟩ 1 1 [.int .i64 k] rfl rfl (cell_one_new _ _ _) (one_cellI _) b1 b2 b3 ?_); intro v' w5 hown' hgrow _)
        have O5 : Hid (w5.ownsRow g 3 1 v' (m + 1) (vN (lstK s (k + 1)))) := by
          show World.ownsRow _ _ _ _ _ _ _
          rw [HE.out, vN_snoc]
          exact hown'
        have B5 : Hid (Below g w w5) := BA.out.grown hgrow b3 b4.out
        clear hown' hgrow
        go_wp2
        go_roundw
        case rel => exact ⟨k + 1, m + 1, by omega, by omega, by go_num, O5, B5⟩
        case measure => simp [intOf]; omega
    · obtain rfl : k = 64 := by omega
      obtain ⟨hl, A2, c2, h1, h2⟩ := Reads.own O.out
      subst h1
      go_wp2
      go_ret
      rw [← HL.out] at hl h2
      exact ⟨A2, c2, by rw [hl]; rfl, h2, B.out⟩
theorem rlen_any (s : Nat) (w : World) (hs : s < 18446744073709551616) :
    Calls Try.prog 80 #[.int .u64 s] w (IntPost w.heap.size w (card s)) := by
  have C := Lib.hid (rlist_any s w hs)
  have E : Hid ((vN (lst s)).length = card s) := vN_len _
  generalize vN (lst s) = vs at *
  generalize card s = n at *
  go_enter Try.func80, Try.ntmps80
  go_wp2_with fail
  refine C.out.mono ?_
  rintro e w1 ⟨A1, c1, rfl, R1, B1⟩
  go_wp2
  go_ret
  exact ⟨ret_i (by rw [E.out]), B1⟩
def leastV (s : Nat) : Int := match lst s with | [] => -1 | x :: _ => (x : Int)
end Go.Proofs.Ytnlgfkokaphhjaa.Bt
