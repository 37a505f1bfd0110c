/- strings.SplitSeq at a separator of one byte: the iterator's contract. -/
import Derived.Test.YtengldflpkkkoaaDoorRB
import Derived.Test.YtengldflpkkkoaaDoorSM
import Derived.Test.YtengldflpkkkoaaDoorShelf
import Derived.Shelf.AbstractIn
namespace Go.Proofs.YtengldflpkkkoaaDoor
open Go.RowKit Go.Shelf

attribute [local go_sem] Oper.semAt_some

/-- the length of the text in a box -/
def slen (W : World) (b : Nat) : Nat := match W.cell? ⟨b, 0, none⟩ with | some (.string s) => s.size | _ => 0
theorem slen_box {W : World} {b : Nat} {t : TypeId} {s : ByteArray} (h : Boxed W b t (.string s)) : slen W b = s.size := by unfold slen; rw [h.cell]

theorem text_take (s : List UInt8) (i : Nat) : (⟨s.toArray⟩ : ByteArray).extract 0 i = ⟨(s.take i).toArray⟩ := by
  apply ByteArray.ext
  simp [ByteArray.data_extract]
theorem text_drop (s : List UInt8) (i m : Nat) (h : s.length ≤ m) : (⟨s.toArray⟩ : ByteArray).extract i m = ⟨(s.drop i).toArray⟩ := by
  apply ByteArray.ext
  simp [ByteArray.data_extract]
  rw [List.take_of_length_le (by simp; omega)]

set_option maxRecDepth 100000 in
set_option maxHeartbeats 4000000 in
theorem split_in (n : Nat) (hn : 1 ≤ n) (l B : Nat) (c : UInt8) (s0 : List UInt8) (J Jx : List (List UInt8) → World → Prop) (W : World)
    (hJB : ∀ pre A u v, J pre A → Boxed A B 9 u → J pre (A.setCell ⟨B, 0, none⟩ v))
    (hY : ∀ pre x rest W1, pieces c s0 = pre ++ x :: rest → J pre W1 → YieldAt Fence.wide (n - 1) Tryd.prog l #[.string ⟨x.toArray⟩] W1 fun e W' =>
      (e = .returned (.bool true) ∧ J (pre ++ [x]) W' ∧ KeepB B 3 W1 W') ∨ (e = .returned (.bool false) ∧ Jx (pre ++ [x]) W'))
    (hs0 : s0.length ≤ 4611686018427387904) (b0 : Boxed W B 9 (.string ⟨s0.toArray⟩)) (b1 : Boxed W (B + 1) 9 (.string ⟨#[c]⟩)) (b2 : Boxed W (B + 2) 3 (.int .i64 0)) (h0 : J [] W) :
    CallsIn Fence.wide n Tryd.prog 64 #[.func (.yield l) #[] #[], .pointer (some ⟨B + 1, 0, none⟩), .pointer (some ⟨B, 0, none⟩), .pointer (some ⟨B + 2, 0, none⟩)] W fun e W' => (∃ v, e = .returned v) ∧
      (J (pieces c s0) W' ∨ ∃ pre, pre <+: pieces c s0 ∧ Jx pre W') := by
  generalize hL : pieces c s0 = L at *
  have HL := Lib.hid hL
  clear hL
  have q1 := b1.cell
  refine callsIn_of_wp Tryd.func64 rfl trivial ?_ rfl
  simp only [Tryd.ntmps64, List.size_toArray, List.length_cons, List.length_nil, Nat.reduceAdd, Nat.reduceSub, Array.replicate_succ, Array.replicate_zero, List.push_toArray, List.append_toArray, List.nil_append, List.cons_append]
  gi_wp2
  have hne := Lib.hid (pieces_ne c)
  gi_loopw [] (fun wr => ∃ (pre : List (List UInt8)) (s : List UInt8), Hid (L = pre ++ pieces c s) ∧ s.length ≤ 4611686018427387904 ∧ Boxed wr B 9 (.string ⟨s.toArray⟩) ∧ Boxed wr (B + 1) 9 (.string ⟨#[c]⟩) ∧ Boxed wr (B + 2) 3 (.int .i64 0) ∧ J pre wr)
    (fun wr => slen wr B)
  case atStart =>
    exact ⟨[], s0, HL.out.symm, hs0, b0, b1, b2, h0⟩
  case round =>
    obtain ⟨pre, s, HX, hsl, c0, c1, c2, hJs⟩ := hrel
    have q0 := c0.cell
    have q1 := c1.cell
    have q2 := c2.cell
    have qf := c0.frozen
    have C := Lib.hid (Tryd.strings_Index_one ⟨s.toArray⟩ c)
    rcases indexByte_cases c s with hi | ⟨i, hi⟩
    · have HX2 : Hid (L = pre ++ [s]) := by show _ = _; rw [HX.out, pieces_last c s hi]
      rw [show (⟨s.toArray⟩ : ByteArray).data.toList = s from rfl, hi] at C
      obtain ⟨fn, tmps, assign, body, hy, hR⟩ := hY pre s [] wr (by rw [HX2.out]) hJs
      gi_wp2_with (refine ⟨trivial, ?_⟩; gi_at_call 66; refine (callsIn_wide.2 (C.out _)).mono ?_; rintro e w' ⟨rfl, rfl⟩)
      refine hR.mono ?_
      rintro e W3 (⟨rfl, hJ3, hk3⟩ | ⟨rfl, hJx3⟩)
      · gi_wp2
        go_end0
        exact ⟨⟨_, rfl⟩, .inl (by rw [HX2.out]; exact hJ3)⟩
      · have HP : Hid (pre ++ [s] <+: L) := ⟨[], by rw [HX2.out]; simp⟩
        gi_wp2
        go_end0
        exact ⟨⟨_, rfl⟩, .inr ⟨pre ++ [s], HP.out, hJx3⟩⟩
    · obtain ⟨hlt, hcut⟩ := pieces_cut c s i hi
      have HX2 : Hid (L = pre ++ s.take i :: pieces c (s.drop (i + 1))) := by show _ = _; rw [HX.out, hcut]
      rw [show (⟨s.toArray⟩ : ByteArray).data.toList = s from rfl, hi] at C
      obtain ⟨fn, tmps, assign, body, hy, hR⟩ := hY pre (s.take i) (pieces c (s.drop (i + 1))) wr HX2.out hJs
      have i0 : (0 : Int) ≤ (i : Int) := by omega
      have i1 : (i : Int) ≤ (s.length : Int) := by omega
      have w1 : wrap64 (i : Int) = (i : Int) := by unfold wrap64; omega
      have w2 : wrap64 ((i : Int) + 1) = (i : Int) + 1 := by unfold wrap64; omega
      have i2 : (0 : Int) ≤ (i : Int) + 1 := by omega
      have i3 : (i : Int) + 1 ≤ (s.length : Int) := by omega
      have g1 : ((i : Int) < 0) = False := by simp
      have n1 : ((i : Int) + 1).toNat = i + 1 := by omega
      have T1 := text_take s i
      gi_wp2_with (refine ⟨trivial, ?_⟩; gi_at_call 66; refine (callsIn_wide.2 (C.out _)).mono ?_; rintro e w' ⟨rfl, rfl⟩)
      refine hR.mono ?_
      rintro e W3 (⟨rfl, hJ3, hk3⟩ | ⟨rfl, hJx3⟩)
      · have d0 := hk3.cell (Nat.le_refl _) (by omega) c0
        have d1 := hk3.cell (by omega) (by omega) c1
        have d2 := hk3.cell (by omega) (by omega) c2
        have q0 := d0.cell
        have q1 := d1.cell
        have qf := d0.frozen
        have T2 := text_drop s (i + 1) s.length (Nat.le_refl _)
        gi_wp2
        refine ⟨⟨pre ++ [s.take i], s.drop (i + 1), ?_, by simp; omega, d0.set _, d1.other (by omega) _, d2.other (by omega) _, hJB _ _ _ _ hJ3 d0⟩, ?_⟩
        · show _ = _
          rw [HX2.out]
          simp
        · rw [slen_box (d0.set _), slen_box c0]
          simp [ByteArray.size]
          omega
      · have HP : Hid (pre ++ [s.take i] <+: L) := ⟨pieces c (s.drop (i + 1)), by rw [HX2.out]; simp⟩
        gi_wp2
        refine bodyPost_ret (results_none rfl _ _ _) rfl ?_
        exact ⟨⟨_, rfl⟩, .inr ⟨pre ++ [s.take i], HP.out, hJx3⟩⟩

/-- the world behind SplitSeq: the boxes of the text, of the separator and of what is saved of it -/
def splitW (w : World) (s : ByteArray) (c : UInt8) : World := ((w.alloc (.cells #[.string s] 9)).alloc (.cells #[.string ⟨#[c]⟩] 9)).alloc (.cells #[.int .i64 0] 3)
theorem splitW_below (w : World) (s : ByteArray) (c : UInt8) : Below w.heap.size w (splitW w s c) := (((Below.refl _ w).alloc (Nat.le_refl _) _).alloc (by simp) _).alloc (by simp; omega) _
theorem splitW_size (w : World) (s : ByteArray) (c : UInt8) : (splitW w s c).heap.size = w.heap.size + 3 := by simp [splitW]
theorem split_call (s : ByteArray) (c : UInt8) (w : World) :
    Calls Tryd.prog 40 #[.string s, .string ⟨#[c]⟩] w fun e w' => e = .returned (.func (.func 64) #[] #[.pointer (some ⟨w.heap.size + 1, 0, none⟩), .pointer (some ⟨w.heap.size, 0, none⟩), .pointer (some ⟨w.heap.size + 2, 0, none⟩)]) ∧ splitW w s c = w' := by
  have C : Calls Tryd.prog 50 #[.string s, .string ⟨#[c]⟩, .int .i64 0] w fun e w' => e = .returned (.func (.func 64) #[] #[.pointer (some ⟨w.heap.size + 1, 0, none⟩), .pointer (some ⟨w.heap.size, 0, none⟩), .pointer (some ⟨w.heap.size + 2, 0, none⟩)]) ∧ splitW w s c = w' := by
    go_enter Tryd.func50, Tryd.ntmps50
    go_wp2_with fail
    go_ret
    exact ⟨rfl, rfl⟩
  go_enter Tryd.func40, Tryd.ntmps40
  go_wp2_with fail
  refine C.mono ?_
  rintro e w' ⟨rfl, rfl⟩
  go_wp2_with fail
  go_ret
  exact ⟨rfl, rfl⟩
theorem split_seq (n : Nat) (hn : 1 ≤ n) (s : List UInt8) (c : UInt8) (w : World) (hs : s.length ≤ 4611686018427387904) :
    BoxSeq Fence.wide n Tryd.prog 64 #[.pointer (some ⟨w.heap.size + 1, 0, none⟩), .pointer (some ⟨w.heap.size, 0, none⟩), .pointer (some ⟨w.heap.size + 2, 0, none⟩)]
      (fun x : List UInt8 => #[Value.string ⟨x.toArray⟩]) w.heap.size 3 9 (pieces c s) (splitW w ⟨s.toArray⟩ c) := fun l J Jx W hW hJB hY h0 => by
  have b0 : Boxed (splitW w ⟨s.toArray⟩ c) w.heap.size 9 (.string ⟨s.toArray⟩) := ((Boxed.new w _ _).alloc _).alloc _
  have b1 : Boxed (splitW w ⟨s.toArray⟩ c) (w.heap.size + 1) 9 (.string ⟨#[c]⟩) := by
    have h := Boxed.new (w.alloc (.cells #[.string ⟨s.toArray⟩] 9)) 9 (.string ⟨#[c]⟩)
    rw [World.size_alloc] at h
    exact h.alloc _
  have b2 : Boxed (splitW w ⟨s.toArray⟩ c) (w.heap.size + 2) 3 (.int .i64 0) := by
    have h := Boxed.new ((w.alloc (.cells #[.string ⟨s.toArray⟩] 9)).alloc (.cells #[.string ⟨#[c]⟩] 9)) 3 (.int .i64 0)
    rw [World.size_alloc, World.size_alloc] at h
    exact h
  have hb : ∀ {k t v}, Boxed (splitW w ⟨s.toArray⟩ c) k t v → Boxed W k t v := fun h => (hW.block _ h.lt).trans h
  exact split_in n hn l w.heap.size c s J Jx W hJB hY hs (hb b0) (hb b1) (hb b2) h0
end Go.Proofs.YtengldflpkkkoaaDoor
