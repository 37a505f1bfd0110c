/- strings.SplitSeq at a separator of one byte: the iterator's contract. -/
import Derived.Test.YtgjgohnomophnaaDoorEV
import Derived.Test.YtgjgohnomophnaaDoorSM
import Derived.Test.YtgjgohnomophnaaDoorShelf
import Derived.Shelf.AbstractIn
import Derived.Shelf.Abstract
import Derived.Shelf.RegionOpen
namespace Go.Proofs.YtgjgohnomophnaaDoor
open Go.RowKit Go.Shelf

attribute [local go_sem] Oper.semAt_some

/-- The m blocks from B on lie as they lay. -/
def KeepB (B m : Nat) (W W' : World) : Prop := ∀ k, B ≤ k → k < B + m → k < W.heap.size → W'.heap[k]? = W.heap[k]?
theorem KeepB.refl (B m : Nat) (W : World) : KeepB B m W W := fun _ _ _ _ => rfl
theorem KeepB.trans {B m : Nat} {X Y Z : World} (h : KeepB B m X Y) (k : KeepB B m Y Z) : KeepB B m X Z := fun i h1 h2 h3 => by
  have e := h i h1 h2 h3
  have hlt : i < Y.heap.size := by
    rw [Array.getElem?_eq_getElem h3] at e
    exact (Array.getElem?_eq_some_iff.1 e).1
  exact (k i h1 h2 hlt).trans e
theorem KeepB.alloc (B m : Nat) (W : World) (o : Obj) : KeepB B m W (W.alloc o) := fun k _ _ h => Below.heap_alloc W o k h
theorem KeepB.drew (B m : Nat) (W : World) : KeepB B m W W.drew := fun _ _ _ _ => rfl
theorem KeepB.put {B m l : Nat} {W : World} (o : Obj) (h : B + m ≤ l) : KeepB B m W (W.putObj l o) := fun k _ h2 _ => World.putObj_heap_other (by omega)
theorem KeepB.set {B m : Nat} {W : World} {a : Addr} (v : Value) (h : a.block < B ∨ B + m ≤ a.block) : KeepB B m W (W.setCell a v) := fun k h1 h2 _ => Below.heap_setCell W a v k (by omega)
theorem KeepB.below {B m n₀ : Nat} {W W' : World} (h : Below n₀ W W') (hB : B + m ≤ n₀) : KeepB B m W W' := fun k _ h2 _ => h.block k (by omega)
theorem KeepB.grown {B m : Nat} {W W' : World} {row : Option Nat} (h : W.grownBy W' row) (hr : ∀ r, row = some r → r < B ∨ B + m ≤ r) : KeepB B m W W' := fun k h1 h2 h3 => h.block k h3 (fun e => by have := hr k e.symm; omega)
theorem KeepB.cell {B m : Nat} {W W' : World} (h : KeepB B m W W') {k : Nat} (h1 : B ≤ k) (h2 : k < B + m) {t : TypeId} {v : Value} (hb : Boxed W k t v) : Boxed W' k t v := (h k h1 h2 hb.lt).trans hb

/-- the length of the text in a box -/
def slen (W : World) (b : Nat) : Nat := match W.cell? ⟨b, 0, none⟩ with | some (.string s) => s.size | _ => 0
theorem slen_box {W : World} {b : Nat} {t : TypeId} {s : ByteArray} (h : Boxed W b t (.string s)) : slen W b = s.size := by unfold slen; rw [h.cell]

theorem text_take (s : List UInt8) (i : Nat) : (⟨s.toArray⟩ : ByteArray).extract 0 i = ⟨(s.take i).toArray⟩ := by
  apply ByteArray.ext
  simp [ByteArray.data_extract]
theorem text_drop (s : List UInt8) (i m : Nat) (h : s.length ≤ m) : (⟨s.toArray⟩ : ByteArray).extract i m = ⟨(s.drop i).toArray⟩ := by
  apply ByteArray.ext
  simp [ByteArray.data_extract]
  rw [List.take_of_length_le (by simp; omega)]

set_option maxRecDepth 100000 in
set_option maxHeartbeats 4000000 in
theorem split_in (n : Nat) (hn : 1 ≤ n) (l B : Nat) (c : UInt8) (s0 : List UInt8) (J Jx : List (List UInt8) → World → Prop) (W : World)
    (hJB : ∀ pre A u v, J pre A → Boxed A B 9 u → J pre (A.setCell ⟨B, 0, none⟩ v))
    (hY : ∀ pre x rest W1, pieces c s0 = pre ++ x :: rest → J pre W1 → YieldAt Fence.wide (n - 1) Tryd.prog l #[.string ⟨x.toArray⟩] W1 fun e W' =>
      (e = .returned (.bool true) ∧ J (pre ++ [x]) W' ∧ KeepB B 3 W1 W') ∨ (e = .returned (.bool false) ∧ Jx (pre ++ [x]) W'))
    (hs0 : s0.length ≤ 4611686018427387904) (b0 : Boxed W B 9 (.string ⟨s0.toArray⟩)) (b1 : Boxed W (B + 1) 9 (.string ⟨#[c]⟩)) (b2 : Boxed W (B + 2) 3 (.int .i64 0)) (h0 : J [] W) :
    CallsIn Fence.wide n Tryd.prog 66 #[.func (.yield l) #[] #[], .pointer (some ⟨B + 1, 0, none⟩), .pointer (some ⟨B, 0, none⟩), .pointer (some ⟨B + 2, 0, none⟩)] W fun e W' => (∃ v, e = .returned v) ∧
      (J (pieces c s0) W' ∨ ∃ pre, pre <+: pieces c s0 ∧ Jx pre W') := by
  generalize hL : pieces c s0 = L at *
  have HL := Lib.hid hL
  clear hL
  have q1 := b1.cell
  refine callsIn_of_wp Tryd.func66 rfl trivial ?_ rfl
  simp only [Tryd.ntmps66, List.size_toArray, List.length_cons, List.length_nil, Nat.reduceAdd, Nat.reduceSub, Array.replicate_succ, Array.replicate_zero, List.push_toArray, List.append_toArray, List.nil_append, List.cons_append]
  gi_wp2
  have hne := Lib.hid (pieces_ne c)
  gi_loopw [] (fun wr => ∃ (pre : List (List UInt8)) (s : List UInt8), Hid (L = pre ++ pieces c s) ∧ s.length ≤ 4611686018427387904 ∧ Boxed wr B 9 (.string ⟨s.toArray⟩) ∧ Boxed wr (B + 1) 9 (.string ⟨#[c]⟩) ∧ Boxed wr (B + 2) 3 (.int .i64 0) ∧ J pre wr)
    (fun wr => slen wr B)
  case atStart =>
    exact ⟨[], s0, HL.out.symm, hs0, b0, b1, b2, h0⟩
  case round =>
    obtain ⟨pre, s, HX, hsl, c0, c1, c2, hJs⟩ := hrel
    have q0 := c0.cell
    have q1 := c1.cell
    have q2 := c2.cell
    have qf := c0.frozen
    have C := Lib.hid (Tryd.strings_Index_one ⟨s.toArray⟩ c)
    rcases indexByte_cases c s with hi | ⟨i, hi⟩
    · have HX2 : Hid (L = pre ++ [s]) := by show _ = _; rw [HX.out, pieces_last c s hi]
      rw [show (⟨s.toArray⟩ : ByteArray).data.toList = s from rfl, hi] at C
      obtain ⟨fn, tmps, assign, body, hy, hR⟩ := hY pre s [] wr (by rw [HX2.out]) hJs
      gi_wp2_with (refine ⟨trivial, ?_⟩; gi_at_call 68; refine (callsIn_wide.2 (C.out _)).mono ?_; rintro e w' ⟨rfl, rfl⟩)
      refine hR.mono ?_
      rintro e W3 (⟨rfl, hJ3, hk3⟩ | ⟨rfl, hJx3⟩)
      · gi_wp2
        go_end0
        exact ⟨⟨_, rfl⟩, .inl (by rw [HX2.out]; exact hJ3)⟩
      · have HP : Hid (pre ++ [s] <+: L) := ⟨[], by rw [HX2.out]; simp⟩
        gi_wp2
        go_end0
        exact ⟨⟨_, rfl⟩, .inr ⟨pre ++ [s], HP.out, hJx3⟩⟩
    · obtain ⟨hlt, hcut⟩ := pieces_cut c s i hi
      have HX2 : Hid (L = pre ++ s.take i :: pieces c (s.drop (i + 1))) := by show _ = _; rw [HX.out, hcut]
      rw [show (⟨s.toArray⟩ : ByteArray).data.toList = s from rfl, hi] at C
      obtain ⟨fn, tmps, assign, body, hy, hR⟩ := hY pre (s.take i) (pieces c (s.drop (i + 1))) wr HX2.out hJs
      have i0 : (0 : Int) ≤ (i : Int) := by omega
      have i1 : (i : Int) ≤ (s.length : Int) := by omega
      have w1 : wrap64 (i : Int) = (i : Int) := by unfold wrap64; omega
      have w2 : wrap64 ((i : Int) + 1) = (i : Int) + 1 := by unfold wrap64; omega
      have i2 : (0 : Int) ≤ (i : Int) + 1 := by omega
      have i3 : (i : Int) + 1 ≤ (s.length : Int) := by omega
      have g1 : ((i : Int) < 0) = False := by simp
      have n1 : ((i : Int) + 1).toNat = i + 1 := by omega
      have T1 := text_take s i
      gi_wp2_with (refine ⟨trivial, ?_⟩; gi_at_call 68; refine (callsIn_wide.2 (C.out _)).mono ?_; rintro e w' ⟨rfl, rfl⟩)
      refine hR.mono ?_
      rintro e W3 (⟨rfl, hJ3, hk3⟩ | ⟨rfl, hJx3⟩)
      · have d0 := hk3.cell (Nat.le_refl _) (by omega) c0
        have d1 := hk3.cell (by omega) (by omega) c1
        have d2 := hk3.cell (by omega) (by omega) c2
        have q0 := d0.cell
        have q1 := d1.cell
        have qf := d0.frozen
        have T2 := text_drop s (i + 1) s.length (Nat.le_refl _)
        gi_wp2
        refine ⟨⟨pre ++ [s.take i], s.drop (i + 1), ?_, by simp; omega, d0.set _, d1.other (by omega) _, d2.other (by omega) _, hJB _ _ _ _ hJ3 d0⟩, ?_⟩
        · show _ = _
          rw [HX2.out]
          simp
        · rw [slen_box (d0.set _), slen_box c0]
          simp [ByteArray.size]
          omega
      · have HP : Hid (pre ++ [s.take i] <+: L) := ⟨pieces c (s.drop (i + 1)), by rw [HX2.out]; simp⟩
        gi_wp2
        refine bodyPost_ret (results_none rfl _ _ _) rfl ?_
        exact ⟨⟨_, rfl⟩, .inr ⟨pre ++ [s.take i], HP.out, hJx3⟩⟩

/-- the world behind SplitSeq: the boxes of the text, of the separator and of what is saved of it -/
def splitW (w : World) (s : ByteArray) (c : UInt8) : World := ((w.alloc (.cells #[.string s] 9)).alloc (.cells #[.string ⟨#[c]⟩] 9)).alloc (.cells #[.int .i64 0] 3)
theorem splitW_below (w : World) (s : ByteArray) (c : UInt8) : Below w.heap.size w (splitW w s c) := (((Below.refl _ w).alloc (Nat.le_refl _) _).alloc (by simp) _).alloc (by simp; omega) _
theorem splitW_size (w : World) (s : ByteArray) (c : UInt8) : (splitW w s c).heap.size = w.heap.size + 3 := by simp [splitW]
theorem split_call (s : ByteArray) (c : UInt8) (w : World) :
    Calls Tryd.prog 39 #[.string s, .string ⟨#[c]⟩] w fun e w' => e = .returned (.func (.func 66) #[] #[.pointer (some ⟨w.heap.size + 1, 0, none⟩), .pointer (some ⟨w.heap.size, 0, none⟩), .pointer (some ⟨w.heap.size + 2, 0, none⟩)]) ∧ splitW w s c = w' := by
  have C : Calls Tryd.prog 57 #[.string s, .string ⟨#[c]⟩, .int .i64 0] w fun e w' => e = .returned (.func (.func 66) #[] #[.pointer (some ⟨w.heap.size + 1, 0, none⟩), .pointer (some ⟨w.heap.size, 0, none⟩), .pointer (some ⟨w.heap.size + 2, 0, none⟩)]) ∧ splitW w s c = w' := by
    go_enter Tryd.func57, Tryd.ntmps57
    go_wp2_with fail
    go_ret
    exact ⟨rfl, rfl⟩
  go_enter Tryd.func39, Tryd.ntmps39
  go_wp2_with fail
  refine C.mono ?_
  rintro e w' ⟨rfl, rfl⟩
  go_wp2_with fail
  go_ret
  exact ⟨rfl, rfl⟩
theorem boxed_keep {S : Nat → Prop} {A B : World} {b : Nat} {t : TypeId} {v : Value} (h : Boxed A b t v) (k : KeepOn S A B) (hs : S b) : Boxed B b t v := (k.block b h.lt hs).trans h
/-- the iterator of SplitSeq whose boxes lie at B, B + 1, B + 2 -/
theorem split_scr (n : Nat) (hn : 1 ≤ n) (s : List UInt8) (c : UInt8) (B : Nat) (w : World) (hs : s.length ≤ 4611686018427387904) (lo : Nat) (hB : B + 2 < lo)
    (b0 : Boxed w B 9 (.string ⟨s.toArray⟩)) (b1 : Boxed w (B + 1) 9 (.string ⟨#[c]⟩)) (b2 : Boxed w (B + 2) 3 (.int .i64 0)) :
    SeqScr n Tryd.prog 66 #[.pointer (some ⟨B + 1, 0, none⟩), .pointer (some ⟨B, 0, none⟩), .pointer (some ⟨B + 2, 0, none⟩)]
      (fun x : List UInt8 => #[Value.string ⟨x.toArray⟩]) (fun _ _ _ => True) (fun k => k = B) (fun k => k = B ∨ k = B + 1 ∨ k = B + 2) (pieces c s) lo w := by
  intro l J Jx W hlo hW hst _ h0 hY
  have hb : ∀ {k t v}, Boxed w k t v → Boxed W k t v := fun h => (hW.block _ h.lt).trans h
  refine (split_in n hn l B c s (fun pre A => J lo pre A ∧ lo ≤ A.heap.size) (Jx lo) W ?_ ?_ hs (hb b0) (hb b1) (hb b2) ⟨h0 lo W (Nat.le_refl _) (by omega) (KeepOn.refl _ _), by omega⟩).mono ?_
  · rintro pre A u v ⟨h, h1⟩ hbx
    exact ⟨hst lo pre A _ (Nat.le_refl _) h (KeepOn.set _ _ _ (fun c => c.1 rfl)), by rw [World.size_setCell]; exact h1⟩
  · rintro pre x rest W1 e ⟨h, h1⟩
    obtain ⟨fn, tmps, assign, body, hy, hR⟩ := hY lo pre x W1 (Nat.le_refl _) h1 ⟨rest, by rw [e]; simp⟩ h trivial
    refine ⟨fn, tmps, assign, body, hy, hR.mono ?_⟩
    rintro e W' (⟨rfl, h2, h3⟩ | ⟨rfl, h2, h3⟩)
    · exact .inl ⟨rfl, ⟨h2, Nat.le_trans h1 h3.size⟩, fun k k1 k2 k3 => h3.block k k3 (.inl (by omega))⟩
    · exact .inr ⟨rfl, h2⟩
  · rintro e W' ⟨h1, ⟨h2, h3⟩ | h2⟩
    · exact ⟨h1, .inl ⟨lo, Nat.le_refl _, h3, h2⟩⟩
    · obtain ⟨pre, h3, h4⟩ := h2
      exact ⟨h1, .inr ⟨lo, pre, Nat.le_refl _, h3, h4⟩⟩
end Go.Proofs.YtgjgohnomophnaaDoor
