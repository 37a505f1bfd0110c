/- slices.Backward: what the iterator promises. -/
import Derived.Test.YtdfljeonoallfaaGW
namespace Go.Proofs.Ytdfljeonoallfaa
open Go.RowKit

def preB (m r : Nat) : List Nat := ((List.range m).reverse).take (m - r)
theorem preB_all (m : Nat) : preB m m = [] := by unfold preB; simp
theorem preB_end (m : Nat) : preB m 0 = (List.range m).reverse := by unfold preB; rw [Nat.sub_zero, List.take_of_length_le (by simp)]
theorem preB_len (m r : Nat) (h : r ≤ m) : (preB m r).length = m - r := by unfold preB; simp
theorem preB_pre (m r : Nat) : preB m r <+: (List.range m).reverse := List.take_prefix _ _
theorem preB_step {m i : Nat} (h : i < m) : preB m i = preB m (i + 1) ++ [i] := by
  unfold preB
  have e : m - i = (m - (i + 1)) + 1 := by omega
  have e2 : (List.range m).length - 1 - (m - (i + 1)) = i := by rw [List.length_range]; omega
  rw [e, List.take_add_one, List.getElem?_reverse (by simp; omega), e2, List.getElem?_range h]
  rfl
theorem pre_next {m x : Nat} {pre : List Nat} (h : (pre ++ [x]) <+: (List.range m).reverse) : x < m ∧ pre.length = m - (x + 1) := by
  have hl := h.length_le
  rw [List.length_append, List.length_singleton, List.length_reverse, List.length_range] at hl
  have e := List.prefix_iff_eq_take.1 h
  have e2 : (pre ++ [x])[pre.length]? = (((List.range m).reverse).take (pre ++ [x]).length)[pre.length]? := by rw [← e]
  have e3 : (List.range m).length - 1 - pre.length = m - 1 - pre.length := by rw [List.length_range]
  rw [List.getElem?_append_right (Nat.le_refl _), Nat.sub_self, List.getElem?_take_of_lt (by simp), List.getElem?_reverse (by simp; omega), e3, List.getElem?_range (by omega)] at e2
  simp at e2
  omega
def PvB (bB m : Nat) (A : Option Addr) (k : Nat) : Prop := k = bB ∨ (0 < m ∧ ∃ off, A = some ⟨k, off, none⟩)
set_option maxHeartbeats 4000000 in
set_option maxRecDepth 100000 in
theorem backward_seq (n : Nat) (hn : 2 ≤ n) (w : World) (bB : Nat) (A : Option Addr) (c : Nat) (L : List Int) (hb : w.cell? ⟨bB, 0, none⟩ = some (.slice A L.length c)) (hr : ReadsV w A L) (hl : L.length ≤ 100000) :
    SeqScr n Try.prog 43 #[.pointer (some ⟨bB, 0, none⟩)] (fun i => #[.int .i64 (i : Nat), .int .i64 (at0 L i)]) (fun _ _ _ => True) (PvB bB L.length A) ((List.range L.length).reverse) (w.heap.size + 2) w := by
  intro l J Jx W hlo hW hst h0 hY
  have hbW := keepc hb hW
  have hrW := Lib.hid (hr.below hW (Nat.le_refl _))
  rw [← hlo] at hst h0 hY ⊢
  have J0 := Lib.hid (h0 W.heap.size W (Nat.le_refl _) (Nat.le_refl _) (KeepOn.refl _ _))
  have KC : Hid (∀ W', KeepOn (PvB bB L.length A) W W' → W'.cell? ⟨bB, 0, none⟩ = some (.slice A L.length c) ∧ ReadsV W' A L) := fun W' k => by
    refine ⟨k.cell hbW (.inl rfl), fun j hj => ?_⟩
    obtain ⟨b, off, e, h1, h2⟩ := hrW.out j hj
    exact ⟨b, off, e, Nat.lt_of_lt_of_le h1 k.size, k.cell h2 (.inr ⟨by omega, off, e⟩)⟩
  have HY := Lib.hid hY
  clear hY hst h0 hr hb
  refine callsIn_of_wp Try.func43 rfl trivial ?_ rfl
  simp only [Try.ntmps43, List.size_toArray, List.length_cons, List.length_nil, Nat.reduceAdd, Nat.reduceSub, Array.replicate_succ, Array.replicate_zero, List.push_toArray, List.append_toArray, List.nil_append, List.cons_append]
  have hw0 : IntKind.i64.wrap ((L.length : Int) - 1) = (L.length : Int) - 1 := by rw [IntKind.wrap_i64]; omega
  gi_wp2_with fail
  gi_loopw [3] (fun q wr => ∃ r : Nat, r ≤ L.length ∧ q = .int .i64 ((r : Int) - 1) ∧ Hid (J W.heap.size (preB L.length r) wr) ∧ Hid (KeepOn (PvB bB L.length A) W wr)) (fun q _ => (intOf q + 1).toNat)
  case atStart => exact ⟨L.length, Nat.le_refl _, rfl, by show J _ _ _; rw [preB_all]; exact J0.out, KeepOn.refl _ _⟩
  case round =>
    obtain ⟨r, hr, rfl, HJ, KK⟩ := hrel
    cases r with
    | zero =>
      have e : (((0 : Nat) : Int) - 1) = -1 := rfl
      rw [e]
      have HJ0 : Hid (J W.heap.size (List.range L.length).reverse wr) := by
        show J _ _ _
        rw [← preB_end]
        exact HJ.out
      have hsz := KK.out.size
      gi_wp2
      go_end0
      exact ⟨⟨_, rfl⟩, .inl ⟨_, Nat.le_refl _, hsz, HJ0.out⟩⟩
    | succ i =>
      have e : (((i + 1 : Nat) : Int) - 1) = (i : Int) := by omega
      rw [e]
      obtain ⟨q0, q1⟩ := KC.out wr KK.out
      obtain ⟨b, off, rfl, _, q2⟩ := q1 i (by omega)
      have HP : Hid (preB L.length i = preB L.length (i + 1) ++ [i]) := preB_step (by omega)
      have hil : i < L.length := by omega
      have hsz := KK.out.size
      have hYx := HY.out W.heap.size (preB L.length (i + 1)) i wr (Nat.le_refl _) hsz (by rw [← HP.out]; exact preB_pre _ _) HJ.out trivial
      have HYx := Lib.hid hYx
      clear e q1 hYx
      obtain ⟨fn, tmps, assign, body, hy, hR⟩ := HYx.out
      have HPRE : Hid (preB L.length (i + 1) ++ [i] <+: (List.range L.length).reverse) := by
        show _ <+: _
        rw [← HP.out]; exact preB_pre _ _
      have hwi : IntKind.i64.wrap ((i : Int) - 1) = (i : Int) - 1 := by rw [IntKind.wrap_i64]; omega
      gi_wp2_with fail
      refine ⟨fun _ => by omega, ?_⟩
      refine hR.mono ?_
      rintro e w3 (⟨rfl, j3, k3⟩ | ⟨rfl, jx3⟩)
      · have J3 : Hid (J W.heap.size (preB L.length i) w3) := by
          show J _ _ _
          rw [HP.out]; exact j3
        have K3 : Hid (KeepOn (PvB bB L.length (some ⟨b, off, none⟩)) W w3) := KK.out.trans (k3.mono fun k _ h => .inl h)
        clear j3 k3 hR hy HYx
        gi_wp2
        go_roundw
        case rel => exact ⟨i, by omega, by go_num, J3, K3⟩
        case measure => simp [intOf] <;> omega
      · have JX := Lib.hid jx3
        clear jx3 hR hy HYx
        gi_wp2
        try simp only [Exit.inBlock, Exit.then]
        refine bodyPost_ret (results_none rfl _ _ _) rfl ?_
        exact ⟨⟨_, rfl⟩, .inr ⟨_, HPRE.out, JX.out⟩⟩
end Go.Proofs.Ytdfljeonoallfaa
