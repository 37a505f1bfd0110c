/- The iterator over the elements, List and Least. -/
import Derived.Test.YtceimmobaganmaaDoorC
import Derived.RangeFuncNested
import Derived.RangeFuncBound
import Derived.RangeFuncCalls
import Derived.RangeFuncLeaves
import Derived.RangeFuncBox
import Derived.Shelf.Abstract
import Derived.Shelf.AbstractIn
import Derived.Shelf.RegionOpen
import Derived.OwnWalkIn
import Derived.TacticsInMore
import Derived.LoopNIn
import Derived.LoopIn
import Derived.Shelf.Spec.TrailingZeros
namespace Go.Proofs.YtceimmobaganmaaDoor
open Go.RowKit Go.Shelf

attribute [local go_sem] Oper.semAt_some

/-- the table of trailing zeros lies where its initialiser laid it -/
def Tab (w : World) : Prop := TabAt 0 Lib.deBruijn64tab w ∧ 0 < w.heap.size
theorem Tab.below {w w' : World} {B : Nat} (h : Tab w) (hb : Below B w w') (hB : 0 < B) : Tab w' :=
  ⟨fun j hj => (hb.cell (p := ⟨0, j, none⟩) hB).trans (h.1 j hj), Nat.lt_of_lt_of_le h.2 hb.size⟩
theorem Tab.alloc {w : World} (h : Tab w) (o : Obj) : Tab (w.alloc o) := h.below (B := w.heap.size) ((Below.refl _ _).alloc (Nat.le_refl _) _) h.2

set_option maxHeartbeats 1000000 in
theorem tz_core (x k idx : Nat) (w : World) (hx0 : ((x : Int) == 0) = false)
    (key : IntKind.u64.wrap (bits BinOp.and IntKind.u64 (x : Int) (IntKind.u64.wrap (-(x : Int))) * 285870213051353865) / 288230376151711744 = (idx : Int))
    (hi : idx < 64) (hk : k < 64) (hcell : w.cell? ⟨0, idx, none⟩ = some (.int .u8 k)) :
    Calls Tryd.prog 40 #[.int .u64 x] w fun e w' => e = .returned (.int .i64 k) ∧ w = w' := by
  go_enter Tryd.func40, Tryd.ntmps40
  go_wp2_with (simp only [key])
  go_ret
  exact ⟨rfl, rfl⟩
theorem tz_any (x : Nat) (w : World) (hx : x < 18446744073709551616) (hx0 : x ≠ 0) (hT : Tab w) :
    Calls Tryd.prog 40 #[.int .u64 x] w fun e w' => e = .returned (.int .i64 (Lib.ctz 64 x)) ∧ w = w' := by
  obtain ⟨hlow, hk⟩ := Lib.lowest_bit 64 x hx0 hx
  obtain ⟨hi, htab⟩ := Lib.deBruijn64_at _ hk
  have hcell := hT.1 _ hi
  rw [htab] at hcell
  exact tz_core x _ _ w (by simp; omega) (tz64_key x _ hx hx0 hlow) hi hk hcell

set_option maxRecDepth 100000 in
set_option maxHeartbeats 2000000 in
/-- the iterator: the elements, ascending -/
theorem elems_in (n : Nat) (hn : 1 ≤ n) (l Bn n₀ s : Nat) (hs : s < 18446744073709551616) (hn0 : 0 < n₀) (J Jx : List Nat → World → Prop)
    (hY : ∀ pre x W, J pre W → pre.length < (lst s).length → YieldAt Fence.wide (n - 1) Tryd.prog l #[.int .i64 ((x : Nat) : Int)] W fun e W' =>
      (e = .returned (.bool true) ∧ J (pre ++ [x]) W' ∧ Below n₀ W W') ∨ (e = .returned (.bool false) ∧ Jx (pre ++ [x]) W'))
    (W : World) (hBn : W.cell? ⟨Bn, 0, none⟩ = some (.int .u64 (s : Int))) (hT : Tab W) (h0 : J [] W) :
    CallsIn Fence.wide n Tryd.prog 39 #[.func (.yield l) #[] #[], .pointer (some ⟨Bn, 0, none⟩)] W fun e W' => (∃ v, e = .returned v) ∧
      ((∃ ys, ys = lst s ∧ J ys W') ∨ (∃ pre, pre <+: lst s ∧ Jx pre W')) := by
  have HK : Hid (∀ x : Nat, x ≠ 0 → x < 18446744073709551616 → bits .and .u64 (x : Int) (IntKind.u64.wrap ((x : Int) - 1)) = ((x &&& (x - 1) : Nat) : Int)) := fun x h0 hx => by
    have e : (x : Int) - 1 = ((x - 1 : Nat) : Int) := by omega
    rw [e, wrap_nat _ (by omega)]
    exact bits_and_u64_nat _ _ hx (by omega)
  have HK2 : Hid (∀ x : Nat, x ≠ 0 → x < 18446744073709551616 → bits .and .u64 (x : Int) ((x : Int) - 1) = ((x &&& (x - 1) : Nat) : Int)) := fun x h0 hx => by
    have e : (x : Int) - 1 = ((x - 1 : Nat) : Int) := by omega
    rw [e]
    exact bits_and_u64_nat _ _ hx (by omega)
  generalize hL : lst s = L at *
  have HL := Lib.hid hL
  clear hL
  refine callsIn_of_wp Tryd.func39 rfl trivial ?_ rfl
  simp only [Tryd.ntmps39, List.size_toArray, List.length_cons, List.length_nil, Nat.reduceAdd, Nat.reduceSub, Array.replicate_succ, Array.replicate_zero, List.push_toArray, List.append_toArray, List.nil_append, List.cons_append]
  gi_wp2
  gi_loopw [3] (fun p wr => ∃ (pre : List Nat) (x : Nat), p = .int .u64 (x : Int) ∧ x < 18446744073709551616 ∧ Hid (L = pre ++ lst x) ∧ Hid (Tab wr) ∧ J pre wr)
    (fun p wr => card (intOf p).toNat)
  case atStart =>
    exact ⟨[], s, rfl, hs, HL.out.symm, hT, h0⟩
  case round =>
    obtain ⟨pre, x, rfl, hx, HX, HT, hJs⟩ := hrel
    by_cases hx0 : x = 0
    · subst hx0
      have HX2 : Hid (L = pre) := by show _ = _; rw [HX.out, lst_zero, List.append_nil]
      gi_wp2
      go_end0
      exact ⟨⟨_, rfl⟩, .inl ⟨pre, HX2.out.symm, hJs⟩⟩
    · have g1 : ((x : Int) == 0) = false := by simp; omega
      have g2 : ((x : Int) != 0) = true := by simp; omega
      have hlow := lst_low hx0 hx
      have HE := Lib.hid (HK.out x hx0 hx)
      have HE2 := Lib.hid (HK2.out x hx0 hx)
      have hlt2 : x &&& (x - 1) < 18446744073709551616 := and_lt hx
      have C := Lib.hid (fun w hT => tz_any x w hx hx0 hT)
      have HX2 : Hid (L = pre ++ [Lib.ctz 64 x] ++ lst (x &&& (x - 1))) := by show _ = _; rw [HX.out, hlow]; simp
      have HC : Hid (card x = card (x &&& (x - 1)) + 1) := by show _ = _; unfold card; rw [hlow]; rfl
      have hlen : pre.length < L.length := by rw [HX.out, hlow]; simp
      clear hlow HX
      generalize x &&& (x - 1) = y at *
      generalize Lib.ctz 64 x = t at *
      obtain ⟨fn, tmps, assign, body, hy, hR⟩ := hY pre t wr hJs hlen
      gi_wp2_with (refine ⟨trivial, ?_⟩; gi_at_call 40; refine (callsIn_wide.2 (C.out _ HT.out)).mono ?_; rintro e w' ⟨rfl, rfl⟩)
      refine hR.mono ?_
      rintro e W3 (⟨rfl, hJ3, hk3⟩ | ⟨rfl, hJx3⟩)
      · have HT3 : Hid (Tab W3) := HT.out.below hk3 hn0
        gi_wp2
        go_roundw
        case rel => exact ⟨pre ++ [t], y, by first | rw [HE.out] | rw [HE2.out], hlt2, HX2, HT3, hJ3⟩
        case measure => first | (rw [HE.out]; simp [intOf]; rw [HC.out]; omega) | (rw [HE2.out]; simp [intOf]; rw [HC.out]; omega)
      · have HP : Hid (pre ++ [t] <+: L) := ⟨lst y, HX2.out.symm⟩
        gi_wp2
        refine bodyPost_ret (results_none rfl _ _ _) rfl ?_
        exact ⟨⟨_, rfl⟩, .inr ⟨pre ++ [t], HP.out, hJx3⟩⟩

/-- elements(s) hands back the iterator's value -/
theorem elements_in (n : Nat) (s : Nat) (w : World) :
    CallsIn Fence.wide n Tryd.prog 29 #[.int .u64 s] w fun e w' => e = .returned (.func (.func 39) #[] #[.pointer (some ⟨w.heap.size, 0, none⟩)]) ∧ w' = w.alloc (.cells #[.int .u64 (s : Int)] 27) := by
  refine callsIn_of_wp Tryd.func29 rfl trivial ?_ rfl
  simp only [Tryd.ntmps29, List.size_toArray, List.length_cons, List.length_nil, Nat.reduceAdd, Nat.reduceSub, Array.replicate_succ, Array.replicate_zero, List.push_toArray, List.append_toArray, List.nil_append, List.cons_append]
  gi_wp2
  go_ret
  exact ⟨rfl, rfl⟩
theorem elems_stops (n : Nat) (hn : 1 ≤ n) (Bn n₀ s : Nat) (hs : s < 18446744073709551616) (hn0 : 0 < n₀) (w : World) (hB : Bn < w.heap.size) (hc : w.cell? ⟨Bn, 0, none⟩ = some (.int .u64 (s : Int))) (hT : Tab w) :
    SeqStopsK Fence.wide n Tryd.prog 39 #[.pointer (some ⟨Bn, 0, none⟩)] (fun x : Nat => #[Value.int .i64 (x : Int)]) (Below n₀) (fun ys => ys = lst s) (fun pre => pre <+: lst s) (lst s).length w := fun l J Jx W hW _ _ hY h0 =>
  elems_in n hn l Bn n₀ s hs hn0 J Jx hY W ((hW.cell (p := ⟨Bn, 0, none⟩) hB).trans hc) (hT.below hW (by have := hT.2; omega)) h0
end Go.Proofs.YtceimmobaganmaaDoor
