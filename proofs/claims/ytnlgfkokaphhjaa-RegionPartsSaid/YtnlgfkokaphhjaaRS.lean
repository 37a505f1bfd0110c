/- Regions: the iterator over all sets of states. -/
import Derived.Test.YtnlgfkokaphhjaaRG
import Derived.Test.YtnlgfkokaphhjaaBtH
import Derived.RangeFuncNested
import Derived.RangeFuncBound
import Derived.RangeFuncCalls
import Derived.RangeFuncLeaves
import Derived.RangeFuncBox
import Derived.Shelf.Abstract
import Derived.Shelf.AbstractIn
import Derived.Shelf.RegionOpen
import Derived.OwnWalkIn
import Derived.TacticsInMore
import Derived.LoopNIn
import Derived.LoopIn
namespace Go.Proofs.Ytnlgfkokaphhjaa
open Go.RowKit Go.Shelf

theorem next_all {k s : Nat} (hk : k ≤ 63) (h : s + 1 < 2 ^ k) : Bt.nextV s (2 ^ k - 1) = s + 1 := by
  have hp : 2 ^ k ≤ 2 ^ 63 := Nat.pow_le_pow_right (by omega) hk
  have h63 : (2 : Nat) ^ 63 = 9223372036854775808 := by decide
  have h64 : 2 ^ k * 2 ^ (64 - k) = 18446744073709551616 := by
    rw [← Nat.pow_add, show k + (64 - k) = 64 by omega]
  have hq : 0 < 2 ^ (64 - k) := Nat.pow_pos (by omega)
  have hp0 : 0 < 2 ^ k := Nat.pow_pos (by omega)
  have e1 : 18446744073709551615 - (2 ^ k - 1) = 2 ^ k * (2 ^ (64 - k) - 1) := by
    rw [Nat.mul_sub, h64, Nat.mul_one]
    omega
  have e2 : s ||| (18446744073709551615 - (2 ^ k - 1)) = s + (18446744073709551616 - 2 ^ k) := by
    rw [e1, Nat.or_comm, ← Nat.two_pow_add_eq_or_of_lt (by omega : s < 2 ^ k), Nat.mul_sub, h64, Nat.mul_one]
    omega
  unfold Bt.nextV
  rw [e2, Nat.mod_eq_of_lt (by omega), Nat.and_two_pow_sub_one_eq_mod]
  have e3 : s + (18446744073709551616 - 2 ^ k) + 1 = (s + 1) + 2 ^ k * (2 ^ (64 - k) - 1) := by
    rw [Nat.mul_sub, h64, Nat.mul_one]
    omega
  rw [e3, Nat.add_mul_mod_self_left, Nat.mod_eq_of_lt h]
theorem sub_all_lt {k s : Nat} (hk : k ≤ 63) (h : s < 2 ^ k) : Bt.subV s (2 ^ k - 1) = true := by
  have hp : 2 ^ k ≤ 2 ^ 63 := Nat.pow_le_pow_right (by omega) hk
  have h63 : (2 : Nat) ^ 63 = 9223372036854775808 := by decide
  rw [Bt.sub_iff (by omega) (by omega)]
  intro i hi
  rw [Nat.testBit_two_pow_sub_one, decide_eq_true_eq]
  apply Classical.byContradiction
  intro hn
  have := Nat.testBit_lt_two_pow (x := s) (i := i) (Nat.lt_of_lt_of_le h (Nat.pow_le_pow_right (by omega) (by omega)))
  rw [this] at hi
  cases hi
/-- the closed sets below a number, beginning with 1 -/
theorem next_up {p k : Nat} (hp : p ≤ 63) (W : World) (hk : k ≤ 2 ^ p - 1) :
    Calls Try.prog 51 #[.int .u64 (k : Nat), .int .u64 ((2 ^ p - 1 : Nat) : Int)] W fun e w' => e = .returned (.tuple #[.int .u64 ((if k < 2 ^ p - 1 then k + 1 else 0 : Nat) : Int), .bool (decide (k < 2 ^ p - 1))]) ∧ W = w' := by
  have h2 : 2 ^ p ≤ 2 ^ 63 := Nat.pow_le_pow_right (by omega) hp
  have h63 : (2 : Nat) ^ 63 = 9223372036854775808 := by decide
  have hp0 : 0 < 2 ^ p := Nat.pow_pos (by omega)
  have h := Bt.next_any k (2 ^ p - 1) W (by omega) (by omega)
  by_cases e : k < 2 ^ p - 1
  · have hs := sub_all_lt (k := p) (s := k) hp (by omega)
    have hc : Bt.subV k (2 ^ p - 1) = true ∧ k ≠ 2 ^ p - 1 := ⟨hs, by omega⟩
    rw [if_pos hc, decide_eq_true hc, next_all hp (by omega)] at h
    rw [if_pos e, decide_eq_true e]
    exact h
  · have hc : ¬ (Bt.subV k (2 ^ p - 1) = true ∧ k ≠ 2 ^ p - 1) := fun c => by omega
    rw [if_neg hc, decide_eq_false hc] at h
    rw [if_neg e, decide_eq_false e]
    exact h

def nzV (k m : Nat) : Nat := if k < m then k else 0
def ltZ (k m : Nat) : Bool := decide (k < m)
theorem nz_yes {k m : Nat} (h : k < m) : nzV k m = k ∧ ltZ k m = true := ⟨by unfold nzV; rw [if_pos h], by unfold ltZ; exact decide_eq_true h⟩
theorem nz_no {k m : Nat} (h : ¬ k < m) : nzV k m = 0 ∧ ltZ k m = false := ⟨by unfold nzV; rw [if_neg h], by unfold ltZ; exact decide_eq_false h⟩
theorem range_pre {k m : Nat} (h : k ≤ m) : List.range k <+: List.range m := by
  obtain ⟨d, rfl⟩ : ∃ d, m = k + d := ⟨m - k, by omega⟩
  rw [List.range_add]
  exact List.prefix_append _ _
set_option maxRecDepth 100000 in
set_option maxHeartbeats 2000000 in
theorem sets_in (n : Nat) (hn : 1 ≤ n) (l Bn n₀ p : Nat) (hp2 : p ≤ 12) (J Jx : List Nat → World → Prop)
    (hY : ∀ pre x W, x < 2 ^ p → J pre W → pre.length < (List.range (2 ^ p)).length → YieldAt Fence.wide (n - 1) Try.prog l #[.int .u64 ((x : Nat) : Int)] W fun e W' =>
      (e = .returned (.bool true) ∧ J (pre ++ [x]) W' ∧ Below n₀ W W') ∨ (e = .returned (.bool false) ∧ Jx (pre ++ [x]) W'))
    (W : World) (hBn : W.cell? ⟨Bn, 0, none⟩ = some (.int .i64 (p : Int))) (h0 : J [] W) :
    CallsIn Fence.wide n Try.prog 50 #[.func (.yield l) #[] #[], .pointer (some ⟨Bn, 0, none⟩)] W fun e W' => (∃ v, e = .returned v) ∧
      ((∃ ys, ys = List.range (2 ^ p) ∧ J ys W') ∨ (∃ pre, pre <+: List.range (2 ^ p) ∧ Jx pre W')) := by
  have CA : Hid (∀ W, Calls Try.prog 42 #[.int .i64 (p : Int)] W fun e w' => e = .returned (.int .u64 ((2 ^ p - 1 : Nat) : Int)) ∧ W = w') := fun W => by
    have h := Bt.all_any (p : Int) W
    unfold Bt.allV at h
    rw [Int.toNat_natCast, Nat.min_eq_left (by omega)] at h
    exact h
  have hp0 : 0 < 2 ^ p := Nat.two_pow_pos p
  have CN : Hid (∀ k W, k < 2 ^ p → Calls Try.prog 51 #[.int .u64 (k : Nat), .int .u64 ((2 ^ p - 1 : Nat) : Int)] W fun e w' => e = .returned (.tuple #[.int .u64 ((nzV (k + 1) (2 ^ p) : Nat) : Int), .bool (ltZ (k + 1) (2 ^ p))]) ∧ W = w') := fun k W hk => by
    have h := next_up (p := p) (k := k) (by omega) W (by omega)
    have e1 : (if k < 2 ^ p - 1 then k + 1 else 0) = nzV (k + 1) (2 ^ p) := by
      unfold nzV
      by_cases h : k < 2 ^ p - 1
      · rw [if_pos h, if_pos (by omega)]
      · rw [if_neg h, if_neg (by omega)]
    have e2 : decide (k < 2 ^ p - 1) = ltZ (k + 1) (2 ^ p) := by
      unfold ltZ
      rw [decide_eq_decide]
      omega
    rw [e1, e2] at h
    exact h
  rw [List.length_range] at hY
  generalize hmm : 2 ^ p - 1 = mm at *
  clear hmm
  generalize 2 ^ p = m at *
  refine callsIn_of_wp Try.func50 rfl trivial ?_ rfl
  simp only [Try.ntmps50, List.size_toArray, List.length_cons, List.length_nil, Nat.reduceAdd, Nat.reduceSub, Array.replicate_succ, Array.replicate_zero, List.push_toArray, List.append_toArray, List.nil_append, List.cons_append]
  gi_wp2_with (refine ⟨trivial, ?_⟩; gi_at_call 42; refine (callsIn_wide.2 (CA.out _)).mono ?_; rintro e w' ⟨rfl, rfl⟩)
  gi_loopw [4, 5] (fun a b wr => ∃ k : Nat, k ≤ m ∧ a = .int .u64 ((nzV k m : Nat) : Int) ∧ b = .bool (ltZ k m) ∧ J (List.range k) wr)
    (fun a b wr => match b with | .bool true => m + 1 - (intOf a).toNat | _ => 0)
  case atStart => exact ⟨0, Nat.zero_le _, by rw [(nz_yes hp0).1]; rfl, by rw [(nz_yes hp0).2], h0⟩
  case round =>
    obtain ⟨k, hk, rfl, rfl, hJ⟩ := hrel
    by_cases hlt : k < m
    · rw [(nz_yes hlt).1, (nz_yes hlt).2]
      have C1 := Lib.hid (fun W => CN.out k W hlt)
      obtain ⟨fn, tmps, assign, body, hy, hR⟩ := hY (List.range k) k wr hlt hJ (by rw [List.length_range]; exact hlt)
      have US : Hid (List.range k ++ [k] = List.range (k + 1)) := List.range_succ.symm
      have UP : Hid (List.range (k + 1) <+: List.range m) := range_pre (by omega)
      obtain ⟨x, hx⟩ : ∃ x, x = k + 1 := ⟨_, rfl⟩
      rw [← hx] at US UP C1
      have HX := Lib.hid hx
      have hxm : x ≤ m := by omega
      clear hx
      gi_wp2
      refine hR.mono ?_
      rintro e W3 (⟨rfl, hJ3, hk3⟩ | ⟨rfl, hJx3⟩)
      · rw [US.out] at hJ3
        gi_wp2_with (refine ⟨trivial, ?_⟩; gi_at_call 51; refine (callsIn_wide.2 (C1.out _)).mono ?_; rintro e w' ⟨rfl, rfl⟩)
        go_roundw
        case rel => exact ⟨x, hxm, rfl, rfl, hJ3⟩
        case measure =>
          have hx := HX.out
          by_cases e2 : x < m
          · rw [(nz_yes e2).1, (nz_yes e2).2]; simp [intOf]; omega
          · rw [(nz_no e2).1, (nz_no e2).2]; simp [intOf]; omega
      · rw [US.out] at hJx3
        gi_wp2
        refine bodyPost_ret (results_none rfl _ _ _) rfl ?_
        exact ⟨⟨_, rfl⟩, .inr ⟨_, UP.out, hJx3⟩⟩
    · obtain rfl : k = m := by omega
      rw [(nz_no hlt).1, (nz_no hlt).2]
      gi_wp2
      go_end0
      exact ⟨⟨_, rfl⟩, .inl ⟨_, rfl, hJ⟩⟩
theorem subsets_in0 (n : Nat) (p : Nat) (w : World) :
    CallsIn Fence.wide n Try.prog 36 #[.int .i64 (p : Int)] w fun e w' => e = .returned (.func (.func 50) #[] #[.pointer (some ⟨w.heap.size, 0, none⟩)]) ∧ w' = w.alloc (.cells #[.int .i64 (p : Int)] 3) := by
  refine callsIn_of_wp Try.func36 rfl trivial ?_ rfl
  simp only [Try.ntmps36, List.size_toArray, List.length_cons, List.length_nil, Nat.reduceAdd, Nat.reduceSub, Array.replicate_succ, Array.replicate_zero, List.push_toArray, List.append_toArray, List.nil_append, List.cons_append]
  gi_wp2
  go_ret
  exact ⟨rfl, rfl⟩
def toU (x : Nat) : Bt.U64 := ⟨x % 18446744073709551616, Nat.mod_lt _ (by decide)⟩
theorem toU_val {x : Nat} (h : x < 18446744073709551616) : (toU x).1 = x := Nat.mod_eq_of_lt h
def zU (m : Nat) : List Bt.U64 := (List.range m).map toU
theorem sets_stops (n : Nat) (hn : 1 ≤ n) (Bn n₀ p : Nat) (hp2 : p ≤ 12) (w : World) (hB : Bn < w.heap.size) (hc : w.cell? ⟨Bn, 0, none⟩ = some (.int .i64 (p : Int))) :
    SeqStopsK Fence.wide n Try.prog 50 #[.pointer (some ⟨Bn, 0, none⟩)] (fun x : Bt.U64 => #[Value.int .u64 ((x.1 : Nat) : Int)]) (Below n₀) (fun ys => ys = zU (2 ^ p)) (fun pre => pre <+: zU (2 ^ p)) (zU (2 ^ p)).length w := fun l J Jx W hW _ _ hY h0 => by
  have h2 : 2 ^ p ≤ 2 ^ 12 := Nat.pow_le_pow_right (by omega) hp2
  have h12 : (2 : Nat) ^ 12 = 4096 := by decide
  refine (sets_in n hn l Bn n₀ p hp2 (fun pre W => J (pre.map toU) W) (fun pre W => Jx (pre.map toU) W) (fun pre x W hx hJ hlt => ?_) W ((hW.cell (p := ⟨Bn, 0, none⟩) hB).trans hc) h0).mono ?_
  · have h := hY (pre.map toU) (toU x) W hJ (by unfold zU; rw [List.length_map, List.length_map]; exact hlt)
    dsimp only at h
    rw [toU_val (show x < 18446744073709551616 by omega)] at h
    rw [List.map_append, List.map_singleton]
    exact h
  · rintro e W' ⟨h1, ⟨ys, rfl, hJ⟩ | ⟨pre, hp, hJx⟩⟩
    · exact ⟨h1, .inl ⟨_, rfl, hJ⟩⟩
    · exact ⟨h1, .inr ⟨_, hp.map toU, hJx⟩⟩
end Go.Proofs.Ytnlgfkokaphhjaa
