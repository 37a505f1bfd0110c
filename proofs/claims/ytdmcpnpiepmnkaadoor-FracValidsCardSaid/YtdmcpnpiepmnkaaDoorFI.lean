/- The reference's validity and the two comparisons. -/
import Derived.Test.YtdmcpnpiepmnkaaDoorFH
namespace Go.Proofs.YtdmcpnpiepmnkaaDoor
open Go.RowKit

theorem common_s (n d : Nat) (z : Int) (w : World) (hn : n < 18446744073709551616) (hd : d < 18446744073709551616) (hd0 : 0 < d) (hz : ((Nat.gcd n d : Nat) : Int) = z) :
    Calls Tryd.prog 13 #[.agg #[.int .u64 0, .int .u64 (n : Int)], .agg #[.int .u64 0, .int .u64 (d : Int)]] w fun e w' => e = .returned (.agg #[.int .u64 0, .int .u64 z]) ∧ Below w.heap.size w w' := by
  have h := common_w n d w (by omega) (by omega)
  have hg : Nat.gcd n d < 18446744073709551616 := Nat.lt_of_le_of_lt (Nat.gcd_le_right n hd0) hd
  rw [hI_small n hn, lI_small n hn, hI_small d hd, lI_small d hd, hI_small _ hg, lI_small _ hg, hz] at h
  exact h
set_option maxHeartbeats 4000000 in
set_option maxRecDepth 1000000 in
theorem refValid_any (x y : Int) (w : World) (h1 : -9223372036854775808 ≤ x) (h2 : x ≤ 9223372036854775807) (h3 : -9223372036854775808 ≤ y) (h4 : y ≤ 9223372036854775807) :
    Calls Tryd.prog 7 #[.agg #[.int .i64 x, .int .i64 y]] w fun e w' => e = .returned (.bool (validB x y)) ∧ Below w.heap.size w w' := by
  have HX := Lib.hid (And.intro h1 h2)
  have HY := Lib.hid (And.intro h3 h4)
  clear h1 h2 h3 h4
  by_cases hy : y < 1
  · have hv : Hid (validB x y = false) := by
      show _ = _
      unfold validB
      rw [decide_eq_false]
      rintro ⟨h, _⟩
      omega
    generalize validB x y = v at *
    go_enter Tryd.func7, Tryd.ntmps7
    go_wp2_with fail
    go_ret
    exact ⟨ret_bb hv.out.symm, (Below.refl _ _).alloc (Nat.le_refl _) _⟩
  · by_cases hx : x = -9223372036854775808
    · have hv : Hid (validB x y = false) := by
        show _ = _
        unfold validB
        rw [decide_eq_false]
        rintro ⟨_, h, _⟩
        exact h hx
      generalize validB x y = v at *
      subst hx
      go_enter Tryd.func7, Tryd.ntmps7
      go_wp2_with fail
      go_ret
      exact ⟨ret_bb hv.out.symm, (Below.refl _ _).alloc (Nat.le_refl _) _⟩
    · have hx' : (x == -9223372036854775808) = false := by simp; exact hx
      obtain ⟨d, rfl⟩ : ∃ d : Nat, y = (d : Int) := ⟨y.toNat, by omega⟩
      have HD : Hid (0 < d ∧ d < 18446744073709551616) := ⟨by omega, by have := HY.out; omega⟩
      obtain ⟨z, hz⟩ : ∃ z : Int, ((Nat.gcd x.natAbs d : Nat) : Int) = z := ⟨_, rfl⟩
      have HZ := Lib.hid hz
      have hv : Hid (validB x d = decide (z = 1)) := by
        show _ = _
        unfold validB
        rw [decide_eq_decide, Int.natAbs_natCast, ← hz]
        constructor
        · rintro ⟨_, _, h⟩; omega
        · intro h; exact ⟨by have := HD.out; omega, hx, by omega⟩
      generalize validB x d = v at *
      have HC : Hid (∀ w, Calls Tryd.prog 13 #[.agg #[.int .u64 0, .int .u64 (x.natAbs : Int)], .agg #[.int .u64 0, .int .u64 (d : Int)]] w fun e w' => e = .returned (.agg #[.int .u64 0, .int .u64 z]) ∧ Below w.heap.size w w') :=
        fun w => common_s x.natAbs d z w (by have := HX.out; omega) HD.out.2 HD.out.1 hz
      have HS : Hid (∀ w, Calls Tryd.prog 14 #[.int .i64 x] w fun e w' => e = .returned (.int .u64 (x.natAbs : Int)) ∧ w = w') := fun w => size_any x w HX.out.1 HX.out.2
      generalize hN : (x.natAbs : Int) = N at *
      clear hN hz
      have c1 : IntKind.u64.wrap (d : Int) = (d : Int) := by have := HD.out; rw [IntKind.wrap_u64]; omega
      have K1 : Hid (Below w.heap.size w (w.alloc (.cells #[.int .i64 x, .int .i64 (d : Int)] 23))) := (Below.refl _ _).alloc (Nat.le_refl _) _
      by_cases z1 : z = 1
      · subst z1
        go_enter Tryd.func7, Tryd.ntmps7
        go_wp2_with fail
        go_region_with (first
          | (go_at_call 14; refine (HS.out _).mono ?_; rintro _ _ ⟨rfl, rfl⟩)
          | (go_at_call 13; refine (HC.out _).mono ?_; rintro _ w4 ⟨rfl, hb⟩; have K2 := Lib.hid (K1.out.drew.trans (hb.mono (by simp))); clear hb))
        all_goals
          go_wp2_with fail
          go_ret
          refine ⟨?_, K2.out⟩
          rw [hv.out]
          rfl
      · have z2 : (z == 1) = false := by simp; exact z1
        go_enter Tryd.func7, Tryd.ntmps7
        go_wp2_with fail
        go_region_with (first
          | (go_at_call 14; refine (HS.out _).mono ?_; rintro _ _ ⟨rfl, rfl⟩)
          | (go_at_call 13; refine (HC.out _).mono ?_; rintro _ w4 ⟨rfl, hb⟩; have K2 := Lib.hid (K1.out.drew.trans (hb.mono (by simp))); clear hb))
        all_goals
          go_wp2_with fail
          go_ret
          refine ⟨?_, K2.out⟩
          rw [hv.out, decide_eq_false z1]
          first | rfl | simp [z2]
end Go.Proofs.YtdmcpnpiepmnkaaDoor
