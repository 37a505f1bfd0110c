/- Unions of closed sets are closed; a closed set is its own greatest one. -/
import Derived.Test.YtjibpkaanaphcaaSH
import Derived.Test.YtjibpkaanaphcaaSD
namespace Go.Proofs.Ytjibpkaanaphcaa
open Go.RowKit

theorem closed_union {n : NetV} {b : Bool} {s t : Nat} (hs : closedB n b s = true) (ht : closedB n b t = true) : closedB n b (s ||| t) = true := by
  refine closed_iff.2 fun k hk => ?_
  cases e : violF n b (s ||| t) k
  · rfl
  · exfalso
    obtain ⟨⟨i, h1, h2⟩, h3⟩ := viol_iff.1 e
    rw [Nat.testBit_or, Bool.or_eq_true] at h2
    rcases h2 with h2 | h2
    · have h4 := closed_iff.1 hs k hk
      have hv : violF n b s k = true := viol_iff.2 ⟨⟨i, h1, h2⟩, fun j hj => h3 j ⟨hj.1, by rw [Nat.testBit_or, hj.2]; rfl⟩⟩
      rw [h4] at hv; cases hv
    · have h4 := closed_iff.1 ht k hk
      have hv : violF n b t k = true := viol_iff.2 ⟨⟨i, h1, h2⟩, fun j hj => h3 j ⟨hj.1, by rw [Nat.testBit_or, hj.2, Bool.or_true]⟩⟩
      rw [h4] at hv; cases hv
theorem isS_iff {n : NetV} {s : Nat} (hs : s < 18446744073709551616) : isS n s = true ↔ okN n = true ∧ Sub s (Bt.allV n.ps.length) := by
  unfold isS
  rw [Bool.and_eq_true, Bt.sub_iff hs (all_lt _)]
  exact Iff.rfl
theorem sip_iff {n : NetV} {b : Bool} {s : Nat} (hs : s < 18446744073709551616) : sipB n b s = true ↔ okN n = true ∧ Sub s (Bt.allV n.ps.length) ∧ closedB n b s = true := by
  unfold sipB
  rw [Bool.and_eq_true, isS_iff hs, and_assoc]
theorem sip_union {n : NetV} {b : Bool} {s t : Nat} (hs : s < 18446744073709551616) (ht : t < 18446744073709551616) (h1 : sipB n b s = true) (h2 : sipB n b t = true) : sipB n b (s ||| t) = true := by
  rw [sip_iff hs] at h1
  rw [sip_iff ht] at h2
  rw [sip_iff (Bt.or_lt hs ht)]
  refine ⟨h1.1, fun i hi => ?_, closed_union h1.2.2 h2.2.2⟩
  rw [Nat.testBit_or, Bool.or_eq_true] at hi
  rcases hi with hi | hi
  · exact h1.2.1 i hi
  · exact h2.2.1 i hi
theorem sub_lt {a b : Nat} (h : Sub a b) (hb : b < 18446744073709551616) : a < 18446744073709551616 := by
  refine Nat.lt_of_le_of_lt ?_ hb
  have e : a = a &&& b := Nat.eq_of_testBit_eq fun i => by
    rw [Nat.testBit_and]
    cases e1 : a.testBit i
    · rfl
    · rw [h i e1]; rfl
  rw [e]
  exact Nat.and_le_right
theorem max_lt {n : NetV} {b : Bool} {s : Nat} (hs : s < 18446744073709551616) : maxG n b s < 18446744073709551616 := by
  unfold maxG
  split
  · exact sub_lt (grS_is (within_lt n hs)).sub (within_lt n hs)
  · decide
theorem sip_max {n : NetV} {b : Bool} {s : Nat} (hs : s < 18446744073709551616) (hok : okN n = true) : sipB n b (maxG n b s) = true := by
  rw [sip_iff (max_lt hs)]
  have h : maxG n b s = grS n b (withinS n s) := if_pos hok
  rw [h]
  have g := grS_is (n := n) (b := b) (within_lt n hs)
  refine ⟨hok, fun i hi => ?_, g.closed⟩
  have := g.sub i hi
  unfold withinS at this
  rw [Nat.testBit_and, Bool.and_eq_true] at this
  exact this.2
theorem max_sip {n : NetV} {b : Bool} {s : Nat} (hs : s < 18446744073709551616) (h : sipB n b s = true) : maxG n b s = s := by
  rw [sip_iff hs] at h
  have e : maxG n b s = grS n b (withinS n s) := if_pos h.1
  have e2 : withinS n s = s := by
    unfold withinS
    apply Nat.eq_of_testBit_eq
    intro i
    rw [Nat.testBit_and]
    cases e1 : s.testBit i
    · rfl
    · rw [h.2.1 i e1]; rfl
  rw [e, e2]
  exact (grS_eq hs ⟨fun _ h => h, h.2.2, fun _ h _ => h⟩).symm
end Go.Proofs.Ytjibpkaanaphcaa
