/- Unions of closed sets are closed; a closed set is its own greatest one. The places without tokens, as a set; those of a deadlock form a siphon. -/
import Derived.Test.YtjibpkaanaphcaaSH
import Derived.Test.YtjibpkaanaphcaaSD
import Derived.Test.YtjibpkaanaphcaaFZ1
namespace Go.Proofs.Ytjibpkaanaphcaa
open Go.RowKit

theorem closed_union {n : NetV} {b : Bool} {s t : Nat} (hs : closedB n b s = true) (ht : closedB n b t = true) : closedB n b (s ||| t) = true := by
  refine closed_iff.2 fun k hk => ?_
  cases e : violF n b (s ||| t) k
  · rfl
  · exfalso
    obtain ⟨⟨i, h1, h2⟩, h3⟩ := viol_iff.1 e
    rw [Nat.testBit_or, Bool.or_eq_true] at h2
    rcases h2 with h2 | h2
    · have h4 := closed_iff.1 hs k hk
      have hv : violF n b s k = true := viol_iff.2 ⟨⟨i, h1, h2⟩, fun j hj => h3 j ⟨hj.1, by rw [Nat.testBit_or, hj.2]; rfl⟩⟩
      rw [h4] at hv; cases hv
    · have h4 := closed_iff.1 ht k hk
      have hv : violF n b t k = true := viol_iff.2 ⟨⟨i, h1, h2⟩, fun j hj => h3 j ⟨hj.1, by rw [Nat.testBit_or, hj.2, Bool.or_true]⟩⟩
      rw [h4] at hv; cases hv
theorem isS_iff {n : NetV} {s : Nat} (hs : s < 18446744073709551616) : isS n s = true ↔ okN n = true ∧ Sub s (Bt.allV n.ps.length) := by
  unfold isS
  rw [Bool.and_eq_true, Bt.sub_iff hs (all_lt _)]
  exact Iff.rfl
theorem sip_iff {n : NetV} {b : Bool} {s : Nat} (hs : s < 18446744073709551616) : sipB n b s = true ↔ okN n = true ∧ Sub s (Bt.allV n.ps.length) ∧ closedB n b s = true := by
  unfold sipB
  rw [Bool.and_eq_true, isS_iff hs, and_assoc]
theorem sip_union {n : NetV} {b : Bool} {s t : Nat} (hs : s < 18446744073709551616) (ht : t < 18446744073709551616) (h1 : sipB n b s = true) (h2 : sipB n b t = true) : sipB n b (s ||| t) = true := by
  rw [sip_iff hs] at h1
  rw [sip_iff ht] at h2
  rw [sip_iff (Bt.or_lt hs ht)]
  refine ⟨h1.1, fun i hi => ?_, closed_union h1.2.2 h2.2.2⟩
  rw [Nat.testBit_or, Bool.or_eq_true] at hi
  rcases hi with hi | hi
  · exact h1.2.1 i hi
  · exact h2.2.1 i hi
theorem sub_lt {a b : Nat} (h : Sub a b) (hb : b < 18446744073709551616) : a < 18446744073709551616 := by
  refine Nat.lt_of_le_of_lt ?_ hb
  have e : a = a &&& b := Nat.eq_of_testBit_eq fun i => by
    rw [Nat.testBit_and]
    cases e1 : a.testBit i
    · rfl
    · rw [h i e1]; rfl
  rw [e]
  exact Nat.and_le_right
theorem max_lt {n : NetV} {b : Bool} {s : Nat} (hs : s < 18446744073709551616) : maxG n b s < 18446744073709551616 := by
  unfold maxG
  split
  · exact sub_lt (grS_is (within_lt n hs)).sub (within_lt n hs)
  · decide
theorem sip_max {n : NetV} {b : Bool} {s : Nat} (hs : s < 18446744073709551616) (hok : okN n = true) : sipB n b (maxG n b s) = true := by
  rw [sip_iff (max_lt hs)]
  have h : maxG n b s = grS n b (withinS n s) := if_pos hok
  rw [h]
  have g := grS_is (n := n) (b := b) (within_lt n hs)
  refine ⟨hok, fun i hi => ?_, g.closed⟩
  have := g.sub i hi
  unfold withinS at this
  rw [Nat.testBit_and, Bool.and_eq_true] at this
  exact this.2
theorem max_sip {n : NetV} {b : Bool} {s : Nat} (hs : s < 18446744073709551616) (h : sipB n b s = true) : maxG n b s = s := by
  rw [sip_iff hs] at h
  have e : maxG n b s = grS n b (withinS n s) := if_pos h.1
  have e2 : withinS n s = s := by
    unfold withinS
    apply Nat.eq_of_testBit_eq
    intro i
    rw [Nat.testBit_and]
    cases e1 : s.testBit i
    · rfl
    · rw [h.2.1 i e1]; rfl
  rw [e, e2]
  exact (grS_eq hs ⟨fun _ h => h, h.2.2, fun _ h _ => h⟩).symm
end Go.Proofs.Ytjibpkaanaphcaa

namespace Go.Proofs.Ytjibpkaanaphcaa
open Go.RowKit

def emS (m : List Int) : Nat → Nat
  | 0 => 0
  | k + 1 => if at0 m k = 0 then Bt.withV (emS m k) (k : Int) else emS m k
theorem emS_bit (m : List Int) : ∀ k, k ≤ 64 → ∀ i, (emS m k).testBit i = decide (i < k ∧ at0 m i = 0)
  | 0, _, i => by simp [emS]
  | k + 1, hk, i => by
    have ih := emS_bit m k (by omega) i
    rw [emS]
    split
    · rename_i h
      rw [Bt.testBit_withV _ _ _ (by omega), ih, Bool.eq_iff_iff]
      simp only [Bool.or_eq_true, decide_eq_true_eq]
      constructor
      · rintro (⟨a, b⟩ | rfl)
        · exact ⟨by omega, b⟩
        · exact ⟨by omega, h⟩
      · rintro ⟨a, b⟩
        by_cases e : k = i
        · exact .inr e
        · exact .inl ⟨by omega, b⟩
    · rename_i h
      rw [ih, decide_eq_decide]
      constructor
      · rintro ⟨a, b⟩
        exact ⟨by omega, b⟩
      · rintro ⟨a, b⟩
        refine ⟨?_, b⟩
        by_cases e : i = k
        · subst e
          exact absurd b h
        · omega
theorem emS_lt (m : List Int) : ∀ k, emS m k < 18446744073709551616
  | 0 => by unfold emS; decide
  | k + 1 => by
    rw [emS]
    split
    · exact Bt.or_lt (emS_lt m k) (Bt.sgl_lt _)
    · exact emS_lt m k
theorem plain_parts {n : NetV} (h : plainN n = true) : okN n = true ∧ (∀ t, t < n.ts.length → (tA n.ts t).inh.l.length = 0 ∧ (tA n.ts t).prio = 0) ∧ ∀ p, p < n.ps.length → (pA n.ps p).cap = 0 := by
  unfold plainN at h
  rw [Bool.and_eq_true, Bool.and_eq_true, Bool.not_eq_true', Bool.not_eq_true', anyB_false, anyB_false] at h
  refine ⟨h.1, fun t ht => ?_, fun p hp => ?_⟩
  · have := of_decide_eq_false (h.2.1 t ht)
    omega
  · have := of_decide_eq_false (h.2.2 p hp)
    omega
theorem heavy_no {l : List (Int × Int)} (h : heavyV l = false) : ∀ j, j < l.length → aW l j = 1 := fun j hj => by
  unfold heavyV at h
  have := of_decide_eq_false (anyB_false.1 h j hj)
  omega
theorem ordinary_parts {n : NetV} (h : ordinaryN n = true) : ∀ t, t < n.ts.length → (∀ j, j < (tA n.ts t).pre.l.length → aW (tA n.ts t).pre.l j = 1) ∧ ∀ j, j < (tA n.ts t).post.l.length → aW (tA n.ts t).post.l j = 1 := fun t ht => by
  unfold ordinaryN at h
  rw [Bool.and_eq_true, Bool.not_eq_true', anyB_false] at h
  have := h.2 t ht
  unfold hvF at this
  rw [Bool.or_eq_false_iff] at this
  exact ⟨heavy_no this.1, heavy_no this.2⟩
theorem all_bit' {p i : Nat} (h : i < p) (hp : p ≤ 64) : (Bt.allV p).testBit i = true := by
  unfold Bt.allV
  rw [Nat.testBit_two_pow_sub_one, decide_eq_true_eq]
  omega
theorem trg_bit {n : NetV} {l : List (Int × Int)} (h : arcsE n.ps.length l = 0) (hn : n.ps.length ≤ 24) {j : Nat} (hj : j < l.length) : (Bt.ofV (targetsV l)).testBit (aP l j).toNat = true := by
  have := arcsE_parts h j hj
  rw [of_bit, decide_eq_true_eq]
  exact ⟨by omega, mem_targets.2 ⟨j, hj, by omega⟩⟩
theorem dead_sip {n : NetV} {m : List Int} (hp : plainN n = true) (ho : ordinaryN n = true) (hd : deadB n m = true) : sipB n true (emS m m.length) = true := by
  unfold deadB goodN at hd
  rw [Bool.and_eq_true, Bool.and_eq_true] at hd
  obtain ⟨⟨hok, hval⟩, hz⟩ := hd
  obtain ⟨hml, hnat⟩ := validL_parts hval
  have hz := of_decide_eq_true hz
  have h24 := (okN_parts hok).2.2.1
  obtain ⟨_, hp1, hp2⟩ := plain_parts hp
  rw [sip_iff (emS_lt _ _)]
  refine ⟨hok, fun i hi => ?_, closed_iff.2 fun t ht => ?_⟩
  · rw [emS_bit _ _ (by omega), decide_eq_true_eq] at hi
    exact all_bit' (by omega) (by omega)
  · cases e : violF n true (emS m m.length) t
    · rfl
    · exfalso
      obtain ⟨_, h3⟩ := viol_iff.1 e
      have hx := okN_arcs hok t ht
      have r : readyB n m t = true := by
        refine ready_yes hnat hx (anyB_false.2 fun j hj => ?_) (anyB_false.2 fun j hj => ?_) fun p hp => ?_
        · have ha := arcsE_parts hx.pre j hj
          have hw := (ordinary_parts ho t ht).1 j hj
          have hn := natL_at hnat (aP (tA n.ts t).pre.l j).toNat
          refine decide_eq_false fun c => ?_
          refine h3 (aP (tA n.ts t).pre.l j).toNat ⟨?_, ?_⟩
          · show (Bt.ofV (targetsV (tA n.ts t).pre.l)).testBit _ = true
            exact trg_bit hx.pre h24 hj
          · rw [emS_bit _ _ (by omega), decide_eq_true_eq]
            exact ⟨by omega, by omega⟩
        · have := (hp1 t ht).1
          omega
        · unfold capF
          rw [hp2 p hp]
          simp
      have may : mayB n m t = true := mayB_yes r fun o ho' => moreF_no (by rw [(hp1 t ht).2, (hp1 o ho').2]; omega)
      have mem : (t : Int) ∈ firesV n m := mem_fires.2 ⟨by omega, by omega, by simpa using may⟩
      rw [List.length_eq_zero_iff.1 hz] at mem
      cases mem
end Go.Proofs.Ytjibpkaanaphcaa
