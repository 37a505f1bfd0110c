/- Weights, targets, who stands in which list: the plain facts. -/
import Derived.Test.YtlbcdnobpnllkaaGreatMF
namespace Go.Proofs.YtlbcdnobpnllkaaGreat
open Go.RowKit

theorem at0_mem {L : List Int} {k : Nat} (hk : k < L.length) : at0 L k ∈ L := by
  unfold at0; rw [List.getElem?_eq_getElem hk]; exact List.getElem_mem hk
theorem not_mem_at0 {L : List Int} {x : Int} (h : ∀ j, j < L.length → at0 L j ≠ x) : x ∉ L := fun hm => by
  obtain ⟨i, hi, e⟩ := List.getElem_of_mem hm
  refine h i hi ?_
  unfold at0; rw [List.getElem?_eq_getElem hi]; exact e
theorem targets_weight {m : Nat} {l : List (Int × Int)} {p : Int} (h : arcsE m l = 0) : p ∈ targetsV l ↔ 0 < weightV l p := by
  rcases firstI_cases (fun j => decide (aP l j = p)) l.length with ⟨_, h1⟩ | ⟨k, hk, _, ht, hb⟩
  · rw [weightV_none h1]
    refine ⟨fun hm => ?_, fun hm => absurd hm (by omega)⟩
    obtain ⟨q, hq, e⟩ := List.mem_map.1 hm
    obtain ⟨i, hi, e2⟩ := List.getElem_of_mem hq
    have := of_decide_eq_false (h1 i hi)
    refine absurd ?_ this
    unfold aP
    rw [List.getElem?_eq_getElem hi, Option.getD_some, e2, e]
  · have e := of_decide_eq_true ht
    rw [weightV_at hk hb e]
    have := (arcsE_parts h k hk).2.2.2.1
    refine ⟨fun _ => by omega, fun _ => ?_⟩
    refine List.mem_map.2 ⟨l[k], List.getElem_mem hk, ?_⟩
    rw [← e]
    unfold aP
    rw [List.getElem?_eq_getElem hk, Option.getD_some]
theorem weight_bd {m : Nat} {l : List (Int × Int)} {p : Int} (h : arcsE m l = 0) : 0 ≤ weightV l p ∧ weightV l p ≤ 99 := by
  rcases firstI_cases (fun j => decide (aP l j = p)) l.length with ⟨_, h1⟩ | ⟨k, hk, _, ht, hb⟩
  · rw [weightV_none h1]; omega
  · rw [weightV_at hk hb (of_decide_eq_true ht)]
    have := arcsE_parts h k hk
    omega
theorem pick_mem {f : Nat → Bool} {n t : Nat} (ht : t < n) : (t : Int) ∈ pickI f n ↔ f t = true := by
  unfold pickI
  rw [List.mem_map]
  constructor
  · rintro ⟨k, hk, e⟩
    have : k = t := by omega
    subst this
    exact (List.mem_filter.1 hk).2
  · intro h
    exact ⟨t, List.mem_filter.2 ⟨List.mem_range.2 ht, h⟩, rfl⟩
theorem opp {n : NetV} (h : okN n = true) {t : Nat} (ht : t < n.ts.length) (p : Nat) :
    True ∧ True ∧
    decide ((p : Int) ∈ inputsN n t) = decide (0 < weightV (tA n.ts t).pre.l p) ∧ decide ((p : Int) ∈ outputsN n t) = decide (0 < weightV (tA n.ts t).post.l p) ∧
    decide ((t : Int) ∈ consumersN n p) = decide (0 < weightV (tA n.ts t).pre.l p) ∧ decide ((t : Int) ∈ producersN n p) = decide (0 < weightV (tA n.ts t).post.l p) ∧
    (0 ≤ weightV (tA n.ts t).pre.l p ∧ weightV (tA n.ts t).pre.l p ≤ 99) ∧ (0 ≤ weightV (tA n.ts t).post.l p ∧ weightV (tA n.ts t).post.l p ≤ 99) := by
  obtain ⟨_, _, _, _, _, h6⟩ := okN_parts h
  obtain ⟨_, _, _, _, _, a1, a2, _⟩ := transE_parts (h6 t ht)
  have hi : isT n (t : Int) = true := isT_val.2 ⟨by omega, by omega, h⟩
  have et : ((t : Int)).toNat = t := by omega
  refine ⟨?_, ?_, ?_, ?_, ?_, ?_, weight_bd a1, weight_bd a2⟩
  · trivial
  · trivial
  · unfold inputsN; rw [if_pos hi, et]; exact decide_eq_decide.2 (targets_weight a1)
  · unfold outputsN; rw [if_pos hi, et]; exact decide_eq_decide.2 (targets_weight a2)
  · unfold consumersN; rw [if_pos h]; refine decide_eq_decide.2 ((pick_mem ht).trans ?_); unfold conF; exact decide_eq_true_iff
  · unfold producersN; rw [if_pos h]; refine decide_eq_decide.2 ((pick_mem ht).trans ?_); unfold proF; exact decide_eq_true_iff
end Go.Proofs.YtlbcdnobpnllkaaGreat
