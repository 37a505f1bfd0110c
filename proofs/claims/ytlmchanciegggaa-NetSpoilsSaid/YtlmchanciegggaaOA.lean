/- What the law on opposites wants: contains, and which places and transitions stand in the lists. -/
import Derived.Test.YtlmchanciegggaaLD0
namespace Go.Proofs.Ytlmchanciegggaa
open Go.RowKit

theorem at0_mem {L : List Int} {k : Nat} (hk : k < L.length) : at0 L k ∈ L := by
  unfold at0; rw [List.getElem?_eq_getElem hk]; exact List.getElem_mem hk
theorem not_mem_at0 {L : List Int} {x : Int} (h : ∀ j, j < L.length → at0 L j ≠ x) : x ∉ L := fun hm => by
  obtain ⟨i, hi, e⟩ := List.getElem_of_mem hm
  refine h i hi ?_
  unfold at0; rw [List.getElem?_eq_getElem hi]; exact e
set_option maxHeartbeats 1000000 in
theorem contains_any (A : Option Addr) (L : List Int) (c : Nat) (x : Int) (w : World) (ra : ReadsV w A L) (hl : L.length ≤ 1000) :
    Calls Try.prog 46 #[.slice A L.length c, .int .i64 x] w (VPost w.heap.size w (.bool (decide (x ∈ L)))) := by
  have HY : Hid (∀ k, k < L.length → at0 L k = x → decide (x ∈ L) = true) := fun k hk e => by rw [decide_eq_true_eq, ← e]; exact at0_mem hk
  have HZ : Hid ((∀ j, j < L.length → at0 L j ≠ x) → decide (x ∈ L) = false) := fun h => by rw [decide_eq_false_iff_not]; exact not_mem_at0 h
  have RA := Lib.hid ra
  clear ra
  generalize decide (x ∈ L) = S at *
  generalize hg : w.heap.size = g at *
  have HG := Lib.hid hg
  clear hg
  generalize hn : L.length = n at *
  have HN := Lib.hid hn
  clear hn
  go_enter Try.func46, Try.ntmps46
  go_wp2_with fail
  go_loopw [5] (fun q wr => ∃ k : Nat, k ≤ n ∧ q = .int .i64 k ∧ Hid (Below g w wr) ∧ Hid (∀ j, j < k → at0 L j ≠ x)) (fun q _ => n - (intOf q).toNat)
  case atStart => exact ⟨0, by omega, rfl, Below.refl _ _, fun j hj => absurd hj (by omega)⟩
  case round =>
    obtain ⟨k, hk, rfl, B1, HM⟩ := hrel
    by_cases hlt : k < n
    · obtain ⟨ba, oa, e1, hx⟩ := at_of_reads (RA.out.below B1.out (by rw [HG.out]; exact Nat.le_refl _)) k (by rw [HN.out]; exact hlt)
      subst e1
      have HV := Lib.hid (HY.out k hlt)
      have HM2 : Hid (at0 L k ≠ x → ∀ j, j < k + 1 → at0 L j ≠ x) := fun h j hj => by
        by_cases e : j = k
        · rw [e]; exact h
        · exact HM.out j (by omega)
      clear HM
      generalize at0 L k = y at *
      by_cases he : y = x
      · have E := Lib.hid (HV.out he).symm
        subst he
        clear HV HM2
        go_wp2_with fail
        go_wp2
        go_ret
        exact ⟨ret_b E.out, B1.out⟩
      · have G := Lib.hid (HM2.out he)
        have he2 : (y == x) = false := by simpa using he
        clear HV HM2
        go_wp2_with fail
        go_wp2
        go_roundw
        case rel => exact ⟨k + 1, by omega, by go_num, B1.out, G⟩
        case measure => simp [intOf]; omega
    · have E := Lib.hid (HZ.out (fun j hj => HM.out j (by omega))).symm
      clear HM
      go_wp2
      go_ret
      exact ⟨ret_b E.out, B1.out⟩
theorem targets_weight {m : Nat} {l : List (Int × Int)} {p : Int} (h : arcsE m l = 0) : p ∈ targetsV l ↔ 0 < weightV l p := by
  rcases firstI_cases (fun j => decide (aP l j = p)) l.length with ⟨_, h1⟩ | ⟨k, hk, _, ht, hb⟩
  · rw [weightV_none h1]
    refine ⟨fun hm => ?_, fun hm => absurd hm (by omega)⟩
    obtain ⟨q, hq, e⟩ := List.mem_map.1 hm
    obtain ⟨i, hi, e2⟩ := List.getElem_of_mem hq
    have := of_decide_eq_false (h1 i hi)
    refine absurd ?_ this
    unfold aP
    rw [List.getElem?_eq_getElem hi, Option.getD_some, e2, e]
  · have e := of_decide_eq_true ht
    rw [weightV_at hk hb e]
    have := (arcsE_parts h k hk).2.2.2.1
    refine ⟨fun _ => by omega, fun _ => ?_⟩
    refine List.mem_map.2 ⟨l[k], List.getElem_mem hk, ?_⟩
    rw [← e]
    unfold aP
    rw [List.getElem?_eq_getElem hk, Option.getD_some]
theorem weight_bd {m : Nat} {l : List (Int × Int)} {p : Int} (h : arcsE m l = 0) : 0 ≤ weightV l p ∧ weightV l p ≤ 99 := by
  rcases firstI_cases (fun j => decide (aP l j = p)) l.length with ⟨_, h1⟩ | ⟨k, hk, _, ht, hb⟩
  · rw [weightV_none h1]; omega
  · rw [weightV_at hk hb (of_decide_eq_true ht)]
    have := arcsE_parts h k hk
    omega
theorem pick_mem {f : Nat → Bool} {n t : Nat} (ht : t < n) : (t : Int) ∈ pickI f n ↔ f t = true := by
  unfold pickI
  rw [List.mem_map]
  constructor
  · rintro ⟨k, hk, e⟩
    have : k = t := by omega
    subst this
    exact (List.mem_filter.1 hk).2
  · intro h
    exact ⟨t, List.mem_filter.2 ⟨List.mem_range.2 ht, h⟩, rfl⟩
theorem opp {n : NetV} (h : okN n = true) {t : Nat} (ht : t < n.ts.length) (p : Nat) :
    preN n t p = weightV (tA n.ts t).pre.l p ∧ postN n t p = weightV (tA n.ts t).post.l p ∧
    decide ((p : Int) ∈ inputsN n t) = decide (0 < weightV (tA n.ts t).pre.l p) ∧ decide ((p : Int) ∈ outputsN n t) = decide (0 < weightV (tA n.ts t).post.l p) ∧
    decide ((t : Int) ∈ consumersN n p) = decide (0 < weightV (tA n.ts t).pre.l p) ∧ decide ((t : Int) ∈ producersN n p) = decide (0 < weightV (tA n.ts t).post.l p) ∧
    (0 ≤ weightV (tA n.ts t).pre.l p ∧ weightV (tA n.ts t).pre.l p ≤ 99) ∧ (0 ≤ weightV (tA n.ts t).post.l p ∧ weightV (tA n.ts t).post.l p ≤ 99) := by
  obtain ⟨_, _, _, _, _, h6⟩ := okN_parts h
  obtain ⟨_, _, _, _, _, a1, a2, _⟩ := transE_parts (h6 t ht)
  have hi : isT n (t : Int) = true := isT_val.2 ⟨by omega, by omega, h⟩
  have et : ((t : Int)).toNat = t := by omega
  refine ⟨?_, ?_, ?_, ?_, ?_, ?_, weight_bd a1, weight_bd a2⟩
  · unfold preN; rw [if_pos hi, et]
  · unfold postN; rw [if_pos hi, et]
  · unfold inputsN; rw [if_pos hi, et]; exact decide_eq_decide.2 (targets_weight a1)
  · unfold outputsN; rw [if_pos hi, et]; exact decide_eq_decide.2 (targets_weight a2)
  · unfold consumersN; rw [if_pos h]; refine decide_eq_decide.2 ((pick_mem ht).trans ?_); unfold conF; exact decide_eq_true_iff
  · unfold producersN; rw [if_pos h]; refine decide_eq_decide.2 ((pick_mem ht).trans ?_); unfold proF; exact decide_eq_true_iff
end Go.Proofs.Ytlmchanciegggaa
