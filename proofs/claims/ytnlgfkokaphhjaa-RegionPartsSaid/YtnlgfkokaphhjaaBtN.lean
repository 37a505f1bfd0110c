/- Plain mathematics of Minimal: the order, the sorted list without repetitions, what is kept of it. -/
import Derived.Test.YtnlgfkokaphhjaaBtF
namespace Go.Proofs.Ytnlgfkokaphhjaa.Bt
open Go.Shelf Go.Sort Go.Lib

theorem or_comp (a b c d : Int) : orV (Lib.compareInt a b) (Lib.compareInt c d) < 0 ↔ a < b ∨ (a = b ∧ c < d) := by
  unfold orV Lib.compareInt
  by_cases h1 : a < b
  · simp [h1]
  · by_cases h2 : a > b
    · simp [h1, h2]; omega
    · have e : a = b := by omega
      by_cases h3 : c < d
      · simp [h3, e]
      · by_cases h4 : c > d
        · simp [h3, h4, e]
        · simp [h3, h4, e]
theorem cf_iff (x y : U64) : cfU x y < 0 ↔ card x.1 < card y.1 ∨ (card x.1 = card y.1 ∧ x.1 < y.1) := by
  unfold cfU
  rw [or_comp]
  omega
def ltU (x y : U64) : Prop := card x.1 < card y.1 ∨ (card x.1 = card y.1 ∧ x.1 < y.1)
theorem ltOf_iff (x y : U64) : ltOf cfU x y = true ↔ ltU x y := by unfold ltOf ltU; rw [decide_eq_true_iff, cf_iff]
theorem ltU_asym (x y : U64) (h : ltU x y) : ¬ ltU y x := by unfold ltU at *; omega
theorem ltU_irrefl (x : U64) : ¬ ltU x x := by unfold ltU; omega
theorem ltU_trans {x y z : U64} (h : ltU x y) (k : ltU y z) : ltU x z := by unfold ltU at *; omega
theorem ltU_total {x y : U64} (h : ¬ ltU x y) (k : ¬ ltU y x) : x = y := by
  apply U64.ext
  unfold ltU at *
  omega
theorem swoU : SWO (ltOf cfU) where
  irrefl x := by cases h : ltOf cfU x x with | false => rfl | true => exact absurd ((ltOf_iff _ _).1 h) (ltU_irrefl x)
  trans x y z h1 h2 := (ltOf_iff _ _).2 (ltU_trans ((ltOf_iff _ _).1 h1) ((ltOf_iff _ _).1 h2))
  ntrans x y z h1 h2 := by
    cases h : ltOf cfU x z with
    | false => rfl
    | true =>
      have h3 := (ltOf_iff _ _).1 h
      have h1' : ¬ ltU x y := fun k => by rw [(ltOf_iff _ _).2 k] at h1; cases h1
      have h2' : ¬ ltU y z := fun k => by rw [(ltOf_iff _ _).2 k] at h2; cases h2
      unfold ltU at *
      omega
theorem totU (x y : U64) (h1 : ltOf cfU x y = false) (h2 : ltOf cfU y x = false) : x = y :=
  ltU_total (fun k => by rw [(ltOf_iff _ _).2 k] at h1; cases h1) (fun k => by rw [(ltOf_iff _ _).2 k] at h2; cases h2)

def sortU (l : List U64) : List U64 := l.mergeSort fun x y => !(ltOf cfU) y x
theorem mem_sortU (l : List U64) (x : U64) : x ∈ sortU l ↔ x ∈ l := List.mem_mergeSort
theorem len_sortU (l : List U64) : (sortU l).length = l.length := List.length_mergeSort l
theorem sortU_pairwise (l : List U64) : (sortU l).Pairwise fun x y => ¬ ltU y x := by
  have h := List.pairwise_mergeSort (le := fun x y => !(ltOf cfU) y x) (fun a b c h1 h2 => by
    simp only [Bool.not_eq_true'] at *
    exact swoU.ntrans c b a h2 h1) (fun a b => by
    cases h1 : ltOf cfU b a
    · simp
    · have : ltOf cfU a b = false := by
        cases h2 : ltOf cfU a b with
        | false => rfl
        | true => exact absurd ((ltOf_iff _ _).1 h2) (ltU_asym _ _ ((ltOf_iff _ _).1 h1))
      simp [this]) l
  rw [List.pairwise_iff_getElem] at h ⊢
  intro i j hi hj hij k
  have hxy : (!ltOf cfU (sortU l)[j] (sortU l)[i]) = true := h i j hi hj hij
  rw [(ltOf_iff _ _).2 k] at hxy
  cases hxy
/-- without repetitions -/
def dedU (l : List U64) : List U64 := compactUpTo (sortU l).toArray (sortU l).toArray.size
theorem ded_spec (d : Array U64) (hp : ∀ i j, i < j → j < d.size → ¬ ltU d[j]! d[i]!) : ∀ m, m ≤ d.size →
    (compactUpTo d m).Pairwise ltU ∧ (∀ x, x ∈ compactUpTo d m ↔ ∃ j, j < m ∧ d[j]! = x) ∧ (compactUpTo d m).length ≤ m
  | 0, _ => ⟨by simp [compactUpTo], fun x => by simp [compactUpTo], by simp [compactUpTo]⟩
  | m + 1, hm => by
    obtain ⟨h1, h2, h3⟩ := ded_spec d hp m (by omega)
    rw [compactUpTo_succ]
    by_cases hk : m = 0 ∨ d[m]! ≠ d[m - 1]!
    · have hkeep : keeps d m = true := by unfold keeps; exact decide_eq_true hk
      rw [if_pos hkeep]
      refine ⟨?_, fun x => ?_, by simp; omega⟩
      · rw [List.pairwise_append]
        refine ⟨h1, by simp, fun x hx y hy => ?_⟩
        obtain ⟨j, hj, hjx⟩ := (h2 x).1 hx
        simp at hy
        subst hy
        have hm0 : m ≠ 0 := by omega
        have hne : d[m]! ≠ d[m - 1]! := hk.resolve_left hm0
        have a1 : ¬ ltU d[m]! d[m - 1]! := hp (m - 1) m (by omega) (by omega)
        have a2 : ltU d[m - 1]! d[m]! := Classical.byContradiction fun h => hne (ltU_total a1 h)
        rw [← hjx]
        by_cases e : j = m - 1
        · rw [e]; exact a2
        · have a3 : ¬ ltU d[m - 1]! d[j]! := hp j (m - 1) (by omega) (by omega)
          unfold ltU at *
          omega
      · rw [List.mem_append, h2]
        constructor
        · rintro (⟨j, hj, e⟩ | hx)
          · exact ⟨j, by omega, e⟩
          · simp at hx; exact ⟨m, by omega, hx.symm⟩
        · rintro ⟨j, hj, e⟩
          by_cases e1 : j = m
          · right; rw [← e, e1]; simp
          · exact .inl ⟨j, by omega, e⟩
    · have hkeep : keeps d m = false := by unfold keeps; exact decide_eq_false hk
      rw [hkeep]
      simp only [Bool.false_eq_true, if_false, List.append_nil]
      have hm0 : m ≠ 0 := fun e => hk (.inl e)
      have he : d[m]! = d[m - 1]! := Classical.byContradiction fun h => hk (.inr h)
      refine ⟨h1, fun x => ?_, by omega⟩
      rw [h2]
      constructor
      · rintro ⟨j, hj, e⟩; exact ⟨j, by omega, e⟩
      · rintro ⟨j, hj, e⟩
        by_cases e1 : j = m
        · exact ⟨m - 1, by omega, by rw [← e, e1, he]⟩
        · exact ⟨j, by omega, e⟩
theorem dedU_spec (l : List U64) : (dedU l).Pairwise ltU ∧ (∀ x, x ∈ dedU l ↔ x ∈ l) ∧ (dedU l).length ≤ l.length := by
  have hs := sortU_pairwise l
  have hm := mem_sortU l
  have hl := len_sortU l
  unfold dedU
  generalize sortU l = s at *
  have hget : ∀ j, (h : j < s.length) → s.toArray[j]! = s[j] := fun j h => by simp [h]
  obtain ⟨h1, h2, h3⟩ := ded_spec s.toArray (fun i j hij hj => by
    have hj' : j < s.length := by simpa using hj
    rw [hget j hj', hget i (by omega)]
    exact List.pairwise_iff_getElem.1 hs i j (by omega) hj' hij) s.toArray.size (Nat.le_refl _)
  refine ⟨h1, fun x => ?_, by rw [← hl]; simpa using h3⟩
  rw [h2, ← hm]
  constructor
  · rintro ⟨j, hj, e⟩
    have hj' : j < s.length := by simpa using hj
    rw [hget j hj'] at e
    rw [← e]
    exact List.getElem_mem hj'
  · intro hx
    obtain ⟨j, hj, e⟩ := List.getElem_of_mem hx
    exact ⟨j, by simpa using hj, by rw [hget j hj]; exact e⟩
/-- what is kept of them -/
def stepF (acc : List U64) (s : U64) : List U64 := if acc.any (fun m => subV m.1 s.1) then acc else acc ++ [s]
def keepF (D : List U64) : List U64 := D.foldl stepF []
theorem keepF_snoc (D : List U64) (s : U64) : keepF (D ++ [s]) = stepF (keepF D) s := by unfold keepF; rw [List.foldl_append]; rfl
def minU (l : List U64) : List U64 := keepF (dedU l)
structure KeepInv (p kept : List U64) : Prop where
  sub : ∀ x ∈ kept, x ∈ p
  some_ : ∀ x ∈ p, ∃ k ∈ kept, subV k.1 x.1 = true
  min : ∀ x ∈ kept, ∀ y ∈ p, subV y.1 x.1 = true → y = x
  ord : kept.Pairwise ltU
  len : kept.length ≤ p.length
theorem not_after {x s : U64} (h : ltU x s) (hs : subV s.1 x.1 = true) : s = x := by
  refine Classical.byContradiction fun hne => ?_
  have := card_lt s.2 x.2 hs (fun e => hne (U64.ext e))
  unfold ltU at h
  omega
theorem KeepInv.step {p kept : List U64} (h : KeepInv p kept) (s : U64) (hs : ∀ x ∈ p, ltU x s) : KeepInv (p ++ [s]) (stepF kept s) := by
  unfold stepF
  cases ha : kept.any fun m => subV m.1 s.1
  · rw [if_neg (by decide)]
    have hno : ∀ k ∈ kept, subV k.1 s.1 = false := fun k hk => by
      cases e : subV k.1 s.1 with
      | false => rfl
      | true => rw [List.any_eq_true.2 ⟨k, hk, e⟩] at ha; cases ha
    refine ⟨fun x hx => ?_, fun x hx => ?_, fun x hx y hy hyx => ?_, ?_, by simp; exact h.len⟩
    · rcases List.mem_append.1 hx with h1 | h1
      · exact List.mem_append.2 (.inl (h.sub x h1))
      · exact List.mem_append.2 (.inr h1)
    · rcases List.mem_append.1 hx with h1 | h1
      · obtain ⟨k, hk, hkx⟩ := h.some_ x h1
        exact ⟨k, List.mem_append.2 (.inl hk), hkx⟩
      · simp at h1
        subst h1
        exact ⟨x, by simp, sub_refl x.2⟩
    · rcases List.mem_append.1 hx with h1 | h1
      · rcases List.mem_append.1 hy with h2 | h2
        · exact h.min x h1 y h2 hyx
        · simp at h2
          subst h2
          exact not_after (hs x (h.sub x h1)) hyx
      · simp at h1
        subst h1
        rcases List.mem_append.1 hy with h2 | h2
        · obtain ⟨k, hk, hky⟩ := h.some_ y h2
          have := sub_trans k.2 y.2 x.2 hky hyx
          rw [hno k hk] at this
          cases this
        · simpa using h2
    · rw [List.pairwise_append]
      refine ⟨h.ord, by simp, fun x hx y hy => ?_⟩
      simp at hy
      subst hy
      exact hs x (h.sub x hx)
  · rw [if_pos rfl]
    obtain ⟨k0, hk0, hk1⟩ := List.any_eq_true.1 ha
    refine ⟨fun x hx => List.mem_append.2 (.inl (h.sub x hx)), fun x hx => ?_, fun x hx y hy hyx => ?_, h.ord, by have := h.len; simp; omega⟩
    · rcases List.mem_append.1 hx with h1 | h1
      · exact h.some_ x h1
      · simp at h1
        subst h1
        exact ⟨k0, hk0, hk1⟩
    · rcases List.mem_append.1 hy with h2 | h2
      · exact h.min x hx y h2 hyx
      · simp at h2
        subst h2
        exact not_after (hs x (h.sub x hx)) hyx
theorem keepF_inv : ∀ (n : Nat) (D : List U64), D.length = n → D.Pairwise ltU → KeepInv D (keepF D)
  | 0, D, hn, _ => by
    obtain rfl : D = [] := List.eq_nil_of_length_eq_zero hn
    exact ⟨(fun x hx => by cases hx), (fun x hx => by cases hx), (fun x hx => by cases hx), List.Pairwise.nil, Nat.le_refl _⟩
  | n + 1, D, hn, hp => by
    obtain ⟨p, s, rfl⟩ : ∃ p s, D = p ++ [s] := ⟨D.dropLast, D.getLast (fun e => by simp [e] at hn), (List.dropLast_concat_getLast _).symm⟩
    rw [List.pairwise_append] at hp
    rw [keepF_snoc]
    exact (keepF_inv n p (by simpa using hn) hp.1).step s fun x hx => hp.2.2 x hx s (by simp)
theorem minU_spec (l : List U64) : (minU l).Pairwise ltU ∧ (∀ x, x ∈ minU l ↔ x ∈ l ∧ ∀ y ∈ l, subV y.1 x.1 = true → y = x) ∧ (minU l).length ≤ l.length ∧ (∀ x ∈ l, ∃ k ∈ minU l, subV k.1 x.1 = true) := by
  obtain ⟨h1, h2, h3⟩ := dedU_spec l
  have h := keepF_inv _ (dedU l) rfl h1
  refine ⟨h.ord, fun x => ⟨fun hx => ⟨(h2 x).1 (h.sub x hx), fun y hy => h.min x hx y ((h2 y).2 hy)⟩, fun ⟨hx, hm⟩ => ?_⟩, Nat.le_trans h.len h3, fun x hx => h.some_ x ((h2 x).2 hx)⟩
  obtain ⟨k, hk, hkx⟩ := h.some_ x ((h2 x).2 hx)
  rw [← hm k ((h2 k).1 (h.sub k hk)) hkx]
  exact hk
end Go.Proofs.Ytnlgfkokaphhjaa.Bt
