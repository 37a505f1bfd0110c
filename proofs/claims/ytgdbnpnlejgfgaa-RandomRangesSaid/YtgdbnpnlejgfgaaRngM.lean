/- Plain lists for the ranges: chosen indices have positive weights, and the exchanges keep a list of different numbers. -/
import Derived.Test.YtgdbnpnlejgfgaaShM
namespace Go.Proofs.Ytgdbnpnlejgfgaa
open Go.RowKit

theorem pick_pos : ∀ (l : List Int) (x : Int), 0 ≤ x → 0 ≤ pickR l x → pickR l x < l.length ∧ 1 ≤ l[(pickR l x).toNat]?.getD 0 := by
  intro l
  induction l with
  | nil => intro x _ h; simp [pickR] at h
  | cons w l ih =>
    intro x hx h
    unfold pickR at h ⊢
    by_cases c : x < w
    · rw [if_pos c] at h ⊢
      refine ⟨by simp, ?_⟩
      simp only [Int.toNat_zero, List.getElem?_cons_zero, Option.getD_some]
      omega
    · rw [if_neg c] at h ⊢
      have hs := ih (x - w) (by omega)
      generalize pickR l (x - w) = r at *
      by_cases d : r < 0
      · rw [if_pos d] at h; omega
      · rw [if_neg d] at h ⊢
        obtain ⟨h1, h2⟩ := hs (by omega)
        refine ⟨by simp; omega, ?_⟩
        have e : (r + 1).toNat = r.toNat + 1 := by omega
        rw [e, List.getElem?_cons_succ]
        exact h2

/-- different numbers from 0 to n - 1 -/
def Diff (n : Nat) (l : List Int) : Prop :=
  (∀ (a : Nat) (x : Int), l[a]? = some x → 0 ≤ x ∧ x < n) ∧ ∀ (a b : Nat) (x : Int), l[a]? = some x → l[b]? = some x → a = b
theorem Diff.mk (n : Nat) : Diff n (mkL n n) := by
  have g : ∀ (a : Nat) (x : Int), (mkL n n)[a]? = some x → a < n ∧ x = (a : Int) := by
    intro a x h
    have ha : a < n := by
      have := (List.getElem?_eq_some_iff.1 h).1
      simpa [mkL] using this
    simp [mkL, ha] at h
    exact ⟨ha, h.symm⟩
  refine ⟨fun a x h => ?_, fun a b x h k => ?_⟩
  · obtain ⟨h1, rfl⟩ := g a x h; omega
  · obtain ⟨_, h2⟩ := g a x h
    obtain ⟨_, k2⟩ := g b x k
    omega
/-- where an element of the exchanged list came from -/
def swapIx (i j m : Nat) : Nat := if m = j then i else if m = i then j else m
theorem swapL_at (l : List Int) (i j m : Nat) (hi : i < l.length) (hj : j < l.length) : (swapL l i j)[m]? = l[swapIx i j m]? := by
  unfold swapL swapIx
  rw [List.getElem?_set]
  by_cases h1 : j = m
  · subst h1
    rw [if_pos rfl, if_pos rfl]
    simp [hj, hi]
  · rw [if_neg h1, if_neg (fun e => h1 e.symm), List.getElem?_set]
    by_cases h2 : i = m
    · subst h2
      rw [if_pos rfl, if_pos rfl]
      simp [hi, hj]
    · rw [if_neg h2, if_neg (fun e => h2 e.symm)]
theorem swapIx_inj (i j a b : Nat) (h : swapIx i j a = swapIx i j b) : a = b := by
  unfold swapIx at h
  repeat' split at h
  all_goals omega
theorem Diff.swap {n : Nat} {l : List Int} (h : Diff n l) (i j : Nat) (hi : i < l.length) (hj : j < l.length) : Diff n (swapL l i j) := by
  refine ⟨fun a x e => ?_, fun a b x e f => ?_⟩
  · rw [swapL_at l i j a hi hj] at e
    exact h.1 _ x e
  · rw [swapL_at l i j _ hi hj] at e f
    exact swapIx_inj i j a b (h.2 _ _ x e f)
theorem Diff.shuf (n : Nat) (o st : Nat → Nat) : ∀ (i : Nat) (l : List Int) (s : Nat), i < l.length → Diff n l → Diff n (shufF o st i l s).1 ∧ (shufF o st i l s).1.length = l.length := by
  intro i
  induction i with
  | zero => intro l s _ h; exact ⟨h, rfl⟩
  | succ i ih =>
    intro l s hi h
    have hj : o (st s) % (i + 2) < l.length := Nat.lt_of_lt_of_le (Nat.mod_lt _ (by omega)) (by omega)
    have := ih (swapL l (i + 1) (o (st s) % (i + 2))) (st s) (by rw [swapL_len]; omega) (h.swap _ _ hi hj)
    rw [swapL_len] at this
    exact this

/-- which numbers have been seen among the first k -/
def seenL (n : Nat) (l : List Int) (k : Nat) : List Bool := (List.range n).map fun (x : Nat) => (l.take k).contains (x : Int)
theorem seenL_len (n : Nat) (l : List Int) (k : Nat) : (seenL n l k).length = n := by simp [seenL]
theorem seenL_zero (n : Nat) (l : List Int) : seenL n l 0 = List.replicate n false := by
  apply List.ext_getElem
  · simp [seenL]
  · intro i h1 h2; simp [seenL]
theorem seenL_set {n : Nat} {l : List Int} (k : Nat) (hk : k < l.length) (x : Nat) (hx : l[k]?.getD 0 = (x : Int)) : (seenL n l k).set x true = seenL n l (k + 1) := by
  apply List.ext_getElem
  · simp [seenL]
  · intro i h1 h2
    have hi : i < n := by simpa [seenL] using h2
    rw [List.getElem_set]
    simp only [seenL, List.getElem_map, List.getElem_range, take_snocI l k hk, hx, List.contains_eq_mem, List.mem_append, List.mem_singleton]
    by_cases h : x = i
    · subst h; simp
    · have : ¬ ((i : Int) = (x : Int)) := by omega
      simp [h, this]
theorem seenL_new {n : Nat} {l : List Int} (h : Diff n l) (k : Nat) (hk : k < l.length) (x : Nat) (hx : l[k]?.getD 0 = (x : Int)) (hn : x < n) : (seenL n l k)[x]? = some false := by
  have hkx : l[k]? = some (x : Int) := by rw [List.getElem?_eq_getElem hk] at hx ⊢; simpa using hx
  have hm : ¬ (x : Int) ∈ l.take k := by
    intro hmem
    obtain ⟨a, ha, e⟩ := List.getElem_of_mem hmem
    have ha' : a < k := by simp at ha; omega
    have e2 : l[a]? = some (x : Int) := by
      rw [List.getElem_take] at e
      rw [List.getElem?_eq_getElem (by omega), e]
    have := h.2 a k _ e2 hkx
    omega
  simp [seenL, hn, hm]

end Go.Proofs.Ytgdbnpnlejgfgaa
