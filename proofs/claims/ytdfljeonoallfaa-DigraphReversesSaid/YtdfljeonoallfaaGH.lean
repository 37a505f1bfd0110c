/- Heaps of numbers: the plain mathematics of sifting. -/
import Derived.Test.YtdfljeonoallfaaGT
namespace Go.Proofs.Ytdfljeonoallfaa

def swpH (q : Nat → Int) (i j : Nat) : Nat → Int := fun k => if k = i then q j else if k = j then q i else q k
theorem swpH_l (q : Nat → Int) (i j : Nat) : swpH q i j i = q j := by unfold swpH; rw [if_pos rfl]
theorem swpH_r (q : Nat → Int) (i j : Nat) : swpH q i j j = q i := by
  unfold swpH
  by_cases h : j = i
  · rw [if_pos h, h]
  · rw [if_neg h, if_pos rfl]
theorem swpH_o (q : Nat → Int) {i j k : Nat} (h1 : k ≠ i) (h2 : k ≠ j) : swpH q i j k = q k := by unfold swpH; rw [if_neg h1, if_neg h2]
/-- every one is at least its parent -/
def hOk (q : Nat → Int) (m : Nat) : Prop := ∀ i, 0 < i → i < m → q ((i - 1) / 2) ≤ q i
/-- but perhaps the one at j -/
structure hUp (q : Nat → Int) (m j : Nat) : Prop where
  par : ∀ i, 0 < i → i < m → i ≠ j → q ((i - 1) / 2) ≤ q i
  chd : ∀ i, 0 < i → i < m → (i - 1) / 2 = j → 0 < j → q ((j - 1) / 2) ≤ q i
/-- but perhaps the children of the one at i -/
structure hDn (q : Nat → Int) (n i : Nat) : Prop where
  par : ∀ k, 0 < k → k < n → (k - 1) / 2 ≠ i → q ((k - 1) / 2) ≤ q k
  chd : ∀ k, 0 < k → k < n → (k - 1) / 2 = i → 0 < i → q ((i - 1) / 2) ≤ q k
theorem hOk.least {q : Nat → Int} {m : Nat} (h : hOk q m) : ∀ i, i < m → q 0 ≤ q i := by
  intro i
  induction i using Nat.strongRecOn with
  | _ i ih =>
    intro hi
    by_cases h0 : i = 0
    · rw [h0]; exact Int.le_refl _
    · exact Int.le_trans (ih ((i - 1) / 2) (by omega) (by omega)) (h i (by omega) hi)
theorem hUp_step {q : Nat → Int} {m j p : Nat} (hj : 0 < j) (hp : (j - 1) / 2 = p) (hlt : q j < q p) (h : hUp q m j) : hUp (swpH q p j) m p where
  par := fun i h0 hi hne => by
    by_cases e : i = j
    · subst e
      rw [hp, swpH_l, swpH_r]
      omega
    · rw [swpH_o q hne e]
      obtain ⟨r, hr⟩ : ∃ r, r = (i - 1) / 2 := ⟨_, rfl⟩
      have h1 := h.par i h0 hi e
      rw [← hr] at h1 ⊢
      by_cases e1 : r = p
      · rw [e1, swpH_l]
        rw [e1] at h1
        omega
      · by_cases e2 : r = j
        · have h2 := h.chd i h0 hi (by omega) hj
          rw [hp] at h2
          rw [e2, swpH_r]
          exact h2
        · rw [swpH_o q e1 e2]
          exact h1
  chd := fun i h0 hi he hp0 => by
    have h1 := h.par p hp0 (by omega) (by omega)
    rw [swpH_o q (k := (p - 1) / 2) (by omega) (by omega)]
    by_cases e : i = j
    · rw [e, swpH_r]
      exact h1
    · rw [swpH_o q (k := i) (by omega) e]
      have h2 := h.par i h0 hi e
      rw [he] at h2
      omega
theorem hUp_end {q : Nat → Int} {m j : Nat} (h : hUp q m j) (he : j = 0 ∨ q ((j - 1) / 2) ≤ q j) : hOk q m := fun i h0 hi => by
  by_cases e : i = j
  · subst e
    rcases he with he | he
    · omega
    · exact he
  · exact h.par i h0 hi e
theorem hUp_push {q : Nat → Int} {m : Nat} (x : Int) (h : hOk q m) : hUp (fun k => if k = m then x else q k) (m + 1) m where
  par := fun i h0 hi hne => by
    show (if (i - 1) / 2 = m then x else q ((i - 1) / 2)) ≤ (if i = m then x else q i)
    rw [if_neg (by omega), if_neg hne]
    exact h i h0 (by omega)
  chd := fun i h0 hi he _ => by omega
theorem hDn_step {q : Nat → Int} {n i j : Nat} (hj : 0 < j) (hp : (j - 1) / 2 = i) (hmin : ∀ k, 0 < k → k < n → (k - 1) / 2 = i → q j ≤ q k) (hjn : j < n) (hlt : q j < q i) (h : hDn q n i) : hDn (swpH q i j) n j where
  par := fun k h0 hk hne => by
    by_cases e : k = j
    · subst e
      rw [hp, swpH_l, swpH_r]
      omega
    · by_cases e1 : k = i
      · subst e1
        rw [swpH_o q (k := (k - 1) / 2) (by omega) (by omega), swpH_l]
        exact h.chd j hj hjn hp h0
      · rw [swpH_o q e1 e]
        by_cases e2 : (k - 1) / 2 = i
        · rw [e2, swpH_l]
          exact hmin k h0 hk e2
        · rw [swpH_o q e2 hne]
          exact h.par k h0 hk e2
  chd := fun k h0 hk he _ => by
    rw [hp, swpH_l, swpH_o q (k := k) (by omega) (by omega)]
    have h1 := h.par k h0 hk (by omega)
    rw [he] at h1
    exact h1
theorem hDn_end {q : Nat → Int} {n i : Nat} (h : hDn q n i) (hno : ∀ k, 0 < k → k < n → (k - 1) / 2 = i → q i ≤ q k) : hOk q n := fun k h0 hk => by
  by_cases e : (k - 1) / 2 = i
  · have h1 := hno k h0 hk e
    rw [e]
    exact h1
  · exact h.par k h0 hk e
/-- the first and the last change places, and the last is cut off -/
theorem hDn_pop {q : Nat → Int} {m : Nat} (h : hOk q (m + 1)) : hDn (swpH q 0 m) m 0 where
  par := fun k h0 hk hne => by
    rw [swpH_o q (k := (k - 1) / 2) hne (by omega), swpH_o q (k := k) (by omega) (by omega)]
    exact h k h0 (by omega)
  chd := fun k _ _ _ h0 => absurd h0 (by omega)
/-- the same members, each once -/
theorem swpH_mem {q : Nat → Int} {m i j : Nat} (hi : i < m) (hj : j < m) (x : Int) : (∃ k, k < m ∧ swpH q i j k = x) ↔ ∃ k, k < m ∧ q k = x := by
  constructor
  · rintro ⟨k, hk, e⟩
    by_cases e1 : k = i
    · subst e1
      rw [swpH_l] at e
      exact ⟨j, hj, e⟩
    · by_cases e2 : k = j
      · subst e2
        rw [swpH_r] at e
        exact ⟨i, hi, e⟩
      · rw [swpH_o q e1 e2] at e
        exact ⟨k, hk, e⟩
  · rintro ⟨k, hk, e⟩
    by_cases e1 : k = i
    · subst e1
      exact ⟨j, hj, by rw [swpH_r]; exact e⟩
    · by_cases e2 : k = j
      · subst e2
        exact ⟨i, hi, by rw [swpH_l]; exact e⟩
      · exact ⟨k, hk, by rw [swpH_o q e1 e2]; exact e⟩
theorem swpH_inj {q : Nat → Int} {m i j : Nat} (hi : i < m) (hj : j < m) (h : ∀ a b, a < m → b < m → q a = q b → a = b) : ∀ a b, a < m → b < m → swpH q i j a = swpH q i j b → a = b := by
  have H : ∀ a, a < m → ∃ a', a' < m ∧ swpH q i j a = q a' ∧ a = (if a' = i then j else if a' = j then i else a') := fun a ha => by
    by_cases e1 : a = i
    · subst e1
      refine ⟨j, hj, swpH_l _ _ _, ?_⟩
      by_cases e2 : j = a
      · rw [if_pos e2, e2]
      · rw [if_neg e2, if_pos rfl]
    · by_cases e2 : a = j
      · subst e2
        exact ⟨i, hi, swpH_r _ _ _, by rw [if_pos rfl]⟩
      · exact ⟨a, ha, swpH_o q e1 e2, by rw [if_neg e1, if_neg e2]⟩
  intro a b ha hb e
  obtain ⟨a', ha', e1, e2⟩ := H a ha
  obtain ⟨b', hb', e3, e4⟩ := H b hb
  have e5 := h a' b' ha' hb' (by rw [← e1, ← e3]; exact e)
  rw [e2, e4, e5]
end Go.Proofs.Ytdfljeonoallfaa
