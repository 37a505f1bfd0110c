/- Plain maths of orders on lists of integers. -/
import Derived.Test.YtlppoablhipinaaMA
namespace Go.Proofs.Ytlppoablhipinaa
open Go.RowKit

theorem leqL_iff {a b : List Int} : leqL a b = true ↔ a.length = b.length ∧ ∀ k, k < a.length → at0 a k ≤ at0 b k := by
  unfold leqL
  rw [Bool.and_eq_true, allB_iff]
  simp
theorem leqL_refl (a : List Int) : leqL a a = true := leqL_iff.2 ⟨rfl, fun _ _ => Int.le_refl _⟩
theorem leqL_anti {a b : List Int} (h : leqL a b = true) (g : leqL b a = true) : sameL a b = true := by
  obtain ⟨h1, h2⟩ := leqL_iff.1 h
  obtain ⟨-, g2⟩ := leqL_iff.1 g
  exact sameL_iff.2 (list_ext h1 fun k hk => Int.le_antisymm (h2 k hk) (g2 k (by omega)))
theorem leqL_trans {a b c : List Int} (h : leqL a b = true) (g : leqL b c = true) : leqL a c = true := by
  obtain ⟨h1, h2⟩ := leqL_iff.1 h
  obtain ⟨g1, g2⟩ := leqL_iff.1 g
  exact leqL_iff.2 ⟨by omega, fun k hk => Int.le_trans (h2 k hk) (g2 k (by omega))⟩
theorem leqL_len {a b : List Int} (h : a.length ≠ b.length) : leqL a b = false := by
  cases e : leqL a b with
  | false => rfl
  | true => exact absurd (leqL_iff.1 e).1 h
theorem maxL_ne {a b : List Int} (h : a.length ≠ b.length) : maxL a b = [] := if_neg h
theorem minL_ne {a b : List Int} (h : a.length ≠ b.length) : minL a b = [] := if_neg h
theorem maxL_at {a b : List Int} (h : a.length = b.length) (k : Nat) (hk : k < a.length) : at0 (maxL a b) k = max (at0 a k) (at0 b k) := by
  unfold maxL
  rw [if_pos h, tab_at _ _ _ hk]
theorem minL_at {a b : List Int} (h : a.length = b.length) (k : Nat) (hk : k < a.length) : at0 (minL a b) k = min (at0 a k) (at0 b k) := by
  unfold minL
  rw [if_pos h, tab_at _ _ _ hk]
theorem maxL_l {a b : List Int} (h : a.length = b.length) : leqL a (maxL a b) = true := leqL_iff.2 ⟨by rw [maxL_len, if_pos h], fun k hk => by rw [maxL_at h k hk]; omega⟩
theorem maxL_r {a b : List Int} (h : a.length = b.length) : leqL b (maxL a b) = true := leqL_iff.2 ⟨by rw [maxL_len, if_pos h, h], fun k hk => by rw [maxL_at h k (by omega)]; omega⟩
theorem minL_l {a b : List Int} (h : a.length = b.length) : leqL (minL a b) a = true := leqL_iff.2 ⟨by rw [minL_len, if_pos h], fun k hk => by rw [minL_len, if_pos h] at hk; rw [minL_at h k hk]; omega⟩
theorem minL_r {a b : List Int} (h : a.length = b.length) : leqL (minL a b) b = true := leqL_iff.2 ⟨by rw [minL_len, if_pos h, h], fun k hk => by rw [minL_len, if_pos h] at hk; rw [minL_at h k hk]; omega⟩
theorem maxL_lub {a b c : List Int} (h : a.length = b.length) (h1 : leqL a c = true) (h2 : leqL b c = true) : leqL (maxL a b) c = true := by
  obtain ⟨e1, f1⟩ := leqL_iff.1 h1
  obtain ⟨e2, f2⟩ := leqL_iff.1 h2
  refine leqL_iff.2 ⟨by rw [maxL_len, if_pos h]; exact e1, fun k hk => ?_⟩
  rw [maxL_len, if_pos h] at hk
  have := f1 k hk
  have := f2 k (by omega)
  rw [maxL_at h k hk]; omega
theorem minL_glb {a b c : List Int} (h : a.length = b.length) (h1 : leqL c a = true) (h2 : leqL c b = true) : leqL c (minL a b) = true := by
  obtain ⟨e1, f1⟩ := leqL_iff.1 h1
  obtain ⟨e2, f2⟩ := leqL_iff.1 h2
  refine leqL_iff.2 ⟨by rw [minL_len, if_pos h]; exact e1, fun k hk => ?_⟩
  have := f1 k hk
  have := f2 k hk
  rw [minL_at h k (by omega)]; omega
theorem maxL_comm (a b : List Int) : maxL b a = maxL a b := by
  by_cases h : a.length = b.length
  · refine list_ext (by rw [maxL_len, maxL_len, if_pos h, if_pos h.symm, h]) fun k hk => ?_
    rw [maxL_len, if_pos h.symm] at hk
    rw [maxL_at h.symm k hk, maxL_at h k (by omega)]; omega
  · rw [maxL_ne h, maxL_ne (fun e => h e.symm)]
theorem cmpL_cases : ∀ a b : List Int, cmpL a b = -1 ∨ cmpL a b = 0 ∨ cmpL a b = 1
  | [], [] => .inr (.inl rfl)
  | [], _ :: _ => .inl rfl
  | _ :: _, [] => .inr (.inr rfl)
  | x :: r, y :: t => by
    have := cmpL_cases r t
    simp only [cmpL]
    split
    · exact .inl rfl
    · split
      · exact .inr (.inr rfl)
      · exact this
theorem cmpL_neg : ∀ a b : List Int, cmpL b a = - cmpL a b
  | [], [] => rfl
  | [], _ :: _ => rfl
  | _ :: _, [] => rfl
  | x :: r, y :: t => by
    have := cmpL_neg r t
    simp only [cmpL]
    split <;> split <;> (try split) <;> omega
theorem cmpL_zero : ∀ a b : List Int, cmpL a b = 0 → a = b
  | [], [], _ => rfl
  | [], _ :: _, h => by simp [cmpL] at h
  | _ :: _, [], h => by simp [cmpL] at h
  | x :: r, y :: t, h => by
    simp only [cmpL] at h
    split at h
    · simp at h
    · split at h
      · simp at h
      · rw [cmpL_zero r t h, show x = y by omega]
theorem cmpL_refl : ∀ a : List Int, cmpL a a = 0
  | [] => rfl
  | x :: r => by simp [cmpL, cmpL_refl r]
theorem cmpL_same {a b : List Int} (h : cmpL a b ≠ 0) : sameL a b = false := by
  cases e : sameL a b with
  | false => rfl
  | true => exact absurd (by rw [sameL_iff.1 e]; exact cmpL_refl b) h
theorem leqL_tail {x y : Int} {r t : List Int} (h : leqL (x :: r) (y :: t) = true) : x ≤ y ∧ leqL r t = true := by
  obtain ⟨h1, h2⟩ := leqL_iff.1 h
  refine ⟨by simpa [at0_zero] using h2 0 (by simp), leqL_iff.2 ⟨by simpa using h1, fun k hk => ?_⟩⟩
  simpa [at0_cons] using h2 (k + 1) (by simp; omega)
theorem cmpL_leq : ∀ a b : List Int, leqL a b = true → cmpL a b ≤ 0
  | [], [], _ => by simp [cmpL]
  | [], _ :: _, _ => by simp [cmpL]
  | _ :: _, [], h => by have := (leqL_iff.1 h).1; simp at this
  | x :: r, y :: t, h => by
    obtain ⟨h1, h2⟩ := leqL_tail h
    have := cmpL_leq r t h2
    simp only [cmpL]
    split
    · omega
    · split <;> omega
theorem cmpL_trans : ∀ a b c : List Int, cmpL a b ≤ 0 → cmpL b c ≤ 0 → cmpL a c ≤ 0
  | [], [], [], _, _ => by simp [cmpL]
  | [], _, _ :: _, _, _ => by simp [cmpL]
  | [], _ :: _, [], _, h => by simp [cmpL] at h
  | _ :: _, [], _, h, _ => by simp [cmpL] at h
  | _ :: _, _ :: _, [], _, h => by simp [cmpL] at h
  | x :: r, y :: t, z :: u, h, g => by
    have := cmpL_trans r t u
    simp only [cmpL] at h g ⊢
    split at h
    · split at g
      · rw [if_pos (by omega)]; omega
      · split at g
        · omega
        · rw [if_pos (by omega)]; omega
    · split at h
      · omega
      · split at g
        · rw [if_pos (by omega)]; omega
        · split at g
          · omega
          · rw [if_neg (by omega), if_neg (by omega)]
            exact this h g

end Go.Proofs.Ytlppoablhipinaa
