/- Event logs: the mathematics of the law Mirrors. -/
import Derived.Test.YtgjgohnomophnaaDoorAC
import Derived.Test.YtgjgohnomophnaaDoorPC
namespace Go.Proofs.YtgjgohnomophnaaDoor
open Go.RowKit

def psum (F : Nat → Nat) : Nat → Nat
  | 0 => 0
  | k + 1 => psum F k + F k
theorem psum_congr {F G : Nat → Nat} : ∀ {n : Nat}, (∀ i, i < n → F i = G i) → psum F n = psum G n
  | 0, _ => rfl
  | n + 1, h => by rw [psum, psum, psum_congr (fun i hi => h i (by omega)), h n (by omega)]
theorem psum_add (F G : Nat → Nat) : ∀ n, psum (fun i => F i + G i) n = psum F n + psum G n
  | 0 => rfl
  | n + 1 => by rw [psum, psum, psum, psum_add F G n]; omega
theorem psum_zero : ∀ n, psum (fun _ => 0) n = 0
  | 0 => rfl
  | n + 1 => by rw [psum, psum_zero n]
theorem psum_one (p : Nat) : ∀ n, psum (fun i => if i = p then 1 else 0) n = if p < n then 1 else 0
  | 0 => by simp [psum]
  | n + 1 => by
    rw [psum, psum_one p n]
    by_cases h : n = p
    · subst h; simp
    · by_cases h2 : p < n
      · rw [if_pos h2, if_neg h, if_pos (by omega)]
      · rw [if_neg h2, if_neg h, if_neg (by omega)]
theorem psum_mono (F : Nat → Nat) {i n : Nat} (h : i ≤ n) : psum F i ≤ psum F n := by
  induction n with
  | zero => rw [Nat.le_zero.1 h]; exact Nat.le_refl _
  | succ n ih =>
    by_cases e : i = n + 1
    · rw [e]; exact Nat.le_refl _
    · have := ih (by omega)
      rw [psum]; omega
/-- the sum over all pairs of activities -/
def pairs (av : List Txt) (f : Txt → Txt → Nat) : Nat := psum (fun i => psum (fun k => f (atS av i) (atS av k)) av.length) av.length
theorem pairs_add (av : List Txt) (f h : Txt → Txt → Nat) : pairs av (fun a b => f a b + h a b) = pairs av f + pairs av h := by
  unfold pairs
  rw [← psum_add]
  exact psum_congr fun i _ => psum_add _ _ _
theorem pairs_zero (av : List Txt) : pairs av (fun _ _ => 0) = 0 := by
  unfold pairs
  rw [psum_congr (G := fun _ => 0) fun i _ => psum_zero _]
  exact psum_zero _
theorem at_inj {av : List Txt} (hn : av.Nodup) {i p : Nat} (hi : i < av.length) (hp : p < av.length) : atS av i = atS av p ↔ i = p := by
  constructor
  · intro h
    unfold atS at h
    rw [List.getElem?_eq_getElem hi, List.getElem?_eq_getElem hp] at h
    exact (List.getElem_inj hn).1 h
  · intro h; rw [h]
theorem pairs_one {av : List Txt} (hn : av.Nodup) {x y : Txt} (hx : x ∈ av) (hy : y ∈ av) : pairs av (fun a b => if x = a ∧ y = b then 1 else 0) = 1 := by
  obtain ⟨p, hp, ep⟩ := List.getElem_of_mem hx
  obtain ⟨q, hq, eq⟩ := List.getElem_of_mem hy
  have ep' : x = atS av p := by unfold atS; rw [List.getElem?_eq_getElem hp]; exact ep.symm
  have eq' : y = atS av q := by unfold atS; rw [List.getElem?_eq_getElem hq]; exact eq.symm
  unfold pairs
  have h1 : ∀ i, i < av.length → psum (fun k => if x = atS av i ∧ y = atS av k then 1 else 0) av.length = if i = p then 1 else 0 := fun i hi => by
    by_cases e : i = p
    · subst e
      rw [if_pos rfl, psum_congr (G := fun k => if k = q then 1 else 0) fun k hk => ?_, psum_one, if_pos hq]
      by_cases e2 : k = q
      · subst e2; rw [if_pos ⟨ep', eq'⟩, if_pos rfl]
      · rw [if_neg e2, if_neg]
        rintro ⟨_, h⟩
        rw [eq', eq_comm] at h
        exact e2 ((at_inj hn hk hq).1 h)
    · rw [if_neg e, psum_congr (G := fun _ => 0) fun k hk => ?_, psum_zero]
      rw [if_neg]
      rintro ⟨h, _⟩
      rw [ep', eq_comm] at h
      exact e ((at_inj hn hi hp).1 h)
  rw [psum_congr h1, psum_one, if_pos hp]
theorem pairs_row {av : List Txt} (hn : av.Nodup) (r : List Txt) : ∀ m, m ≤ r.length → (∀ j, j < m → atS r j ∈ av) → pairs av (fun a b => folR r a b m) = m - 1
  | 0, _, _ => pairs_zero av
  | 1, _, _ => pairs_zero av
  | m + 2, h, hm => by
    have h1 := pairs_row hn r (m + 1) (by omega) (fun j hj => hm j (by omega))
    have h2 := pairs_one hn (hm m (by omega)) (hm (m + 1) (by omega))
    have h3 := pairs_add av (fun a b => folR r a b (m + 1)) (fun a b => if atS r m = a ∧ atS r (m + 1) = b then 1 else 0)
    rw [h1, h2] at h3
    show pairs av (fun a b => folR r a b (m + 1) + (if atS r m = a ∧ atS r (m + 1) = b then 1 else 0)) = _
    rw [h3]
    omega
/-- the steps of the first j traces -/
def stepK (R : List (List Txt)) : Nat → Nat
  | 0 => 0
  | j + 1 => stepK R j + ((R[j]?.getD []).length - 1)
theorem stepK_le (R : List (List Txt)) : ∀ j, stepK R j ≤ totL R j
  | 0 => Nat.le_refl _
  | j + 1 => by
    have := stepK_le R j
    rw [stepK, totL]; omega
theorem pairs_log {av : List Txt} (hn : av.Nodup) (R : List (List Txt)) : ∀ j, (∀ i, i < j → ∀ x ∈ R[i]?.getD [], x ∈ av) → pairs av (fun a b => folL R a b j) = stepK R j
  | 0, _ => pairs_zero av
  | j + 1, h => by
    have h1 := pairs_log hn R j (fun i hi => h i (by omega))
    have h2 := pairs_row hn (R[j]?.getD []) _ (Nat.le_refl _) (fun i hi => h j (by omega) _ (atS_mem hi))
    have h3 := pairs_add av (fun a b => folL R a b j) (fun a b => folR (R[j]?.getD []) a b (R[j]?.getD []).length)
    rw [h1, h2] at h3
    exact h3
theorem mem_acc {R : List (List Txt)} : ∀ (j i : Nat), i < j → ∀ x ∈ R[i]?.getD [], x ∈ accK id R j
  | 0, i, h => absurd h (by omega)
  | j + 1, i, h => fun x hx => by
    rw [accK]
    by_cases e : i = j
    · subst e
      rw [if_neg (fun e2 => by rw [e2] at hx; simp at hx)]
      exact List.mem_append_right _ hx
    · have := mem_acc j i (by omega) x hx
      split
      · exact this
      · exact List.mem_append_left _ this
theorem mirrors_sum (R : List (List Txt)) : pairs (actV R) (fun a b => folV R a b) = stepK R R.length := by
  unfold actV folV
  rw [← acc_act]
  refine pairs_log (insAll_sorted _).nodup R _ fun i hi x hx => ?_
  rw [mem_insAll]
  exact mem_acc _ _ hi x hx
theorem rel_pair (p q : Nat) : (relV p q = 3 ∧ relV q p = 3) ∨ (relV p q = 1 ∧ relV q p = 2) ∨ (relV p q = 2 ∧ relV q p = 1) ∨ (relV p q = 0 ∧ relV q p = 0) := by
  unfold relV
  by_cases h1 : 0 < p
  · by_cases h2 : 0 < q
    · simp [h1, h2]
    · simp [h1, h2]
  · by_cases h2 : 0 < q
    · simp [h1, h2]
    · simp [h1, h2]
end Go.Proofs.YtgjgohnomophnaaDoor
