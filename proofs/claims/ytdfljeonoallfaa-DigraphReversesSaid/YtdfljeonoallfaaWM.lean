/- Graphs: what a depth-first search finds is what the closure of the table finds: the plain mathematics. -/
import Derived.Test.YtdfljeonoallfaaSC
namespace Go.Proofs.Ytdfljeonoallfaa
open Go.RowKit

def EdgeR (R : Nat → List Int) (n : Nat) (u v : Nat) : Prop := u < n ∧ v < n ∧ (v : Int) ∈ R u
def PathR (R : Nat → List Int) (n : Nat) : Nat → Nat → Prop := Relation.TransGen (EdgeR R n)
def vtx (n : Nat) (x : Int) (i : Nat) : Prop := 0 ≤ x ∧ x < n ∧ x.toNat = i
theorem path_head {R : Nat → List Int} {n : Nat} {u v w : Nat} (h : EdgeR R n u v) (h2 : PathR R n v w) : PathR R n u w :=
  Relation.TransGen.trans (Relation.TransGen.single h) h2
theorem at_set_self {S : List Bool} {i : Nat} (h : i < S.length) : atT (S.set i true) i = true := by
  unfold atT
  rw [List.getElem?_set_self h]
  rfl
theorem at_set_ne {S : List Bool} {i j : Nat} (h : i ≠ j) : atT (S.set i true) j = atT S j := by
  unfold atT
  rw [List.getElem?_set_ne h]
theorem at_set_mono {S : List Bool} {i j : Nat} (h : atT S j = true) : atT (S.set i true) j = true := by
  by_cases e : i = j
  · subst e
    by_cases hl : i < S.length
    · exact at_set_self hl
    · rw [List.set_eq_of_length_le (by omega)]; exact h
  · rw [at_set_ne e]; exact h
/- what is found can be reached -/
def From (R : Nat → List Int) (n : Nat) (x : Int) (i : Nat) : Prop := 0 ≤ x ∧ x < n ∧ (x.toNat = i ∨ PathR R n x.toNat i)
theorem fold_sound {R : Nat → List Int} {n f : Nat} (h : ∀ (S : List Bool) (v : Int) (i : Nat), S.length = n → i < n → atT (dfsF R n f S v) i = true → atT S i = true ∨ From R n v i) :
    ∀ (l : List Int) (S : List Bool) (i : Nat), S.length = n → i < n → atT (dfsL R n f S l) i = true → atT S i = true ∨ ∃ x, x ∈ l ∧ From R n x i
  | [], S, i, _, _, hy => Or.inl hy
  | x :: l, S, i, hS, hi, hy => by
    have hy : atT (dfsL R n f (dfsF R n f S x) l) i = true := hy
    rcases fold_sound h l _ i (by rw [dfs_len]; exact hS) hi hy with h1 | ⟨y, h1, h2⟩
    · rcases h S x i hS hi h1 with h2 | h2
      · exact Or.inl h2
      · exact Or.inr ⟨x, List.mem_cons_self, h2⟩
    · exact Or.inr ⟨y, List.mem_cons_of_mem _ h1, h2⟩
theorem dfs_sound (R : Nat → List Int) (n : Nat) : ∀ (f : Nat) (S : List Bool) (v : Int) (i : Nat), S.length = n → i < n → atT (dfsF R n f S v) i = true → atT S i = true ∨ From R n v i
  | 0, S, v, i, _, _, hy => Or.inl hy
  | f + 1, S, v, i, hS, hi, hy => by
    rw [dfsF] at hy
    split at hy
    · rename_i hv
      obtain ⟨h0, h1, h2⟩ := hv
      rcases fold_sound (dfs_sound R n f) (R v.toNat) (S.set v.toNat true) i (by rw [List.length_set]; exact hS) hi hy with h3 | ⟨x, h3, h4, h5, h6⟩
      · by_cases e : v.toNat = i
        · exact Or.inr ⟨h0, h1, Or.inl e⟩
        · rw [at_set_ne e] at h3
          exact Or.inl h3
      · have hE : EdgeR R n v.toNat x.toNat := ⟨by omega, by omega, by rw [show ((x.toNat : Nat) : Int) = x from by omega]; exact h3⟩
        rcases h6 with h6 | h6
        · rw [h6] at hE
          exact Or.inr ⟨h0, h1, Or.inr (Relation.TransGen.single hE)⟩
        · exact Or.inr ⟨h0, h1, Or.inr (path_head hE h6)⟩
    · exact Or.inl hy
/- what can be reached is found -/
def FullR (R : Nat → List Int) (n : Nat) (S S' : List Bool) : Prop := (∀ i, atT S i = true → atT S' i = true) ∧ ∀ u, u < n → atT S' u = true → atT S u = false → ∀ w, EdgeR R n u w → atT S' w = true
theorem fold_full {R : Nat → List Int} {n f : Nat} (h : ∀ (S : List Bool) (v : Int), S.length = n → unS S < f → FullR R n S (dfsF R n f S v) ∧ (0 ≤ v → v < n → atT (dfsF R n f S v) v.toNat = true)) :
    ∀ (l : List Int) (S : List Bool), S.length = n → unS S < f → FullR R n S (dfsL R n f S l) ∧ ∀ x, x ∈ l → 0 ≤ x → x < n → atT (dfsL R n f S l) x.toNat = true
  | [], S, _, _ => ⟨⟨fun _ h => h, fun u _ h1 h2 => by rw [show dfsL R n f S [] = S from rfl, h2] at h1; cases h1⟩, fun x hx => absurd hx (by simp)⟩
  | x :: l, S, hS, hu => by
    have e : dfsL R n f S (x :: l) = dfsL R n f (dfsF R n f S x) l := rfl
    rw [e]
    obtain ⟨⟨a1, a2⟩, a3⟩ := h S x hS hu
    obtain ⟨⟨b1, b2⟩, b3⟩ := fold_full h l (dfsF R n f S x) (by rw [dfs_len]; exact hS) (by have := dfs_un R n f S hS x; omega)
    refine ⟨⟨fun i hi => b1 i (a1 i hi), fun u hu1 h1 h2 w hw => ?_⟩, fun y hy h0 h1 => ?_⟩
    · by_cases h3 : atT (dfsF R n f S x) u = true
      · exact b1 w (a2 u hu1 h3 h2 w hw)
      · exact b2 u hu1 h1 (by simpa using h3) w hw
    · rcases List.mem_cons.1 hy with rfl | hy
      · exact b1 _ (a3 h0 h1)
      · exact b3 y hy h0 h1
theorem dfs_full (R : Nat → List Int) (n : Nat) : ∀ (f : Nat) (S : List Bool) (v : Int), S.length = n → unS S < f → FullR R n S (dfsF R n f S v) ∧ (0 ≤ v → v < n → atT (dfsF R n f S v) v.toNat = true)
  | 0, _, _, _, h => absurd h (by omega)
  | f + 1, S, v, hS, hu => by
    rw [dfsF]
    split
    · rename_i hv
      obtain ⟨h0, h1, h2⟩ := hv
      have h3 := un_set (S := S) (i := v.toNat) (by omega) h2
      obtain ⟨⟨b1, b2⟩, b3⟩ := fold_full (R := R) (n := n) (f := f) (dfs_full R n f) (R v.toNat) (S.set v.toNat true) (by rw [List.length_set]; exact hS) (by omega)
      have b4 := b1 v.toNat (at_set_self (by omega))
      refine ⟨⟨fun i hi => b1 i (at_set_mono hi), fun u hu1 h4 h5 w hw => ?_⟩, fun _ _ => b4⟩
      by_cases e : v.toNat = u
      · subst e
        have h6 := b3 (w : Int) hw.2.2 (by omega) (by have := hw.2.1; omega)
        exact h6
      · exact b2 u hu1 h4 (by rw [at_set_ne e]; exact h5) w hw
    · rename_i hv
      refine ⟨⟨fun _ h => h, fun u _ h1 h2 => by rw [h2] at h1; cases h1⟩, fun h0 h1 => ?_⟩
      cases e : atT S v.toNat
      · exact absurd ⟨h0, h1, e⟩ hv
      · rfl
theorem un_rep (n : Nat) : unS (List.replicate n false) = n := by unfold unS; simp
theorem at_rep {n i : Nat} (h : i < n) : atT (List.replicate n false) i = false := by
  unfold atT
  rw [List.getElem?_replicate, if_pos h]
  rfl
theorem reach_iff {R : Nat → List Int} {n : Nat} {l : List Int} {i : Nat} (hi : i < n) : atT (dfsL R n (n + 1) (List.replicate n false) l) i = true ↔ ∃ x, x ∈ l ∧ From R n x i := by
  constructor
  · intro h
    rcases fold_sound (dfs_sound R n (n + 1)) l _ i (by simp) hi h with h1 | h1
    · rw [at_rep hi] at h1; cases h1
    · exact h1
  · rintro ⟨x, hx, h0, h1, h2⟩
    obtain ⟨⟨_, b2⟩, b3⟩ := fold_full (R := R) (n := n) (f := n + 1) (dfs_full R n (n + 1)) l (List.replicate n false) (by simp) (by rw [un_rep]; omega)
    have h3 := b3 x hx h0 h1
    rcases h2 with h2 | h2
    · rw [h2] at h3; exact h3
    · clear hx
      have key : ∀ j, PathR R n x.toNat j → atT (dfsL R n (n + 1) (List.replicate n false) l) j = true := by
        intro j hj
        induction hj with
        | single h => exact b2 _ h.1 h3 (at_rep h.1) _ h
        | tail _ h ih => exact b2 _ h.1 ih (at_rep h.1) _ h
      exact key i h2
/- the closure of a table -/
def stW (T : Nat → Nat → Bool) (k u v : Nat) : Bool := T u v || (T u k && T k v)
def warN (T : Nat → Nat → Bool) : Nat → Nat → Nat → Bool
  | 0 => T
  | k + 1 => stW (warN T k) k
def tabB (R : Nat → List Int) (u v : Nat) : Bool := (R u).contains (v : Int)
theorem war_mono {T : Nat → Nat → Bool} {u v : Nat} (h : T u v = true) : ∀ k, warN T k u v = true
  | 0 => h
  | k + 1 => by
    show stW (warN T k) k u v = true
    unfold stW
    rw [war_mono h k]; rfl
theorem war_trans (T : Nat → Nat → Bool) : ∀ (k m : Nat), m < k → ∀ u v, warN T k u m = true → warN T k m v = true → warN T k u v = true
  | 0, m, hm, _, _, _, _ => absurd hm (by omega)
  | k + 1, m, hm, u, v, h1, h2 => by
    have IH := war_trans T k
    have h1 : stW (warN T k) k u m = true := h1
    have h2 : stW (warN T k) k m v = true := h2
    show stW (warN T k) k u v = true
    unfold stW at *
    rw [Bool.or_eq_true, Bool.and_eq_true] at *
    by_cases e : m = k
    · subst e
      exact Or.inr ⟨h1.elim id (fun h => h.1), h2.elim id (fun h => h.2)⟩
    · have hm : m < k := by omega
      rcases h1 with h1 | ⟨h1, h3⟩
      · rcases h2 with h2 | ⟨h2, h4⟩
        · exact Or.inl (IH m hm u v h1 h2)
        · exact Or.inr ⟨IH m hm u k h1 h2, h4⟩
      · rcases h2 with h2 | ⟨h2, h4⟩
        · exact Or.inr ⟨h1, IH m hm k v h3 h2⟩
        · exact Or.inr ⟨h1, h4⟩
theorem war_sound {R : Nat → List Int} {n : Nat} : ∀ (k : Nat), k ≤ n → ∀ u v, u < n → v < n → warN (tabB R) k u v = true → PathR R n u v
  | 0, _, u, v, hu, hv, h => Relation.TransGen.single ⟨hu, hv, by
      have h : (R u).contains (v : Int) = true := h
      simpa using h⟩
  | k + 1, hk, u, v, hu, hv, h => by
    have IH := war_sound (R := R) (n := n) k (by omega)
    have h : stW (warN (tabB R) k) k u v = true := h
    unfold stW at h
    rw [Bool.or_eq_true, Bool.and_eq_true] at h
    rcases h with h | ⟨h1, h2⟩
    · exact IH u v hu hv h
    · exact Relation.TransGen.trans (IH u k hu (by omega) h1) (IH k v (by omega) hv h2)
theorem war_iff {R : Nat → List Int} {n u v : Nat} (hu : u < n) (hv : v < n) : warN (tabB R) n u v = true ↔ PathR R n u v := by
  constructor
  · exact war_sound n (Nat.le_refl _) u v hu hv
  · intro h
    have key : ∀ j, PathR R n u j → j < n ∧ warN (tabB R) n u j = true := by
      intro j hj
      have one : ∀ a b, EdgeR R n a b → warN (tabB R) n a b = true := fun a b h => war_mono (by unfold tabB; simpa using h.2.2) n
      induction hj with
      | single h => exact ⟨h.2.1, one _ _ h⟩
      | tail _ h ih => exact ⟨h.2.1, war_trans (tabB R) n _ ih.1 _ _ ih.2 (one _ _ h)⟩
    exact (key v h).2
/-- what the reference marks: the element itself and what the closure says -/
def refB (R : Nat → List Int) (n : Nat) (l : List Int) (i : Nat) : Bool := l.any fun x => (decide (0 ≤ x) && decide (x < n)) && (decide (x.toNat = i) || warN (tabB R) n x.toNat i)
theorem refB_iff {R : Nat → List Int} {n : Nat} {l : List Int} {i : Nat} (hi : i < n) : refB R n l i = true ↔ ∃ x, x ∈ l ∧ From R n x i := by
  unfold refB From
  rw [List.any_eq_true]
  constructor
  · rintro ⟨x, hx, h⟩
    rw [Bool.and_eq_true, Bool.and_eq_true, Bool.or_eq_true, decide_eq_true_eq, decide_eq_true_eq, decide_eq_true_eq] at h
    obtain ⟨⟨h0, h1⟩, h2⟩ := h
    exact ⟨x, hx, h0, h1, h2.imp id fun h => (war_iff (by omega) hi).1 h⟩
  · rintro ⟨x, hx, h0, h1, h2⟩
    refine ⟨x, hx, ?_⟩
    rw [Bool.and_eq_true, Bool.and_eq_true, Bool.or_eq_true, decide_eq_true_eq, decide_eq_true_eq, decide_eq_true_eq]
    exact ⟨⟨h0, h1⟩, h2.imp id fun h => (war_iff (by omega) hi).2 h⟩
theorem reach_eq {R : Nat → List Int} {n : Nat} {l : List Int} {i : Nat} (hi : i < n) : atT (dfsL R n (n + 1) (List.replicate n false) l) i = refB R n l i := by
  have h := (reach_iff (R := R) (l := l) hi).trans (refB_iff (R := R) (l := l) hi).symm
  cases h1 : atT (dfsL R n (n + 1) (List.replicate n false) l) i <;> cases h2 : refB R n l i
  · rfl
  · exact (h1.symm.trans (h.2 h2)).symm ▸ rfl
  · exact (h2.symm.trans (h.1 h1)).symm ▸ rfl
  · rfl
theorem refB_nil (R : Nat → List Int) (n i : Nat) : refB R n [] i = false := rfl
theorem refB_snoc (R : Nat → List Int) (n : Nat) (l : List Int) (x : Int) (i : Nat) : refB R n (l ++ [x]) i = (refB R n l i || ((decide (0 ≤ x) && decide (x < n)) && (decide (x.toNat = i) || warN (tabB R) n x.toNat i))) := by
  unfold refB
  rw [List.any_append]
  simp
end Go.Proofs.Ytdfljeonoallfaa
