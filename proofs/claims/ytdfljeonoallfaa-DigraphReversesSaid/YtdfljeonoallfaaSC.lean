/- Graphs: the search of Reach: the plain mathematics. -/
import Derived.Test.YtdfljeonoallfaaGA
namespace Go.Proofs.Ytdfljeonoallfaa
open Go.RowKit

def unS (S : List Bool) : Nat := S.count false
def atT (S : List Bool) (i : Nat) : Bool := S[i]?.getD true
theorem un_set : ∀ {S : List Bool} {i : Nat}, i < S.length → atT S i = false → unS (S.set i true) + 1 = unS S
  | [], i, h, _ => absurd h (by simp)
  | b :: S, 0, _, h => by
    have hb : b = false := h
    subst hb
    simp [unS]
  | b :: S, i + 1, h, h2 => by
    have h3 := un_set (S := S) (i := i) (by simpa using h) h2
    unfold unS at h3 ⊢
    rw [List.set_cons_succ, List.count_cons, List.count_cons]
    omega
/-- the depth-first search from one vertex -/
def dfsF (R : Nat → List Int) (n : Nat) : Nat → List Bool → Int → List Bool
  | 0, S, _ => S
  | f + 1, S, v => if 0 ≤ v ∧ v < n ∧ atT S v.toNat = false then (R v.toNat).foldl (fun S w => dfsF R n f S w) (S.set v.toNat true) else S
theorem fold_len {R : Nat → List Int} {n f : Nat} (h : ∀ S v, (dfsF R n f S v).length = S.length) : ∀ (l : List Int) (S : List Bool), (l.foldl (fun S w => dfsF R n f S w) S).length = S.length
  | [], _ => rfl
  | x :: l, S => by rw [List.foldl_cons, fold_len h l, h]
theorem dfs_len (R : Nat → List Int) (n : Nat) : ∀ (f : Nat) (S : List Bool) (v : Int), (dfsF R n f S v).length = S.length
  | 0, _, _ => rfl
  | f + 1, S, v => by
    rw [dfsF]
    split
    · rw [fold_len (dfs_len R n f), List.length_set]
    · rfl
theorem fold_un {R : Nat → List Int} {n f : Nat} (h : ∀ S : List Bool, S.length = n → ∀ v, unS (dfsF R n f S v) ≤ unS S) : ∀ (l : List Int) (S : List Bool), S.length = n → unS (l.foldl (fun S w => dfsF R n f S w) S) ≤ unS S
  | [], _, _ => Nat.le_refl _
  | x :: l, S, hS => by
    rw [List.foldl_cons]
    exact Nat.le_trans (fold_un h l _ (by rw [dfs_len]; exact hS)) (h S hS x)
theorem dfs_un (R : Nat → List Int) (n : Nat) : ∀ (f : Nat) (S : List Bool), S.length = n → ∀ v, unS (dfsF R n f S v) ≤ unS S
  | 0, _, _, _ => Nat.le_refl _
  | f + 1, S, hS, v => by
    rw [dfsF]
    split
    · rename_i h
      have h1 := un_set (S := S) (i := v.toNat) (by omega) h.2.2
      have h2 := fold_un (R := R) (dfs_un R n f) (R v.toNat) (S.set v.toNat true) (by rw [List.length_set]; exact hS)
      omega
    · exact Nat.le_refl _
def dfsL (R : Nat → List Int) (n f : Nat) (S : List Bool) (l : List Int) : List Bool := l.foldl (fun S w => dfsF R n f S w) S
theorem dfsL_step {R : Nat → List Int} {n f : Nat} {S : List Bool} {l : List Int} {k : Nat} (h : k < l.length) : dfsL R n f S (l.take (k + 1)) = dfsF R n f (dfsL R n f S (l.take k)) (at0 l k) := by
  have e : l.take (k + 1) = l.take k ++ [at0 l k] := by
    rw [List.take_add_one]
    unfold at0
    rw [List.getElem?_eq_getElem h]
    rfl
  unfold dfsL
  rw [e, List.foldl_append]
  rfl
theorem dfsL_len (R : Nat → List Int) (n f : Nat) (S : List Bool) (l : List Int) : (dfsL R n f S l).length = S.length := fold_len (dfs_len R n f) l S
theorem dfsL_un (R : Nat → List Int) (n f : Nat) (S : List Bool) (l : List Int) (h : S.length = n) : unS (dfsL R n f S l) ≤ unS S := fold_un (dfs_un R n f) l S h
theorem dfs_hit {R : Nat → List Int} {n f : Nat} {S : List Bool} {i : Nat} (hi : i < n) (h : atT S i = false) : dfsF R n (f + 1) S (i : Int) = dfsL R n f (S.set i true) (R i) := by
  rw [dfsF, if_pos ⟨by omega, by omega, h⟩]
  rfl
theorem dfs_seen {R : Nat → List Int} {n f : Nat} {S : List Bool} {i : Nat} (h : atT S i = true) : dfsF R n (f + 1) S (i : Int) = S := by
  rw [dfsF, if_neg]
  rintro ⟨_, _, h2⟩
  have e : ((i : Int)).toNat = i := by omega
  rw [e, h] at h2
  cases h2
theorem dfs_no {R : Nat → List Int} {n f : Nat} {S : List Bool} {v : Int} (h : ¬ (0 ≤ v ∧ v < n)) : dfsF R n (f + 1) S v = S := by
  rw [dfsF, if_neg]
  rintro ⟨h1, h2, _⟩
  exact h ⟨h1, h2⟩
end Go.Proofs.Ytdfljeonoallfaa
