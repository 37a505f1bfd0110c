/- Graphs: distances and shortest paths: the plain mathematics. Graphs: the order in which a depth-first search leaves the vertices, and components: the plain mathematics. Graphs: components: the plain mathematics. Graphs: the search that finds the order of leaving: its memory, and its closure. Graphs: the order in which the search leaves the vertices. A range over a function whose iterator keeps its own memory between the rounds and writes it. slices.Backward: what the iterator promises. -/
import Derived.Test.YtlbcdnobpnllkaaGreatDgM1
import Derived.OwnWalkIn
import Derived.TacticsInMore
import Derived.LoopNIn
import Derived.LoopIn
import Derived.Shelf.Abstract
import Derived.Shelf.AbstractIn
import Derived.Shelf.RegionOpen
import Derived.RangeFuncNested
import Derived.RangeFuncBound
import Derived.RangeFuncCalls
import Derived.RangeFuncLeaves
import Derived.RangeFuncBox
namespace Go.Proofs.YtlbcdnobpnllkaaGreat.Dg
open Go.RowKit

/-- v reaches t in at most k steps -/
def layB (R : Nat → List Int) (n t : Nat) : Nat → Nat → Bool
  | 0, v => decide (v = t)
  | k + 1, v => layB R n t k v || anyN (fun u => tabB R v u && layB R n t k u) n
theorem lay_mono {R : Nat → List Int} {n t v : Nat} : ∀ {k j : Nat}, k ≤ j → layB R n t k v = true → layB R n t j v = true := by
  intro k j h hk
  induction j with
  | zero => obtain rfl : k = 0 := by omega
            exact hk
  | succ j ih =>
    by_cases e : k = j + 1
    · subst e; exact hk
    · show (layB R n t j v || _) = true
      rw [ih (by omega)]
      rfl
theorem lay_step {R : Nat → List Int} {n t v u k : Nat} (hu : u < n) (he : tabB R v u = true) (h : layB R n t k u = true) : layB R n t (k + 1) v = true := by
  show (layB R n t k v || anyN (fun u => tabB R v u && layB R n t k u) n) = true
  rw [anyN_yes hu (by rw [he, h]; rfl)]
  simp
theorem lay_back {R : Nat → List Int} {n t v k : Nat} (h : layB R n t (k + 1) v = true) (h2 : layB R n t k v = false) : ∃ u, u < n ∧ tabB R v u = true ∧ layB R n t k u = true := by
  have h : (layB R n t k v || anyN (fun u => tabB R v u && layB R n t k u) n) = true := h
  rw [h2, Bool.false_or] at h
  obtain ⟨u, hu, hy⟩ := List.any_eq_true.1 h
  rw [Bool.and_eq_true] at hy
  exact ⟨u, List.mem_range.1 hu, hy⟩
/-- the distances up to k -/
def dstV (R : Nat → List Int) (n t : Nat) : Nat → Nat → Int
  | 0, v => if v = t then 0 else -1
  | k + 1, v => if dstV R n t k v < 0 ∧ layB R n t (k + 1) v = true then (k + 1 : Nat) else dstV R n t k v
theorem dst_spec (R : Nat → List Int) (n t : Nat) : ∀ (k v : Nat), (dstV R n t k v = -1 ∧ layB R n t k v = false) ∨ ∃ j : Nat, dstV R n t k v = (j : Int) ∧ j ≤ k ∧ layB R n t j v = true ∧ ∀ i, i < j → layB R n t i v = false
  | 0, v => by
    by_cases h : v = t
    · exact Or.inr ⟨0, by unfold dstV; rw [if_pos h]; rfl, Nat.le_refl _, decide_eq_true h, fun i hi => absurd hi (by omega)⟩
    · exact Or.inl ⟨by unfold dstV; rw [if_neg h], decide_eq_false h⟩
  | k + 1, v => by
    rcases dst_spec R n t k v with ⟨h1, h2⟩ | ⟨j, h1, h2, h3, h4⟩
    · cases h : layB R n t (k + 1) v
      · left
        refine ⟨?_, rfl⟩
        unfold dstV
        rw [h, if_neg (by simp), h1]
      · right
        refine ⟨k + 1, ?_, Nat.le_refl _, h, fun i hi => ?_⟩
        · unfold dstV
          rw [if_pos ⟨by omega, h⟩]
        · cases h5 : layB R n t i v
          · rfl
          · rw [lay_mono (by omega) h5] at h2; cases h2
    · right
      refine ⟨j, ?_, by omega, h3, h4⟩
      unfold dstV
      rw [if_neg (by omega), h1]
theorem dst_of {R : Nat → List Int} {n t k v j : Nat} (hj : j ≤ k) (h : layB R n t j v = true) (h2 : ∀ i, i < j → layB R n t i v = false) : dstV R n t k v = (j : Int) := by
  rcases dst_spec R n t k v with ⟨_, h3⟩ | ⟨j', h3, h4, h5, h6⟩
  · rw [lay_mono hj h] at h3; cases h3
  · have : j = j' := by
      rcases Nat.lt_trichotomy j j' with h7 | h7 | h7
      · rw [h6 j h7] at h; cases h
      · exact h7
      · rw [h2 j' h7] at h5; cases h5
    rw [this]; exact h3
theorem dst_neg {R : Nat → List Int} {n t k v : Nat} (h : layB R n t k v = false) : dstV R n t k v = -1 := by
  rcases dst_spec R n t k v with ⟨h3, _⟩ | ⟨j', h3, h4, h5, h6⟩
  · exact h3
  · rw [lay_mono h4 h5] at h; cases h
/-- one round of the reference -/
theorem dst_round (R : Nat → List Int) (n t k v : Nat) : dstV R n t (k + 1) v = if dstV R n t k v < 0 ∧ (∃ u, u < n ∧ tabB R v u = true ∧ dstV R n t k u = (k : Int)) then ((k + 1 : Nat) : Int) else dstV R n t k v := by
  have key : dstV R n t k v < 0 → (layB R n t (k + 1) v = true ↔ ∃ u, u < n ∧ tabB R v u = true ∧ dstV R n t k u = (k : Int)) := fun hd => by
    have hl : layB R n t k v = false := by
      cases h : layB R n t k v
      · rfl
      · rcases dst_spec R n t k v with ⟨_, h3⟩ | ⟨j', h3, _⟩
        · rw [h] at h3; cases h3
        · omega
    constructor
    · intro h
      obtain ⟨u, hu, h1, h2⟩ := lay_back h hl
      refine ⟨u, hu, h1, ?_⟩
      rcases dst_spec R n t k u with ⟨_, h3⟩ | ⟨j', h3, h4, h5, h6⟩
      · rw [h2] at h3; cases h3
      · by_cases e : j' = k
        · rw [h3, e]
        · have := lay_mono (j := k) (by omega) (lay_step hu h1 h5)
          rw [hl] at this; cases this
    · rintro ⟨u, hu, h1, h2⟩
      rcases dst_spec R n t k u with ⟨h3, _⟩ | ⟨j', h3, h4, h5, h6⟩
      · omega
      · exact lay_step hu h1 (lay_mono h4 h5)
  conv => lhs; unfold dstV
  by_cases h : dstV R n t k v < 0
  · by_cases h2 : layB R n t (k + 1) v = true
    · rw [if_pos ⟨h, h2⟩, if_pos ⟨h, (key h).1 h2⟩]
    · rw [if_neg fun c => h2 c.2, if_neg fun c => h2 ((key h).2 c.2)]
  · rw [if_neg fun c => h c.1, if_neg fun c => h c.1]
/- the search of the program -/
structure BfsI (R : Nat → List Int) (n t : Nat) (i r : Nat) (q : List Nat) (D : Nat → Int) : Prop where
  len : i ≤ q.length
  lt : ∀ v, v ∈ q → v < n
  nd : q.Nodup
  mem : ∀ v, v < n → (0 ≤ D v ↔ v ∈ q)
  neg : ∀ v, v < n → D v < 0 → D v = -1
  lay : ∀ j (h : j < q.length), ∃ m : Nat, D q[j] = (m : Int) ∧ m ≤ j ∧ layB R n t m q[j] = true
  asc : ∀ j j' (h : j ≤ j') (h' : j' < q.length), D (q[j]'(by omega)) ≤ D q[j']
  top : ∀ j j' (_ : j = i) (h : j < q.length) (h' : j' < q.length), D q[j'] ≤ D q[j] + 1
  tt : t ∈ q ∧ D t = 0
  done : ∀ j (_ : j < i) (h : j < q.length), ∀ v, v < n → tabB R v q[j] = true → v ∈ q ∧ D v ≤ D q[j] + 1
  part : ∀ (h : i < q.length), ∀ k, k < r → k < (revV R n q[i]).length → ∀ v : Nat, at0 (revV R n q[i]) k = (v : Int) → v ∈ q ∧ D v ≤ D q[i] + 1
theorem bfs_start {R : Nat → List Int} {n t : Nat} (ht : t < n) : BfsI R n t 0 0 [t] (fun v => if v = t then 0 else -1) where
  len := by simp
  lt := fun v hv => by simp at hv; omega
  nd := by simp
  mem := fun v _ => by by_cases e : v = t <;> simp [e]
  neg := fun v _ h => by by_cases e : v = t <;> simp [e] at h ⊢
  lay := fun j h => by
    obtain rfl : j = 0 := by simp at h; omega
    exact ⟨0, by simp, by omega, by simp [layB]⟩
  asc := fun j j' h h' => by
    obtain rfl : j' = 0 := by simp at h'; omega
    obtain rfl : j = 0 := by omega
    exact Int.le_refl _
  top := fun j j' _ h h' => by
    obtain rfl : j' = 0 := by simp at h'; omega
    obtain rfl : j = 0 := by simp at h; omega
    simp
  tt := by simp
  done := fun j h => absurd h (by omega)
  part := fun _ k h => absurd h (by omega)
theorem bfs_old {R : Nat → List Int} {n t i r : Nat} {q : List Nat} {D : Nat → Int} (I : BfsI R n t i r q D) (hi : i < q.length) {w : Nat} (hw : w < n) (hr : r < (revV R n q[i]).length) (e : at0 (revV R n q[i]) r = (w : Int)) (h : 0 ≤ D w) : BfsI R n t i (r + 1) q D :=
  have part' : ∀ (h' : i < q.length), ∀ k, k < r + 1 → k < (revV R n q[i]).length → ∀ v : Nat, at0 (revV R n q[i]) k = (v : Int) → v ∈ q ∧ D v ≤ D q[i] + 1 := fun h' k hk hk2 v hv => by
    by_cases ek : k = r
    · subst ek
      have : v = w := by omega
      subst this
      have hm := (I.mem v hw).1 h
      obtain ⟨j, hj, rfl⟩ := List.mem_iff_getElem.1 hm
      exact ⟨hm, I.top i j rfl hi hj⟩
    · exact I.part h' k (by omega) hk2 v hv
  { I with part := part' }
theorem get_snoc {q : List Nat} {w j : Nat} (h : j < q.length) : (q ++ [w])[j]'(by simp; omega) = q[j] := List.getElem_append_left h
theorem bfs_new {R : Nat → List Int} {n t i r : Nat} {q : List Nat} {D : Nat → Int} (I : BfsI R n t i r q D) (hi : i < q.length) {w : Nat} (hw : w < n) (hr : r < (revV R n q[i]).length) (e : at0 (revV R n q[i]) r = (w : Int)) (h : D w < 0) (he : tabB R w q[i] = true) : BfsI R n t i (r + 1) (q ++ [w]) (fun v => if v = w then D q[i] + 1 else D v) := by
  have hnw : w ∉ q := fun hm => by have := (I.mem w hw).2 hm; omega
  have key : ∀ v : Nat, v ∈ q → (if v = w then D q[i] + 1 else D v) = D v := fun v hv => if_neg fun (c : v = w) => hnw (c ▸ hv)
  have keyj : ∀ j (hj : j < q.length), (if q[j] = w then D q[i] + 1 else D q[j]) = D q[j] := fun j hj => key _ (List.getElem_mem hj)
  have hlen : (q ++ [w]).length = q.length + 1 := by simp
  have gl : (q ++ [w])[q.length]'(by simp) = w := by simp
  obtain ⟨mi, hmi, hmi2, hmi3⟩ := I.lay i hi
  have all : ∀ j (hj : j < (q ++ [w]).length), (j < q.length ∧ (if (q ++ [w])[j] = w then D q[i] + 1 else D (q ++ [w])[j]) = D (q[j]?.getD 0)) ∨ (j = q.length ∧ (q ++ [w])[j] = w ∧ (if (q ++ [w])[j] = w then D q[i] + 1 else D (q ++ [w])[j]) = D q[i] + 1) := fun j hj => by
    by_cases c : j < q.length
    · left
      refine ⟨c, ?_⟩
      rw [List.getElem?_eq_getElem c, get_snoc c]
      exact keyj j c
    · right
      obtain rfl : j = q.length := by omega
      exact ⟨rfl, gl, by rw [gl, if_pos rfl]⟩
  have gd : ∀ j (hj : j < q.length), q[j]?.getD 0 = q[j] := fun j hj => by rw [List.getElem?_eq_getElem hj]; rfl
  refine ⟨by omega, fun v hv => ?_, ?_, fun v hv => ?_, fun v hv hd => ?_, fun j hj => ?_, fun j j' h1 h2 => ?_, fun j j' h0 h1 h2 => ?_, ?_, fun j h0 h1 v hv ht => ?_, fun h0 k hk hk2 v hv => ?_⟩
  · rcases List.mem_append.1 hv with hv | hv
    · exact I.lt v hv
    · simp at hv; omega
  · rw [List.nodup_append]
    refine ⟨I.nd, by simp, fun a ha b hb => ?_⟩
    simp at hb
    subst hb
    intro c
    exact hnw (c ▸ ha)
  · by_cases c : v = w
    · subst c
      simp only [if_pos]
      constructor
      · intro _; simp
      · intro _; omega
    · simp only [if_neg c]
      rw [I.mem v hv]
      simp [c]
  · by_cases c : v = w
    · simp only [if_pos c] at hd ⊢
      omega
    · simp only [if_neg c] at hd ⊢
      exact I.neg v hv hd
  · rcases all j hj with ⟨c, hc⟩ | ⟨c, c1, c2⟩
    · obtain ⟨m, h3, h4, h5⟩ := I.lay j c
      refine ⟨m, ?_, h4, ?_⟩
      · rw [hc, gd j c]; exact h3
      · rw [get_snoc c]; exact h5
    · refine ⟨mi + 1, ?_, by omega, ?_⟩
      · rw [c2, hmi]; rfl
      · rw [c1]
        exact lay_step (I.lt _ (List.getElem_mem hi)) he hmi3
  · rcases all j (by omega) with ⟨c, hc⟩ | ⟨c, c1, c2⟩
    · rcases all j' h2 with ⟨d, hd⟩ | ⟨d, d1, d2⟩
      · rw [hc, hd, gd j c, gd j' d]; exact I.asc j j' h1 d
      · rw [hc, d2, gd j c]; exact I.top i j rfl hi c
    · rcases all j' h2 with ⟨d, hd⟩ | ⟨d, d1, d2⟩
      · omega
      · rw [c2, d2]; exact Int.le_refl _
  · subst h0
    rcases all j h1 with ⟨c, hc⟩ | ⟨c, c1, c2⟩
    · rcases all j' h2 with ⟨d, hd⟩ | ⟨d, d1, d2⟩
      · rw [hc, hd, gd j c, gd j' d]; exact I.top j j' rfl c d
      · rw [hc, d2, gd j c]; exact Int.le_refl _
    · omega
  · refine ⟨List.mem_append_left _ I.tt.1, ?_⟩
    rw [key t I.tt.1]; exact I.tt.2
  · have c : j < q.length := by omega
    rw [get_snoc c] at ht ⊢
    obtain ⟨h3, h4⟩ := I.done j h0 c v hv ht
    refine ⟨List.mem_append_left _ h3, ?_⟩
    rw [key v h3, keyj j c]; exact h4
  · rw [get_snoc hi] at hk2 hv ⊢
    rw [keyj i hi]
    by_cases ek : k = r
    · subst ek
      have : v = w := by omega
      subst this
      refine ⟨by simp, ?_⟩
      rw [if_pos rfl]; exact Int.le_refl _
    · obtain ⟨h3, h4⟩ := I.part hi k (by omega) hk2 v hv
      refine ⟨List.mem_append_left _ h3, ?_⟩
      rw [key v h3]; exact h4
theorem rev_mem {R : Nat → List Int} {n u v : Nat} (hv : v < n) (h : tabB R v u = true) : ∃ k, k < (revV R n u).length ∧ at0 (revV R n u) k = (v : Int) := by
  have hm : (v : Int) ∈ revV R n u := by
    unfold revV pickI
    rw [List.mem_map]
    exact ⟨v, List.mem_filter.2 ⟨List.mem_range.2 hv, h⟩, rfl⟩
  obtain ⟨k, hk, e⟩ := List.mem_iff_getElem.1 hm
  refine ⟨k, hk, ?_⟩
  unfold at0
  rw [List.getElem?_eq_getElem hk, e]
  rfl
theorem bfs_next {R : Nat → List Int} {n t i : Nat} {q : List Nat} {D : Nat → Int} (hi : i < q.length) (I : BfsI R n t i (revV R n q[i]).length q D) : BfsI R n t (i + 1) 0 q D :=
  have top' : ∀ j j' (_ : j = i + 1) (h : j < q.length) (h' : j' < q.length), D q[j'] ≤ D q[j] + 1 := fun j j' h0 h1 h2 => by
    subst h0
    have h3 := I.top i j' rfl hi h2
    have h4 := I.asc i (i + 1) (by omega) h1
    omega
  have done' : ∀ j (_ : j < i + 1) (h : j < q.length), ∀ v, v < n → tabB R v q[j] = true → v ∈ q ∧ D v ≤ D q[j] + 1 := fun j h0 h1 v hv ht => by
    by_cases e : j = i
    · subst e
      obtain ⟨k, hk, hk2⟩ := rev_mem hv ht
      exact I.part hi k hk hk v hk2
    · exact I.done j (by omega) h1 v hv ht
  { I with len := hi, top := top', done := done', part := fun _ k h => absurd h (by omega) }
theorem nodup_le : ∀ {n : Nat} {q : List Nat}, q.Nodup → (∀ v, v ∈ q → v < n) → q.length ≤ n := by
  intro n
  induction n with
  | zero =>
    intro q _ hl
    cases q with
    | nil => exact Nat.le_refl _
    | cons x l => exact absurd (hl x (by simp)) (by omega)
  | succ n ih =>
    intro q hn hl
    by_cases h : n ∈ q
    · have h1 := ih (q := q.erase n) (List.Nodup.erase n hn) fun v hv => by
        have h2 := (List.Nodup.mem_erase_iff hn).1 hv
        have h3 := hl v h2.2
        have h4 := h2.1
        omega
      have h5 := List.length_erase_of_mem h
      omega
    · have h1 := ih hn fun v hv => by
        have h3 := hl v hv
        have h4 : v ≠ n := fun c => h (c ▸ hv)
        omega
      omega
theorem bfs_end {R : Nat → List Int} {n t : Nat} {q : List Nat} {D : Nat → Int} (I : BfsI R n t q.length 0 q D) {v : Nat} (hv : v < n) : D v = dstV R n t n v := by
  have key : ∀ m v, v < n → layB R n t m v = true → v ∈ q ∧ D v ≤ (m : Int) := by
    intro m
    induction m with
    | zero =>
      intro v _ h
      have h : v = t := of_decide_eq_true h
      subst h
      exact ⟨I.tt.1, by rw [I.tt.2]; exact Int.le_refl _⟩
    | succ m ih =>
      intro v hv h
      cases h2 : layB R n t m v
      · obtain ⟨u, hu, h3, h4⟩ := lay_back h h2
        obtain ⟨h5, h6⟩ := ih u hu h4
        obtain ⟨j, hj, rfl⟩ := List.mem_iff_getElem.1 h5
        obtain ⟨h7, h8⟩ := I.done j hj hj v hv h3
        exact ⟨h7, by omega⟩
      · obtain ⟨h5, h6⟩ := ih v hv h2
        exact ⟨h5, by omega⟩
  by_cases h : v ∈ q
  · obtain ⟨j, hj, rfl⟩ := List.mem_iff_getElem.1 h
    obtain ⟨m, h1, h2, h3⟩ := I.lay j hj
    have hq : q.length ≤ n := nodup_le I.nd I.lt
    rw [h1]
    refine (dst_of (by omega) h3 fun i hi => ?_).symm
    cases h4 : layB R n t i q[j]
    · rfl
    · have := (key i _ hv h4).2
      omega
  · have hd : D v < 0 := by
      rcases Int.lt_or_le (D v) 0 with h1 | h1
      · exact h1
      · exact absurd ((I.mem v hv).1 h1) h
    rw [I.neg v hv hd]
    refine (dst_neg ?_).symm
    cases h4 : layB R n t n v
    · rfl
    · exact absurd (key n v hv h4).1 h
theorem dst_zero {R : Nat → List Int} {n t v : Nat} : dstV R n t n v = 0 ↔ v = t := by
  rcases dst_spec R n t n v with ⟨h1, h2⟩ | ⟨j, h1, h2, h3, h4⟩
  · constructor
    · intro h; omega
    · intro h
      subst h
      rw [lay_mono (k := 0) (Nat.zero_le _) (by simp [layB])] at h2; cases h2
  · constructor
    · intro h
      obtain rfl : j = 0 := by omega
      exact of_decide_eq_true h3
    · intro h
      subst h
      rw [h1]
      by_cases e : j = 0
      · rw [e]; rfl
      · have := h4 0 (by omega)
        simp [layB] at this
theorem dst_le (R : Nat → List Int) (n t v : Nat) : -1 ≤ dstV R n t n v ∧ dstV R n t n v ≤ n := by
  rcases dst_spec R n t n v with ⟨h1, h2⟩ | ⟨j, h1, h2, h3, h4⟩ <;> omega
theorem dst_next {R : Nat → List Int} {n t v m : Nat} (h : dstV R n t n v = ((m + 1 : Nat) : Int)) : ∃ u, u < n ∧ tabB R v u = true ∧ dstV R n t n u = (m : Int) := by
  rcases dst_spec R n t n v with ⟨h1, h2⟩ | ⟨j, h1, h2, h3, h4⟩
  · omega
  · obtain rfl : j = m + 1 := by omega
    obtain ⟨u, hu, h5, h6⟩ := lay_back h3 (h4 m (by omega))
    refine ⟨u, hu, h5, dst_of (by omega) h6 fun i hi => ?_⟩
    cases h7 : layB R n t i u
    · rfl
    · have := lay_mono (j := m) (by omega) (lay_step hu h5 h7)
      rw [h4 m (by omega)] at this; cases this
/-- the next vertex of the least shortest path -/
def onB (R : Nat → List Int) (n t v u : Nat) : Bool := tabB R v u && decide (dstV R n t n u = dstV R n t n v - 1)
def nxtV (R : Nat → List Int) (n t v : Nat) : Nat := ((List.range n).find? (onB R n t v)).getD n
theorem nxt_spec {R : Nat → List Int} {n t v m : Nat} (h : dstV R n t n v = ((m + 1 : Nat) : Int)) : nxtV R n t v < n ∧ onB R n t v (nxtV R n t v) = true ∧ dstV R n t n (nxtV R n t v) = (m : Int) ∧ ∀ i, i < nxtV R n t v → onB R n t v i = false := by
  obtain ⟨u, hu, h1, h2⟩ := dst_next h
  have hon : onB R n t v u = true := by
    unfold onB
    rw [h1, h2, h, Bool.true_and, decide_eq_true_eq]
    omega
  unfold nxtV
  cases hf : (List.range n).find? (onB R n t v) with
  | none =>
    have := List.find?_eq_none.1 hf u (List.mem_range.2 hu)
    exact absurd hon this
  | some x =>
    have hx := List.find?_some hf
    have hm := List.mem_range.1 (List.mem_of_find?_eq_some hf)
    have hd : dstV R n t n x = (m : Int) := by
      unfold onB at hx
      rw [Bool.and_eq_true, decide_eq_true_eq] at hx
      omega
    refine ⟨hm, hx, hd, fun i hi => ?_⟩
    have hi : i < x := hi
    rw [List.find?_range_eq_some] at hf
    have := hf.2.2 i hi
    simpa using this
def itV (R : Nat → List Int) (n t f : Nat) : Nat → Nat
  | 0 => f
  | j + 1 => nxtV R n t (itV R n t f j)
theorem it_spec {R : Nat → List Int} {n t f m : Nat} (hf : f < n) (h : dstV R n t n f = (m : Int)) : ∀ j, j ≤ m → itV R n t f j < n ∧ dstV R n t n (itV R n t f j) = ((m - j : Nat) : Int)
  | 0, _ => ⟨hf, h⟩
  | j + 1, hj => by
    obtain ⟨h1, h2⟩ := it_spec hf h j (by omega)
    obtain ⟨h3, _, h5, _⟩ := nxt_spec (m := m - (j + 1)) (h2.trans (by congr 1; omega))
    exact ⟨h3, h5⟩
/-- the path -/
def pthV (R : Nat → List Int) (n t f : Nat) : List Int := tab ((dstV R n t n f).toNat + 1) fun j => (itV R n t f j : Int)
end Go.Proofs.YtlbcdnobpnllkaaGreat.Dg

namespace Go.Proofs.YtlbcdnobpnllkaaGreat.Dg
open Go.RowKit

def RchR (R : Nat → List Int) (n u v : Nat) : Prop := u = v ∨ PathR R n u v
theorem RchR.trans {R : Nat → List Int} {n a b c : Nat} (h : RchR R n a b) (k : RchR R n b c) : RchR R n a c := by
  rcases h with rfl | h
  · exact k
  · rcases k with rfl | k
    · exact Or.inr h
    · exact Or.inr (Relation.TransGen.trans h k)
theorem RchR.edge {R : Nat → List Int} {n a b : Nat} (h : EdgeR R n a b) : RchR R n a b := Or.inr (Relation.TransGen.single h)
def MutR (R : Nat → List Int) (n u v : Nat) : Prop := RchR R n u v ∧ RchR R n v u
theorem MutR.refl (R : Nat → List Int) (n u : Nat) : MutR R n u u := ⟨Or.inl rfl, Or.inl rfl⟩
theorem MutR.symm {R : Nat → List Int} {n a b : Nat} (h : MutR R n a b) : MutR R n b a := ⟨h.2, h.1⟩
theorem MutR.trans {R : Nat → List Int} {n a b c : Nat} (h : MutR R n a b) (k : MutR R n b c) : MutR R n a c := ⟨h.1.trans k.1, k.2.trans h.2⟩
/- the search -/
structure DfsI (R : Nat → List Int) (n : Nat) (p o : List Nat) (nx : Nat → Nat) (sn : Nat → Bool) : Prop where
  seen : ∀ v, v < n → (sn v = true ↔ v ∈ p ∨ v ∈ o)
  lt : ∀ v, v ∈ p ∨ v ∈ o → v < n
  nd : (p ++ o).Nodup
  ch : ∀ i (h : i + 1 < p.length), EdgeR R n p[i] p[i + 1]
  fin : ∀ v, v ∈ o → ∀ s, EdgeR R n v s → s ∈ p ∨ s ∈ o
  nxt : ∀ v, v ∈ p → nx v ≤ (R v).length ∧ ∀ k, k < nx v → ∀ s : Nat, s < n → at0 (R v) k = (s : Int) → s ∈ p ∨ s ∈ o
  zero : ∀ v, v < n → sn v = false → nx v = 0
  K : ∀ i (h : i < o.length), ∀ j (hj : j ≤ i), ∀ s, EdgeR R n (o[j]'(by omega)) s → s ∉ o.take (i + 1) → RchR R n s o[i]
theorem dfs_start (R : Nat → List Int) (n : Nat) : DfsI R n [] [] (fun _ => 0) (fun _ => false) where
  seen := by simp
  lt := by simp
  nd := by simp
  ch := by simp
  fin := by simp
  nxt := by simp
  zero := by simp
  K := fun i h => absurd h (by simp)
theorem chain_rch {R : Nat → List Int} {n : Nat} {p : List Nat} (ch : ∀ i (h : i + 1 < p.length), EdgeR R n p[i] p[i + 1]) : ∀ (d i : Nat) (h : i + d < p.length), RchR R n (p[i]'(by omega)) p[i + d]
  | 0, _, _ => Or.inl rfl
  | d + 1, i, h => (chain_rch ch d i (by omega)).trans (RchR.edge (ch (i + d) h))
/-- a vertex that was not seen is entered -/
theorem dfs_enter {R : Nat → List Int} {n : Nat} {p o : List Nat} {nx : Nat → Nat} {sn : Nat → Bool} (I : DfsI R n p o nx sn) {w : Nat} (hw : w < n) (hs : sn w = false) (he : ∀ h : p ≠ [], EdgeR R n (p.getLast h) w) : DfsI R n (p ++ [w]) o nx (fun v => if v = w then true else sn v) := by
  have hnp : w ∉ p := fun c => by rw [(I.seen w hw).2 (Or.inl c)] at hs; cases hs
  have hno : w ∉ o := fun c => by rw [(I.seen w hw).2 (Or.inr c)] at hs; cases hs
  have up : ∀ s, s ∈ p ∨ s ∈ o → s ∈ p ++ [w] ∨ s ∈ o := fun s h => h.imp (fun h => List.mem_append_left _ h) id
  refine ⟨fun v hv => ?_, fun v hv => ?_, ?_, fun i h => ?_, fun v hv s hs => up s (I.fin v hv s hs), fun v hv => ?_, fun v hv h => ?_, I.K⟩
  · by_cases c : v = w
    · subst c; simp
    · simp only [if_neg c]
      rw [I.seen v hv]
      simp [c]
  · rcases hv with hv | hv
    · rcases List.mem_append.1 hv with hv | hv
      · exact I.lt v (Or.inl hv)
      · simp at hv; omega
    · exact I.lt v (Or.inr hv)
  · have h1 := I.nd
    rw [List.nodup_append] at h1
    rw [List.append_assoc, List.nodup_append]
    refine ⟨h1.1, ?_, fun a ha b hb => ?_⟩
    · rw [List.singleton_append, List.nodup_cons]
      exact ⟨hno, h1.2.1⟩
    · rw [List.singleton_append, List.mem_cons] at hb
      rcases hb with rfl | hb
      · exact fun c => hnp (c ▸ ha)
      · exact h1.2.2 a ha b hb
  · by_cases c : i + 1 < p.length
    · rw [List.getElem_append_left (by omega), List.getElem_append_left c]
      exact I.ch i c
    · have e : i + 1 = p.length := by simp at h; omega
      have hp : p ≠ [] := fun c => by rw [c] at e; simp at e
      have h2 := he hp
      rw [List.getLast_eq_getElem] at h2
      rw [List.getElem_append_left (by omega), List.getElem_append_right (by omega)]
      simp only [e, Nat.sub_self, List.getElem_cons_zero]
      have e2 : p.length - 1 = i := by omega
      simp only [e2] at h2
      exact h2
  · rcases List.mem_append.1 hv with hv | hv
    · obtain ⟨h1, h2⟩ := I.nxt v hv
      exact ⟨h1, fun k hk s hs e => up s (h2 k hk s hs e)⟩
    · simp at hv
      subst hv
      rw [I.zero v hw hs]
      exact ⟨Nat.zero_le _, fun k hk => absurd hk (by omega)⟩
  · by_cases c : v = w
    · subst c; simp at h
    · simp only [if_neg c] at h
      exact I.zero v hv h
/-- a successor is read -/
theorem dfs_read {R : Nat → List Int} {n : Nat} {p o : List Nat} {nx : Nat → Nat} {sn : Nat → Bool} {v : Nat} (I : DfsI R n (p ++ [v]) o nx sn) (hk : nx v < (R v).length) (h : ∀ s : Nat, s < n → at0 (R v) (nx v) = (s : Int) → s ∈ p ++ [v] ∨ s ∈ o) : DfsI R n (p ++ [v]) o (fun x => if x = v then nx v + 1 else nx x) sn := by
  have hv : v ∈ p ++ [v] := by simp
  refine ⟨I.seen, I.lt, I.nd, I.ch, I.fin, fun x hx => ?_, fun x hx hs => ?_, I.K⟩
  · by_cases c : x = v
    · subst c
      simp only [if_pos]
      refine ⟨hk, fun k hk2 s hs e => ?_⟩
      by_cases c2 : k = nx x
      · subst c2; exact h s hs e
      · exact (I.nxt x hx).2 k (by omega) s hs e
    · simp only [if_neg c]
      exact I.nxt x hx
  · by_cases c : x = v
    · subst c
      rw [(I.seen x hx).2 (Or.inl hv)] at hs
      cases hs
    · simp only [if_neg c]
      exact I.zero x hx hs
/-- a successor is read and entered -/
theorem dfs_go {R : Nat → List Int} {n : Nat} {p o : List Nat} {nx : Nat → Nat} {sn : Nat → Bool} {v w : Nat} (I : DfsI R n (p ++ [v]) o nx sn) (hk : nx v < (R v).length) (hw : w < n) (e : at0 (R v) (nx v) = (w : Int)) (hs : sn w = false) : DfsI R n (p ++ [v] ++ [w]) o (fun x => if x = v then nx v + 1 else nx x) (fun x => if x = w then true else sn x) := by
  have hvn : v < n := I.lt v (Or.inl (by simp))
  have hE : EdgeR R n v w := by
    refine ⟨hvn, hw, ?_⟩
    rw [← e]
    unfold at0
    rw [List.getElem?_eq_getElem hk]
    exact List.getElem_mem hk
  have J := dfs_enter I hw hs (fun h => by simpa using hE)
  have hvw : v ≠ w := fun c => by
    subst c
    rw [(I.seen v hw).2 (Or.inl (by simp))] at hs
    cases hs
  refine ⟨J.seen, J.lt, J.nd, J.ch, J.fin, fun x hx => ?_, fun x hx h2 => ?_, J.K⟩
  · obtain ⟨h1, h2⟩ := J.nxt x hx
    by_cases c : x = v
    · subst c
      simp only [if_pos]
      refine ⟨hk, fun k hk2 s hs e2 => ?_⟩
      by_cases c2 : k = nx x
      · subst c2
        have : s = w := by omega
        subst this
        exact Or.inl (by simp)
      · exact h2 k (by omega) s hs e2
    · simp only [if_neg c]
      exact ⟨h1, h2⟩
  · by_cases c : x = v
    · subst c
      simp only [if_neg hvw] at h2
      rw [(I.seen x hx).2 (Or.inl (by simp))] at h2
      cases h2
    · simp only [if_neg c]
      exact J.zero x hx h2
/-- a vertex is left -/
theorem dfs_pop {R : Nat → List Int} {n : Nat} {p o : List Nat} {nx : Nat → Nat} {sn : Nat → Bool} {v : Nat} (I : DfsI R n (p ++ [v]) o nx sn) (hk : ¬ nx v < (R v).length) : DfsI R n p (o ++ [v]) nx sn := by
  have mv : ∀ s, s ∈ p ++ [v] ∨ s ∈ o → s ∈ p ∨ s ∈ o ++ [v] := fun s h => by
    rcases h with h | h
    · rcases List.mem_append.1 h with h | h
      · exact Or.inl h
      · exact Or.inr (List.mem_append_right _ h)
    · exact Or.inr (List.mem_append_left _ h)
  have mv2 : ∀ s, s ∈ p ∨ s ∈ o ++ [v] → s ∈ p ++ [v] ∨ s ∈ o := fun s h => by
    rcases h with h | h
    · exact Or.inl (List.mem_append_left _ h)
    · rcases List.mem_append.1 h with h | h
      · exact Or.inr h
      · exact Or.inl (List.mem_append_right _ h)
  have vfin : ∀ s, EdgeR R n v s → s ∈ p ++ [v] ∨ s ∈ o := fun s hs => by
    obtain ⟨h1, h2⟩ := I.nxt v (by simp)
    obtain ⟨k, hk3, e⟩ := List.mem_iff_getElem.1 hs.2.2
    refine h2 k (by omega) s hs.2.1 ?_
    unfold at0
    rw [List.getElem?_eq_getElem hk3, e]
    rfl
  refine ⟨fun x hx => ?_, fun x hx => I.lt x (mv2 x hx), ?_, fun i h => ?_, fun x hx s hs => ?_, fun x hx => ?_, I.zero, fun i h j hj s hs hn => ?_⟩
  · rw [I.seen x hx]
    exact ⟨mv x, mv2 x⟩
  · have h1 := I.nd
    rw [List.append_assoc, List.nodup_append] at h1
    rw [List.nodup_append]
    refine ⟨h1.1, ?_, fun a ha b hb => ?_⟩
    · have h2 := h1.2.1
      rw [List.singleton_append, List.nodup_cons] at h2
      rw [List.nodup_append]
      refine ⟨h2.2, by simp, fun a ha b hb => ?_⟩
      simp at hb
      subst hb
      exact fun c => h2.1 (c ▸ ha)
    · refine h1.2.2 a ha b ?_
      rcases List.mem_append.1 hb with hb | hb
      · exact List.mem_append_right _ hb
      · exact List.mem_append_left _ hb
  · have h2 := I.ch i (by simp; omega)
    rw [List.getElem_append_left (by omega), List.getElem_append_left h] at h2
    exact h2
  · rcases List.mem_append.1 hx with hx | hx
    · exact mv s (I.fin x hx s hs)
    · simp at hx
      subst hx
      exact mv s (vfin s hs)
  · obtain ⟨h1, h2⟩ := I.nxt x (List.mem_append_left _ hx)
    exact ⟨h1, fun k hk s hs e => mv s (h2 k hk s hs e)⟩
  · by_cases c : i < o.length
    · rw [List.getElem_append_left (by omega)] at hs
      rw [List.getElem_append_left c]
      refine I.K i c j hj s hs ?_
      rw [List.take_append_of_le_length (by omega)] at hn
      exact hn
    · have e : i = o.length := by simp at h; omega
      subst e
      rw [List.getElem_append_right (by omega)]
      simp only [Nat.sub_self, List.getElem_cons_zero]
      rw [List.take_of_length_le (by simp)] at hn
      have hin : s ∈ p ++ [v] ∨ s ∈ o := by
        by_cases c2 : j < o.length
        · rw [List.getElem_append_left c2] at hs
          exact I.fin _ (List.getElem_mem c2) s hs
        · rw [List.getElem_append_right (by omega)] at hs
          have e2 : j - o.length = 0 := by omega
          simp only [e2, List.getElem_cons_zero] at hs
          exact vfin s hs
      rcases hin with h1 | h1
      · obtain ⟨a, ha, rfl⟩ := List.mem_iff_getElem.1 h1
        have hl : (p ++ [v]).length = p.length + 1 := by simp
        have h3 := chain_rch I.ch (p.length - a) a (by omega)
        have e3 : a + (p.length - a) = p.length := by omega
        simp only [e3] at h3
        rw [List.getElem_append_right (Nat.le_refl _)] at h3
        simp only [Nat.sub_self, List.getElem_cons_zero] at h3
        exact h3
      · exact absurd (List.mem_append_left _ h1) hn
/-- the order at the end -/
structure FinO (R : Nat → List Int) (n : Nat) (o : List Nat) : Prop where
  all : ∀ v, v < n → v ∈ o
  lt : ∀ v, v ∈ o → v < n
  nd : o.Nodup
  K : ∀ i (h : i < o.length), ∀ j (hj : j ≤ i), ∀ s, EdgeR R n (o[j]'(by omega)) s → s ∉ o.take (i + 1) → RchR R n s o[i]
theorem dfs_end {R : Nat → List Int} {n : Nat} {o : List Nat} {nx : Nat → Nat} {sn : Nat → Bool} (I : DfsI R n [] o nx sn) (h : ∀ v, v < n → sn v = true) : FinO R n o where
  all := fun v hv => by
    rcases (I.seen v hv).1 (h v hv) with h1 | h1
    · cases h1
    · exact h1
  lt := fun v hv => I.lt v (Or.inr hv)
  nd := I.nd
  K := I.K
theorem last_of (P : Nat → Prop) : ∀ (n : Nat), (∃ k, k < n ∧ P k) → ∃ m, m < n ∧ P m ∧ ∀ k, m < k → k < n → ¬ P k
  | 0, ⟨k, hk, _⟩ => absurd hk (by omega)
  | n + 1, ⟨k, hk, hp⟩ => by
    by_cases h : P n
    · exact ⟨n, by omega, h, fun j h1 h2 => by omega⟩
    · obtain ⟨m, h1, h2, h3⟩ := last_of P n ⟨k, by
        have : k ≠ n := fun c => h (c ▸ hp)
        omega, hp⟩
      refine ⟨m, by omega, h2, fun j h4 h5 => ?_⟩
      by_cases c : j = n
      · subst c; exact h
      · exact h3 j h4 (by omega)
theorem nd_inj {o : List Nat} (hn : o.Nodup) {i j : Nat} {hi : i < o.length} {hj : j < o.length} (e : o[i] = o[j]) : i = j := by
  have h := List.pairwise_iff_getElem.1 hn
  rcases Nat.lt_trichotomy i j with c | c | c
  · exact absurd e (h i j hi hj c)
  · exact c
  · exact absurd e.symm (h j i hj hi c)
theorem mem_take_of {o : List Nat} (hn : o.Nodup) {i m : Nat} (hi : i < o.length) (h : o[i] ∈ o.take (m + 1)) : i ≤ m := by
  obtain ⟨a, ha, e⟩ := List.mem_iff_getElem.1 h
  rw [List.getElem_take] at e
  have h1 : a < o.length := by simp at ha; omega
  have : a = i := nd_inj hn e
  simp at ha; omega
/-- who reaches r but is not reached by it has in its component a vertex that is left later than r -/
theorem fin_later {R : Nat → List Int} {n : Nat} {o : List Nat} (F : FinO R n o) {x : Nat} (hx : x < n) {i : Nat} (hi : i < o.length) (h : RchR R n x o[i]) (h2 : ¬ RchR R n o[i] x) : ∃ k, ∃ hk : k < o.length, i < k ∧ MutR R n x o[k] := by
  obtain ⟨ix, hix, ex⟩ := List.mem_iff_getElem.1 (F.all x hx)
  obtain ⟨m, hm, ⟨hm2, hmut⟩, hmax⟩ := last_of (fun k => ∃ hk : k < o.length, MutR R n x o[k]) o.length ⟨ix, hix, hix, by rw [ex]; exact MutR.refl R n x⟩
  rcases Nat.lt_trichotomy i m with c | c | c
  · exact ⟨m, hm, c, hmut⟩
  · subst c
    exact absurd hmut.2 h2
  · exfalso
    have hMr : RchR R n o[m] o[i] := hmut.2.trans h
    have hne : o[m] ≠ o[i] := fun e => by
      have := nd_inj F.nd e
      omega
    have hP : PathR R n o[m] o[i] := hMr.resolve_left hne
    have key : ∀ b, PathR R n o[m] b → b ∉ o.take (m + 1) → ∃ p s, EdgeR R n p s ∧ p ∈ o.take (m + 1) ∧ s ∉ o.take (m + 1) ∧ RchR R n o[m] p := by
      intro b hb
      have hself : o[m] ∈ o.take (m + 1) := by
        rw [List.mem_iff_getElem]
        exact ⟨m, by simp; omega, by rw [List.getElem_take]⟩
      induction hb with
      | single h => exact fun hn => ⟨_, _, h, hself, hn, Or.inl rfl⟩
      | @tail y z hy h ih =>
        intro hn
        by_cases c2 : y ∈ o.take (m + 1)
        · exact ⟨y, z, h, c2, hn, Or.inr hy⟩
        · exact ih c2
    have hri : o[i] ∉ o.take (m + 1) := fun c2 => by have := mem_take_of F.nd hi c2; omega
    obtain ⟨p, s, hE, hp, hs, hMp⟩ := key _ hP hri
    obtain ⟨j, hj, ej⟩ := List.mem_iff_getElem.1 hp
    rw [List.getElem_take] at ej
    have hjm : j ≤ m := by simp at hj; omega
    have hK := F.K m hm j hjm s (by rw [ej]; exact hE) hs
    have hMs : MutR R n o[m] s := ⟨hMp.trans (RchR.edge hE), hK⟩
    obtain ⟨k, hk, ek⟩ := List.mem_iff_getElem.1 (F.all s hE.2.1)
    have hkm : m < k := by
      rcases Nat.lt_or_ge m k with c3 | c3
      · exact c3
      · refine absurd ?_ hs
        rw [List.mem_iff_getElem]
        exact ⟨k, by simp; omega, by rw [List.getElem_take]; exact ek⟩
    exact hmax k hkm hk ⟨hk, by rw [ek]; exact hmut.trans hMs⟩
end Go.Proofs.YtlbcdnobpnllkaaGreat.Dg

namespace Go.Proofs.YtlbcdnobpnllkaaGreat.Dg
open Go.RowKit

structure MemI (R : Nat → List Int) (n : Nat) (A0 : Nat → Bool) (r i k : Nat) (q : List Nat) : Prop where
  len : i ≤ q.length
  root : r ∈ q
  lt : ∀ v, v ∈ q → v < n
  nd : q.Nodup
  rch : ∀ v, v ∈ q → RchR R n v r
  new : ∀ v, v ∈ q → A0 v = false
  done : ∀ j (_ : j < i) (h : j < q.length), ∀ w, EdgeR R n w q[j] → A0 w = true ∨ w ∈ q
  part : ∀ (h : i < q.length), ∀ a, a < k → a < (revV R n q[i]).length → ∀ w : Nat, at0 (revV R n q[i]) a = (w : Int) → A0 w = true ∨ w ∈ q
theorem mem_start {R : Nat → List Int} {n : Nat} {A0 : Nat → Bool} {r : Nat} (hr : r < n) (h : A0 r = false) : MemI R n A0 r 0 0 [r] where
  len := by simp
  root := by simp
  lt := fun v hv => by simp at hv; omega
  nd := by simp
  rch := fun v hv => by simp at hv; exact Or.inl hv
  new := fun v hv => by simp at hv; subst hv; exact h
  done := fun j h => absurd h (by omega)
  part := fun _ a h => absurd h (by omega)
theorem mem_old {R : Nat → List Int} {n : Nat} {A0 : Nat → Bool} {r i k : Nat} {q : List Nat} (I : MemI R n A0 r i k q) (hi : i < q.length) {w : Nat} (e : at0 (revV R n q[i]) k = (w : Int)) (h : A0 w = true ∨ w ∈ q) : MemI R n A0 r i (k + 1) q := by
  have part' : ∀ (h : i < q.length), ∀ a, a < k + 1 → a < (revV R n q[i]).length → ∀ w : Nat, at0 (revV R n q[i]) a = (w : Int) → A0 w = true ∨ w ∈ q := fun h' a ha ha2 v hv => by
    by_cases c : a = k
    · subst c
      have : v = w := by omega
      subst this
      exact h
    · exact I.part h' a (by omega) ha2 v hv
  exact { I with part := part' }
theorem mem_new {R : Nat → List Int} {n : Nat} {A0 : Nat → Bool} {r i k : Nat} {q : List Nat} (I : MemI R n A0 r i k q) (hi : i < q.length) {w : Nat} (hw : w < n) (e : at0 (revV R n q[i]) k = (w : Int)) (h : A0 w = false) (h2 : w ∉ q) (hE : EdgeR R n w q[i]) : MemI R n A0 r i (k + 1) (q ++ [w]) := by
  have up : ∀ x, A0 x = true ∨ x ∈ q → A0 x = true ∨ x ∈ q ++ [w] := fun x hx => hx.imp id fun hx => List.mem_append_left _ hx
  refine ⟨by have := I.len; simp; omega, List.mem_append_left _ I.root, fun v hv => ?_, ?_, fun v hv => ?_, fun v hv => ?_, fun j hj hj2 x hx => ?_, fun h0 a ha ha2 v hv => ?_⟩
  · rcases List.mem_append.1 hv with hv | hv
    · exact I.lt v hv
    · simp at hv; omega
  · rw [List.nodup_append]
    refine ⟨I.nd, by simp, fun a ha b hb => ?_⟩
    simp at hb
    subst hb
    exact fun c => h2 (c ▸ ha)
  · rcases List.mem_append.1 hv with hv | hv
    · exact I.rch v hv
    · simp at hv
      subst hv
      exact (RchR.edge hE).trans (I.rch _ (List.getElem_mem hi))
  · rcases List.mem_append.1 hv with hv | hv
    · exact I.new v hv
    · simp at hv
      subst hv
      exact h
  · have hj3 : j < q.length := by omega
    rw [List.getElem_append_left hj3] at hx
    exact up x (I.done j hj hj3 x hx)
  · rw [List.getElem_append_left hi] at ha2 hv
    by_cases c : a = k
    · subst c
      have : v = w := by omega
      subst this
      exact Or.inr (by simp)
    · exact up v (I.part hi a (by omega) ha2 v hv)
theorem mem_next {R : Nat → List Int} {n : Nat} {A0 : Nat → Bool} {r i : Nat} {q : List Nat} (hi : i < q.length) (I : MemI R n A0 r i (revV R n q[i]).length q) : MemI R n A0 r (i + 1) 0 q := by
  have done' : ∀ j (_ : j < i + 1) (h : j < q.length), ∀ w, EdgeR R n w q[j] → A0 w = true ∨ w ∈ q := fun j h0 h1 w hE => by
    by_cases c : j = i
    · subst c
      have ht : tabB R w q[j] = true := by unfold tabB; simpa using hE.2.2
      obtain ⟨a, ha, ha2⟩ := rev_mem hE.1 ht
      exact I.part hi a ha ha w ha2
    · exact I.done j (by omega) h1 w hE
  exact { I with len := hi, done := done', part := fun _ a h => absurd h (by omega) }
theorem mem_end {R : Nat → List Int} {n : Nat} {A0 : Nat → Bool} {r : Nat} {q : List Nat} (I : MemI R n A0 r q.length 0 q)
    (cl : ∀ u v, u < n → v < n → MutR R n u v → A0 u = true → A0 v = true) (pr : ∀ x, x < n → RchR R n x r → ¬ RchR R n r x → A0 x = true) (v : Nat) (hv : v < n) : v ∈ q ↔ MutR R n v r := by
  have hrn := I.lt r I.root
  constructor
  · intro h
    refine ⟨I.rch v h, Classical.byContradiction fun c => ?_⟩
    have h1 := pr v hv (I.rch v h) c
    rw [I.new v h] at h1
    cases h1
  · rintro ⟨h1, h2⟩
    rcases h1 with rfl | h1
    · exact I.root
    · have key : ∀ x, x < n → RchR R n r x → PathR R n x r → x ∈ q := by
        intro x hx hrx hp
        have hp2 : ∀ y, PathR R n x y → y ∈ q → RchR R n y r → x ∈ q := by
          intro y hy
          induction hy with
          | single h =>
            intro hq _
            obtain ⟨j, hj, rfl⟩ := List.mem_iff_getElem.1 hq
            rcases I.done j hj hj x h with h3 | h3
            · have := cl x r hx hrn ⟨Or.inr hp, hrx⟩ h3
              rw [I.new r I.root] at this; cases this
            · exact h3
          | @tail b c hb h ih =>
            intro hq hyr
            obtain ⟨j, hj, rfl⟩ := List.mem_iff_getElem.1 hq
            have hbr : RchR R n b r := (RchR.edge h).trans hyr
            rcases I.done j hj hj b h with h3 | h3
            · have hrb : RchR R n r b := hrx.trans (Or.inr hb)
              have := cl b r h.1 hrn ⟨hbr, hrb⟩ h3
              rw [I.new r I.root] at this; cases this
            · exact ih h3 hbr
        exact hp2 r hp I.root (Or.inl rfl)
      exact key v hv h2 h1
/-- the least vertex of a component -/
def mutB (R : Nat → List Int) (n u v : Nat) : Bool := warN (tabB R) n u v && warN (tabB R) n v u
def cmpV (R : Nat → List Int) (n v : Nat) : Nat := ((List.range v).find? fun u => mutB R n u v).getD v
theorem mutB_iff {R : Nat → List Int} {n u v : Nat} (hu : u < n) (hv : v < n) (hne : u ≠ v) : mutB R n u v = true ↔ MutR R n u v := by
  unfold mutB MutR RchR
  rw [Bool.and_eq_true, war_iff hu hv, war_iff hv hu]
  constructor
  · rintro ⟨h1, h2⟩; exact ⟨Or.inr h1, Or.inr h2⟩
  · rintro ⟨h1, h2⟩; exact ⟨h1.resolve_left hne, h2.resolve_left fun c => hne c.symm⟩
theorem cmp_spec {R : Nat → List Int} {n v : Nat} (hv : v < n) : cmpV R n v ≤ v ∧ MutR R n (cmpV R n v) v ∧ (∀ u, u < n → MutR R n u v → cmpV R n v ≤ u) ∧ ∀ i, i < cmpV R n v → mutB R n i v = false := by
  unfold cmpV
  cases hf : (List.range v).find? fun u => mutB R n u v with
  | none =>
    have hno := List.find?_eq_none.1 hf
    refine ⟨Nat.le_refl _, MutR.refl R n v, fun u hu h => ?_, fun i hi => ?_⟩
    · rcases Nat.lt_or_ge u v with c | c
      · exact absurd ((mutB_iff hu hv (by omega)).2 h) (hno u (List.mem_range.2 c))
      · exact c
    · have hi : i < v := hi
      simpa using hno i (List.mem_range.2 hi)
  | some x =>
    have hx := List.find?_some hf
    have hm := List.mem_range.1 (List.mem_of_find?_eq_some hf)
    rw [List.find?_range_eq_some] at hf
    refine ⟨Nat.le_of_lt hm, (mutB_iff (Nat.lt_trans hm hv) hv (Nat.ne_of_lt hm)).1 hx, fun u hu h => ?_, fun i hi => ?_⟩
    · show x ≤ u
      rcases Nat.lt_or_ge u x with c | c
      · have h1 := hf.2.2 u c
        have h2 := (mutB_iff hu hv (by omega)).2 h
        rw [h2] at h1
        cases h1
      · exact c
    · have hi : i < x := hi
      simpa using hf.2.2 i hi
theorem cmp_of {R : Nat → List Int} {n v m : Nat} (hv : v < n) (hm : m < n) (h : MutR R n m v) (h2 : ∀ u, u < n → MutR R n u v → m ≤ u) : cmpV R n v = m := by
  obtain ⟨h3, h4, h5, _⟩ := cmp_spec (R := R) hv
  have h6 := h5 m hm h
  have h7 := h2 _ (by omega) h4
  omega
theorem cmp_eq {R : Nat → List Int} {n u v : Nat} (hu : u < n) (hv : v < n) : cmpV R n u = cmpV R n v ↔ MutR R n u v := by
  obtain ⟨h1, h2, h3, _⟩ := cmp_spec (R := R) hu
  obtain ⟨h4, h5, h6, _⟩ := cmp_spec (R := R) hv
  constructor
  · intro e
    rw [e] at h2
    exact h2.symm.trans h5
  · intro h
    have a := h3 _ (by omega) (h5.trans h.symm)
    have b := h6 _ (by omega) (h2.trans h)
    omega
structure CmpI (R : Nat → List Int) (n : Nat) (o : List Nat) (k : Nat) (A : Nat → Bool) (L : Nat → Int) : Prop where
  cl : ∀ u v, u < n → v < n → MutR R n u v → A u = true → A v = true
  pr : ∀ j, k ≤ j → ∀ h : j < o.length, A o[j] = true
  ls : ∀ v, v < n → A v = true → L v = (cmpV R n v : Int)
theorem cmp_start (R : Nat → List Int) (n : Nat) (o : List Nat) (L : Nat → Int) : CmpI R n o o.length (fun _ => false) L :=
  ⟨fun _ _ _ _ _ h => (by cases h), fun j h1 h2 => (by omega), fun _ _ h => (by cases h)⟩
theorem cmp_old {R : Nat → List Int} {n : Nat} {o : List Nat} {k : Nat} {A : Nat → Bool} {L : Nat → Int} (I : CmpI R n o (k + 1) A L) (hk : k < o.length) (h : A o[k] = true) : CmpI R n o k A L :=
  ⟨I.cl, fun j h1 h2 => by
    by_cases c : j = k
    · subst c; exact h
    · exact I.pr j (by omega) h2, I.ls⟩
theorem cmp_pr {R : Nat → List Int} {n : Nat} {o : List Nat} (F : FinO R n o) {k : Nat} {A : Nat → Bool} {L : Nat → Int} (I : CmpI R n o (k + 1) A L) (hk : k < o.length) : ∀ x, x < n → RchR R n x o[k] → ¬ RchR R n o[k] x → A x = true := fun x hx h1 h2 => by
  obtain ⟨j, hj, hkj, hm⟩ := fin_later F hx hk h1 h2
  exact I.cl _ _ (F.lt _ (List.getElem_mem hj)) hx hm.symm (I.pr j (by omega) hj)
theorem cmp_new {R : Nat → List Int} {n : Nat} {o : List Nat} (F : FinO R n o) {k : Nat} {A : Nat → Bool} {L : Nat → Int} (I : CmpI R n o (k + 1) A L) (hk : k < o.length) {q : List Nat} (M : MemI R n A o[k] q.length 0 q)
    {m : Nat} (hm : m ∈ q) (hm2 : ∀ x, x ∈ q → m ≤ x) : CmpI R n o k (fun v => A v || decide (v ∈ q)) (fun v => if v ∈ q then (m : Int) else L v) := by
  have E := mem_end M I.cl (cmp_pr F I hk)
  have hr := M.lt _ M.root
  refine ⟨fun u v hu hv h h2 => ?_, fun j h1 h2 => ?_, fun v hv h => ?_⟩
  · rw [Bool.or_eq_true, decide_eq_true_eq] at h2 ⊢
    rcases h2 with h2 | h2
    · exact Or.inl (I.cl u v hu hv h h2)
    · exact Or.inr ((E v hv).2 (h.symm.trans ((E u hu).1 h2)))
  · rw [Bool.or_eq_true, decide_eq_true_eq]
    by_cases c : j = k
    · subst c; exact Or.inr M.root
    · exact Or.inl (I.pr j (by omega) h2)
  · by_cases c : v ∈ q
    · rw [if_pos c]
      have h1 := cmp_of hv (M.lt m hm) (((E m (M.lt m hm)).1 hm).trans ((E v hv).1 c).symm) fun u hu h => hm2 u ((E u hu).2 (h.trans ((E v hv).1 c)))
      rw [h1]
    · rw [if_neg c]
      rw [Bool.or_eq_true, decide_eq_true_eq] at h
      exact I.ls v hv (h.resolve_right c)
theorem cmp_end {R : Nat → List Int} {n : Nat} {o : List Nat} (F : FinO R n o) {A : Nat → Bool} {L : Nat → Int} (I : CmpI R n o 0 A L) {v : Nat} (hv : v < n) : L v = (cmpV R n v : Int) := by
  obtain ⟨j, hj, e⟩ := List.mem_iff_getElem.1 (F.all v hv)
  have h := I.pr j (Nat.zero_le _) hj
  rw [e] at h
  exact I.ls v hv h
/- components that no edge leaves -/
def outE (R : Nat → List Int) (n x i : Nat) : Bool := inR (at0 (R x) i) n && !decide (cmpV R n (at0 (R x) i).toNat = cmpV R n x)
def outB (R : Nat → List Int) (n x : Nat) : Bool := anyN (outE R n x) (R x).length
def lefK (R : Nat → List Int) (n k v : Nat) : Bool := anyN (fun x => decide (cmpV R n x = v) && outB R n x) k
def levB (R : Nat → List Int) (n k v : Nat) : Bool := !decide (cmpV R n v = v) || anyN (fun u => warN (tabB R) n v u && !decide (cmpV R n u = v)) k
def botV (R : Nat → List Int) (n : Nat) : List Int := pickI (fun v => decide (cmpV R n v = v) && !lefK R n n v) n
theorem anyN_iff {f : Nat → Bool} {n : Nat} : anyN f n = true ↔ ∃ i, i < n ∧ f i = true := by
  unfold anyN
  rw [List.any_eq_true]
  exact ⟨fun ⟨i, h1, h2⟩ => ⟨i, List.mem_range.1 h1, h2⟩, fun ⟨i, h1, h2⟩ => ⟨i, List.mem_range.2 h1, h2⟩⟩
theorem lev_lef {R : Nat → List Int} {n v : Nat} (hv : v < n) : (!levB R n n v) = (decide (cmpV R n v = v) && !lefK R n n v) := by
  unfold levB
  rw [Bool.not_or, Bool.not_not]
  by_cases hc : cmpV R n v = v
  · rw [decide_eq_true hc, Bool.true_and, Bool.true_and]
    congr 1
    rw [Bool.eq_iff_iff]
    unfold lefK
    rw [anyN_iff, anyN_iff]
    constructor
    · rintro ⟨u, hu, h⟩
      rw [Bool.and_eq_true, war_iff hv hu] at h
      obtain ⟨h1, h2⟩ := h
      have h2 : cmpV R n u ≠ v := by simpa using h2
      clear hu
      have key : ∀ y, PathR R n v y → cmpV R n y ≠ v → ∃ x w, EdgeR R n x w ∧ cmpV R n x = v ∧ cmpV R n w ≠ v := by
        intro y hy
        induction hy with
        | single h => exact fun hn => ⟨_, _, h, hc, hn⟩
        | @tail y z hy h ih =>
          intro hn
          by_cases c : cmpV R n y = v
          · exact ⟨y, z, h, c, hn⟩
          · exact ih c
      obtain ⟨x, w, hE, h3, h4⟩ := key u h1 h2
      refine ⟨x, hE.1, ?_⟩
      rw [decide_eq_true h3, Bool.true_and]
      unfold outB
      rw [anyN_iff]
      obtain ⟨i, hi, e⟩ := List.mem_iff_getElem.1 hE.2.2
      refine ⟨i, hi, ?_⟩
      have e2 : at0 (R x) i = (w : Int) := by unfold at0; rw [List.getElem?_eq_getElem hi, e]; rfl
      unfold outE
      rw [e2, h3, Bool.and_eq_true, inR_iff]
      refine ⟨by have := hE.2.1; omega, ?_⟩
      simpa using h4
    · rintro ⟨x, hx, h⟩
      rw [Bool.and_eq_true, decide_eq_true_eq] at h
      obtain ⟨h1, h2⟩ := h
      unfold outB at h2
      rw [anyN_iff] at h2
      obtain ⟨i, hi, h3⟩ := h2
      unfold outE at h3
      rw [Bool.and_eq_true, inR_iff] at h3
      obtain ⟨⟨h4, h5⟩, h6⟩ := h3
      have h6 : cmpV R n (at0 (R x) i).toNat ≠ cmpV R n x := by simpa using h6
      have hE : EdgeR R n x (at0 (R x) i).toNat := by
        refine ⟨hx, by omega, ?_⟩
        rw [show (((at0 (R x) i).toNat : Nat) : Int) = at0 (R x) i from by omega]
        unfold at0
        rw [List.getElem?_eq_getElem hi]
        exact List.getElem_mem hi
      refine ⟨_, hE.2.1, ?_⟩
      rw [Bool.and_eq_true, war_iff hv hE.2.1]
      have hm : MutR R n v x := (cmp_eq hv hx).1 (by rw [hc, h1])
      refine ⟨?_, by rw [h1] at h6; simpa using h6⟩
      rcases hm.1 with rfl | hp
      · exact Relation.TransGen.single hE
      · exact Relation.TransGen.tail hp hE
  · rw [decide_eq_false hc]
    simp
end Go.Proofs.YtlbcdnobpnllkaaGreat.Dg

namespace Go.Proofs.YtlbcdnobpnllkaaGreat.Dg
open Go.RowKit Go.Deep

def zN (l : List Nat) : List Int := l.map fun (x : Nat) => (x : Int)
theorem zN_len (l : List Nat) : (zN l).length = l.length := by simp [zN]
theorem zN_snoc (l : List Nat) (v : Nat) : zN (l ++ [v]) = zN l ++ [(v : Int)] := by simp [zN]
theorem zN_at {l : List Nat} {i : Nat} (h : i < l.length) : at0 (zN l) i = (l[i] : Int) := by
  unfold at0 zN
  rw [List.getElem?_map, List.getElem?_eq_getElem h]
  rfl
structure EnvF (w : World) (n : Nat) (p o : List Nat) (nx : Nat → Nat) (sn : Nat → Bool) (ov : Value) (W : World) : Prop where
  pb : ∃ pv, W.rowIs w.heap.size 34 1 (fun _ => pv) ∧ W.ownsRow (w.heap.size + 4) 3 1 pv (zN p).length (vI (zN p)) ∧ (pv.ownBlock = none ∨ pv.ownBlock ≠ ov.ownBlock)
  sb : W.cell? ⟨w.heap.size + 2, 0, none⟩ = some (.slice (some ⟨w.heap.size + 1, 0, none⟩) n n)
  sr : RowB W (w.heap.size + 1) n sn
  nr : W.rowIs (w.heap.size + 3) 3 n (fun j => .int .i64 (nx j : Nat))
  oo : W.ownsRow (w.heap.size + 4) 3 1 ov (zN o).length (vI (zN o))
  sz : w.heap.size + 4 ≤ W.heap.size
  bw : Below w.heap.size w W
section
variable {w W w' : World} {n : Nat} {p o : List Nat} {nx : Nat → Nat} {sn : Nat → Bool} {ov : Value}
/-- all its blocks are as they were -/
theorem EnvF.move (E : EnvF w n p o nx sn ov W) (hs : W.heap.size ≤ w'.heap.size) (hb : ∀ k, w.heap.size ≤ k → k < W.heap.size → w'.heap[k]? = W.heap[k]?) (bw : Below w.heap.size w w') : EnvF w n p o nx sn ov w' := by
  obtain ⟨pv, h1, h2, h3⟩ := E.pb
  have hz := E.sz
  have own : ∀ v xs m, W.ownsRow (w.heap.size + 4) 3 1 v m xs → w'.ownsRow (w.heap.size + 4) 3 1 v m xs := fun v xs m h => own_block h fun q hq => by
    obtain ⟨h4, h5⟩ := h.lt q hq
    exact hb q (by omega) h5
  exact ⟨⟨pv, h1.of_block (hb _ (Nat.le_refl _) (by omega)), own _ _ _ h2, h3⟩, (World.cell?_of_block (w := W) (a := ⟨w.heap.size + 2, 0, none⟩) (hb (w.heap.size + 2) (by omega) (by omega))).trans E.sb, E.sr.of_block (hb _ (by omega) (by omega)), E.nr.of_block (hb _ (by omega) (by omega)), own _ _ _ E.oo, by omega, bw⟩
theorem EnvF.alloc (E : EnvF w n p o nx sn ov W) (ob : Obj) : EnvF w n p o nx sn ov (W.alloc ob) :=
  E.move (by rw [World.size_alloc]; omega) (fun k _ h => blk_alloc_lt _ _ _ h) (E.bw.alloc (by have := E.sz; omega) _)
theorem EnvF.drew (E : EnvF w n p o nx sn ov W) : EnvF w n p o nx sn ov W.drew := E.move (Nat.le_refl _) (fun _ _ _ => rfl) E.bw.drew
theorem own_other {B : Nat} {v u : Value} {m b i : Nat} {xs : List Value} (h : W.ownsRow B 3 1 v m xs) (hb : b < B) : (W.setCell ⟨b, i, none⟩ u).ownsRow B 3 1 v m xs :=
  ownsRow_setCell_below h (by show b < B; exact hb) u
theorem EnvF.seen (E : EnvF w n p o nx sn ov W) (v : Nat) : EnvF w n p o nx (fun x => if x = v then true else sn x) ov (W.setCell ⟨w.heap.size + 1, v, none⟩ (.bool true)) := by
  obtain ⟨pv, h1, h2, h3⟩ := E.pb
  have oth : ∀ k, k ≠ w.heap.size + 1 → (W.setCell ⟨w.heap.size + 1, v, none⟩ (.bool true)).heap[k]? = W.heap[k]? := fun k hk => blk_setCell_other _ _ _ _ hk
  exact ⟨⟨pv, h1.of_block (oth _ (by omega)), own_other h2 (by omega), h3⟩, (World.cell?_of_block (w := W) (a := ⟨w.heap.size + 2, 0, none⟩) (oth (w.heap.size + 2) (by omega))).trans E.sb, E.sr.set v true, E.nr.of_block (oth _ (by omega)), own_other E.oo (by omega), by rw [nblk_setCell]; exact E.sz, E.bw.setCell (by show w.heap.size ≤ w.heap.size + 1; omega) _⟩
theorem EnvF.next (E : EnvF w n p o nx sn ov W) (v m : Nat) : EnvF w n p o (fun x => if x = v then m else nx x) sn ov (W.setCell ⟨w.heap.size + 3, v, none⟩ (.int .i64 (m : Nat))) := by
  obtain ⟨pv, h1, h2, h3⟩ := E.pb
  have oth : ∀ k, k ≠ w.heap.size + 3 → (W.setCell ⟨w.heap.size + 3, v, none⟩ (.int .i64 (m : Nat))).heap[k]? = W.heap[k]? := fun k hk => blk_setCell_other _ _ _ _ hk
  exact ⟨⟨pv, h1.of_block (oth _ (by omega)), own_other h2 (by omega), h3⟩, (World.cell?_of_block (w := W) (a := ⟨w.heap.size + 2, 0, none⟩) (oth (w.heap.size + 2) (by omega))).trans E.sb, E.sr.of_block (oth _ (by omega)), (E.nr.set v (.int .i64 (m : Nat))).congr (fun j _ => by by_cases c : j = v <;> simp [c]), own_other E.oo (by omega), by rw [nblk_setCell]; exact E.sz, E.bw.setCell (by show w.heap.size ≤ w.heap.size + 3; omega) _⟩
/-- the path's box is written -/
theorem EnvF.box (E : EnvF w n p o nx sn ov W) {p' : List Nat} {pv' : Value} (h : W.ownsRow (w.heap.size + 4) 3 1 pv' (zN p').length (vI (zN p'))) (h3 : pv'.ownBlock = none ∨ pv'.ownBlock ≠ ov.ownBlock) : EnvF w n p' o nx sn ov (W.setCell ⟨w.heap.size, 0, none⟩ pv') := by
  obtain ⟨pv, h1, h2, _⟩ := E.pb
  have oth : ∀ k, k ≠ w.heap.size → (W.setCell ⟨w.heap.size, 0, none⟩ pv').heap[k]? = W.heap[k]? := fun k hk => blk_setCell_other _ _ _ _ hk
  exact ⟨⟨pv', (h1.set 0 pv').congr (fun j hj => by rw [if_pos (by omega)]), own_other h (by omega), h3⟩, (World.cell?_of_block (w := W) (a := ⟨w.heap.size + 2, 0, none⟩) (oth (w.heap.size + 2) (by omega))).trans E.sb, E.sr.of_block (oth _ (by omega)), E.nr.of_block (oth _ (by omega)), own_other E.oo (by omega), by rw [nblk_setCell]; exact E.sz, E.bw.setCell (Nat.le_refl _) _⟩
/-- behind an append to the path -/
theorem EnvF.push (E : EnvF w n p o nx sn ov W) {pv pv' : Value} {v : Nat} (hc : W.rowIs w.heap.size 34 1 (fun _ => pv)) (ho : w'.ownsRow (w.heap.size + 4) 3 1 pv' ((zN p).length + 1) (vI (zN p) ++ [.int .i64 (v : Nat)])) (hg : W.grownBy w' pv.ownBlock) (hb : pv'.ownBlock = pv.ownBlock ∨ pv'.ownBlock = some W.heap.size) :
    EnvF w n (p ++ [v]) o nx sn ov (w'.setCell ⟨w.heap.size, 0, none⟩ pv') ∧ (∃ u, w'.cell? ⟨w.heap.size, 0, none⟩ = some u) ∧ w'.frozen? ⟨w.heap.size, 0, none⟩ = false := by
  obtain ⟨pv0, h1, h2, h3⟩ := E.pb
  have e0 : pv0 = pv := by
    have a := h1.cell (i := 0) (by omega)
    rw [hc.cell (i := 0) (by omega)] at a
    injection a with a
    exact a.symm
  subst e0
  have hz := E.sz
  have hge : ∀ q, pv0.ownBlock = some q → w.heap.size + 4 ≤ q ∧ q < W.heap.size := fun q hq => h2.lt q hq
  have oth : ∀ k, k < W.heap.size → some k ≠ pv0.ownBlock → w'.heap[k]? = W.heap[k]? := fun k hk hne => hg.block k hk hne
  have small : ∀ k, k < w.heap.size + 4 → some k ≠ pv0.ownBlock := fun k hk c => by have := (hge k c.symm).1; omega
  have oo' : w'.ownsRow (w.heap.size + 4) 3 1 ov (zN o).length (vI (zN o)) := own_block E.oo fun q hq => by
    refine oth q (E.oo.lt q hq).2 fun c => ?_
    rcases h3 with h3 | h3
    · rw [h3] at c; cases c
    · exact h3 (by rw [← c, hq])
  have E1 : EnvF w n p o nx sn ov W := E
  have hs : W.heap.size ≤ w'.heap.size := hg.size
  have bw' : Below w.heap.size w w' := E.bw.grown hg (by omega) fun k hk => by have := (hge k hk).1; omega
  have hrow : w'.rowIs w.heap.size 34 1 (fun _ => pv0) := h1.of_block (oth _ (by omega) (small _ (by omega)))
  have ne' : pv'.ownBlock = none ∨ pv'.ownBlock ≠ ov.ownBlock := by
    rcases hb with hb | hb
    · rw [hb]; exact h3
    · right
      rw [hb]
      intro c
      have := (E.oo.lt _ c.symm).2
      omega
  refine ⟨?_, ⟨_, hrow.cell (i := 0) (by omega)⟩, hrow.frozen 0⟩
  have oth2 : ∀ k, k ≠ w.heap.size → (w'.setCell ⟨w.heap.size, 0, none⟩ pv').heap[k]? = w'.heap[k]? := fun k hk => blk_setCell_other _ _ _ _ hk
  have both : ∀ k, k ≠ w.heap.size → k < w.heap.size + 4 → (w'.setCell ⟨w.heap.size, 0, none⟩ pv').heap[k]? = W.heap[k]? := fun k hk hk2 => (oth2 k hk).trans (oth k (by omega) (small k hk2))
  refine ⟨⟨pv', (hrow.set 0 pv').congr (fun j hj => by rw [if_pos (by omega)]), own_other ?_ (by omega), ne'⟩, (World.cell?_of_block (w := W) (a := ⟨w.heap.size + 2, 0, none⟩) (both (w.heap.size + 2) (by omega) (by omega))).trans E.sb, E.sr.of_block (both _ (by omega) (by omega)), E.nr.of_block (both _ (by omega) (by omega)), own_other oo' (by omega), by rw [nblk_setCell]; omega, bw'.setCell (Nat.le_refl _) _⟩
  rw [zN_snoc, vI_snoc, List.length_append, List.length_singleton]
  exact ho
/-- behind an append to the order -/
theorem EnvF.left (E : EnvF w n p o nx sn ov W) {ov' : Value} {v : Nat} (ho : w'.ownsRow (w.heap.size + 4) 3 1 ov' ((zN o).length + 1) (vI (zN o) ++ [.int .i64 (v : Nat)])) (hg : W.grownBy w' ov.ownBlock) (hb : ov'.ownBlock = ov.ownBlock ∨ ov'.ownBlock = some W.heap.size) :
    EnvF w n p (o ++ [v]) nx sn ov' w' := by
  obtain ⟨pv, h1, h2, h3⟩ := E.pb
  have hz := E.sz
  have hge : ∀ q, ov.ownBlock = some q → w.heap.size + 4 ≤ q ∧ q < W.heap.size := fun q hq => E.oo.lt q hq
  have small : ∀ k, k < w.heap.size + 4 → w'.heap[k]? = W.heap[k]? := fun k hk => hg.block k (by omega) fun c => by have := (hge k c.symm).1; omega
  have p2 : w'.ownsRow (w.heap.size + 4) 3 1 pv (zN p).length (vI (zN p)) := own_block h2 fun q hq => by
    refine hg.block q (h2.lt q hq).2 fun c => ?_
    rcases h3 with h3 | h3
    · rw [h3] at hq; cases hq
    · exact h3 (by rw [hq, c])
  have ne' : pv.ownBlock = none ∨ pv.ownBlock ≠ ov'.ownBlock := by
    rcases hb with hb | hb
    · rw [hb]; exact h3
    · right
      rw [hb]
      intro c
      have := (h2.lt _ c).2
      omega
  have hs := hg.size
  refine ⟨⟨pv, h1.of_block (small _ (by omega)), p2, ne'⟩, (World.cell?_of_block (w := W) (a := ⟨w.heap.size + 2, 0, none⟩) (small (w.heap.size + 2) (by omega))).trans E.sb, E.sr.of_block (small _ (by omega)), E.nr.of_block (small _ (by omega)), ?_, by omega, E.bw.grown hg (by omega) fun k hk => by have := (hge k hk).1; omega⟩
  rw [zN_snoc, vI_snoc, List.length_append, List.length_singleton]
  exact ho
end
set_option maxHeartbeats 4000000 in
set_option maxRecDepth 100000 in
theorem enter_any {w : World} {n : Nat} {p o : List Nat} {nx : Nat → Nat} {sn : Nat → Bool} {ov : Value} (v : Nat) (W : World) (E : EnvF w n p o nx sn ov W) (hv : v < n) (hp : p.length ≤ 5000) :
    Calls Tryz.prog 119 #[.int .i64 (v : Nat), .pointer (some ⟨w.heap.size + 2, 0, none⟩), .pointer (some ⟨w.heap.size, 0, none⟩)] W fun e W' => (∃ z, e = .returned z) ∧ EnvF w n (p ++ [v]) o nx (fun x => if x = v then true else sn x) ov W' := by
  have E1 := E.seen v
  have q0 := E.sb
  have q1 := E.sr.get hv
  have q2 : W.frozen? ⟨w.heap.size + 1, v, none⟩ = false := World.rowIs.frozen E.sr v
  obtain ⟨W1, hW1⟩ : ∃ W1, W1 = W.setCell ⟨w.heap.size + 1, v, none⟩ (.bool true) := ⟨_, rfl⟩
  rw [← hW1] at E1
  obtain ⟨pv, h1, h2, _⟩ := E1.pb
  have q3 := h1.cell (i := 0) (by omega)
  have g0 : (W1.alloc (.cells #[.int .i64 (v : Nat)] 3)).cell? ⟨W1.heap.size, 0, none⟩ = some (.int .i64 (v : Nat)) := by simp
  have hsW : W1.heap.size = W.heap.size := by rw [hW1, nblk_setCell]
  rw [hsW] at g0
  have HSW := Lib.hid hsW
  clear hsW
  have HO := Lib.hid (h2.alloc (.cells #[.int .i64 (v : Nat)] 3))
  have PUSH : Hid (∀ pv' w', w'.ownsRow (w.heap.size + 4) 3 1 pv' ((zN p).length + 1) (vI (zN p) ++ [.int .i64 (v : Nat)]) → (W1.alloc (.cells #[.int .i64 (v : Nat)] 3)).grownBy w' pv.ownBlock → (pv'.ownBlock = pv.ownBlock ∨ pv'.ownBlock = some (W1.alloc (.cells #[.int .i64 (v : Nat)] 3)).heap.size) →
    EnvF w n (p ++ [v]) o nx (fun x => if x = v then true else sn x) ov (w'.setCell ⟨w.heap.size, 0, none⟩ pv') ∧ (∃ u, w'.cell? ⟨w.heap.size, 0, none⟩ = some u) ∧ w'.frozen? ⟨w.heap.size, 0, none⟩ = false) := fun pv' w' a b c => (E1.alloc _).push (h1.alloc _) a b c
  have hsz : w.heap.size + 4 ≤ W1.heap.size := E1.sz
  have hlen : (zN p).length ≤ 100000 := by rw [zN_len]; omega
  have HW1 := Lib.hid hW1
  obtain ⟨pA, pc, hpv⟩ : ∃ A c, pv = .slice A (zN p).length c := by
    obtain ⟨A, c, e, _⟩ := ReadsV.own h2
    exact ⟨A, c, e⟩
  have HPV := Lib.hid hpv
  rw [hpv] at q3
  clear E E1 h1 h2 hW1 hpv
  rw [HW1.out] at q3
  go_enter Tryz.func119, Tryz.ntmps119
  go_wp2_with (at_builtin; rw [← HW1.out, ← HPV.out]; go_loud (refine wpList_intg rfl (.tmp 7) (.tmp 9) rfl (w.heap.size + 4) pv (zN p) (v : Int) rfl HO.out W.heap.size rfl g0 hlen (by rw [World.size_alloc]; omega) ?_); intro v' w6 ho6 hg6 hb6; obtain ⟨gv, cv, hv'⟩ := own_form ho6; subst hv'; obtain ⟨E9, ⟨cu, ct⟩, cf⟩ := PUSH.out _ w6 ho6 hg6 hb6; have E9 := Lib.hid E9; clear ho6 hg6 hb6 PUSH)
  go_end0
  exact ⟨⟨_, rfl⟩, E9.out⟩
end Go.Proofs.YtlbcdnobpnllkaaGreat.Dg

namespace Go.Proofs.YtlbcdnobpnllkaaGreat.Dg
open Go.RowKit Go.Deep

theorem run_make_ints (n : Nat) (hn : n ≤ 100000) (w : World) : (Instr.makeSlice 34 (.int .i64 (n : Int)) (.int .i64 (n : Int))).run Tryz.prog w = .ok (.slice (some ⟨w.heap.size, 0, none⟩) n n) (w.alloc (.cells (madeCells #[.int .i64 0] n) 3)) :=
  run_make_row' 34 3 (.int .i64 0) 8 Tryz.underlying34 infoI rfl .i64 .i64 n (by omega) (by omega) w
theorem own_cut {W : World} {B g m c : Nat} {l : List Int} {x : Int} (h : W.ownsRow B 3 1 (.slice (some ⟨g, 0, none⟩) (m + 1) c) (m + 1) (vI (l ++ [x]))) (hl : l.length = m) : W.ownsRow B 3 1 (.slice (some ⟨g, 0, none⟩) m c) m (vI l) := by
  rcases h.2 with ⟨h', _⟩ | ⟨g', cap, cur, h1, h2, h3, h4, h5, h6, h7⟩
  · cases h'
  · injection h1 with a1 a2 a3
    injection a1 with a1
    injection a1 with a1
    subst a1 a3
    refine ⟨by rw [vI_len]; omega, .inr ⟨g, c, cur, rfl, h2, h3, by omega, h5, h6, ?_⟩⟩
    have h8 := congrArg (List.take m) h7
    rw [List.take_take, vI_snoc, List.take_append_of_le_length (by rw [vI_len]; omega), List.take_of_length_le (l := vI l) (by rw [vI_len]; omega)] at h8
    rw [← h8]
    congr 1
    omega
theorem own_cap {W : World} {B g n c : Nat} {xs : List Value} (h : W.ownsRow B 3 1 (.slice (some ⟨g, 0, none⟩) n c) n xs) : n ≤ c := by
  rcases h.2 with ⟨h', _⟩ | ⟨g', cap, cur, h1, h2, h3, h4, _⟩
  · cases h'
  · injection h1 with a1 a2 a3
    omega
/-- the path that is not empty, in memory -/
theorem EnvF.path {w W : World} {n : Nat} {p o : List Nat} {nx : Nat → Nat} {sn : Nat → Bool} {ov : Value} {v : Nat} (E : EnvF w n (p ++ [v]) o nx sn ov W) :
    ∃ b c, W.cell? ⟨w.heap.size, 0, none⟩ = some (.slice (some ⟨b, 0, none⟩) (p.length + 1) c) ∧ W.cell? ⟨b, p.length, none⟩ = some (.int .i64 (v : Nat)) ∧ p.length + 1 ≤ c ∧ W.frozen? ⟨w.heap.size, 0, none⟩ = false ∧
      EnvF w n p o nx sn ov (W.setCell ⟨w.heap.size, 0, none⟩ (.slice (some ⟨b, 0, none⟩) p.length c)) := by
  obtain ⟨pv, h1, h2, h3⟩ := E.pb
  have hl : (zN (p ++ [v])).length = p.length + 1 := by rw [zN_len]; simp
  rw [hl, zN_snoc] at h2
  obtain ⟨b, c, rfl⟩ := own_form h2
  refine ⟨b, c, h1.cell (by omega), ?_, own_cap h2, h1.frozen 0, ?_⟩
  · have h4 := h2.cellAt p.length (by omega)
    rw [h4, vI_snoc, List.getElem?_append_right (by rw [vI_len, zN_len]; omega), vI_len, zN_len]
    simp
  · refine E.box (p' := p) ?_ h3
    rw [zN_len]
    exact own_cut h2 (zN_len p)
theorem EnvF.none {w W : World} {n : Nat} {o : List Nat} {nx : Nat → Nat} {sn : Nat → Bool} {ov : Value} (E : EnvF w n [] o nx sn ov W) : ∃ A c, W.cell? ⟨w.heap.size, 0, none⟩ = some (.slice A 0 c) := by
  obtain ⟨pv, h1, h2, h3⟩ := E.pb
  obtain ⟨A, c, e, _⟩ := ReadsV.own h2
  have h := h1.cell (i := 0) (by omega)
  rw [e] at h
  exact ⟨A, c, h⟩
theorem dfs_bound {R : Nat → List Int} {n : Nat} {p o : List Nat} {nx : Nat → Nat} {sn : Nat → Bool} (I : DfsI R n p o nx sn) : p.length + o.length ≤ n := by
  have h := nodup_le I.nd fun v hv => I.lt v (List.mem_append.1 hv)
  rw [List.length_append] at h
  exact h
theorem upd_true {sn : Nat → Bool} {w : Nat} {k : Nat} (h : ∀ v, v < k → sn v = true) : ∀ v, v < k → (fun x => if x = w then true else sn x) v = true := fun v hv => by
  by_cases c : v = w
  · simp [c]
  · simp [c, h v hv]
set_option maxHeartbeats 16000000 in
set_option maxRecDepth 100000 in
theorem finished_any (gA : Option Addr) (n gc : Nat) (RA : Nat → Option Addr) (RL : Nat → List Int) (RK : Nat → Nat) (w : World) (GR : GraphR w gA n RA RL RK) :
    Calls Tryz.prog 90 #[.slice gA n gc] w fun e w' => ∃ A c o, e = .returned (.slice A (zN o).length c) ∧ ReadsV w' A (zN o) ∧ (∀ b off, A = some ⟨b, off, none⟩ → w.heap.size ≤ b) ∧ FinO RL n o ∧ Below w.heap.size w w' := by
  have hn := GR.hn
  have RW : Hid (∀ W, Below w.heap.size w W → GraphR W gA n RA RL RK) := fun W hW => GR.below hW
  have hmkb := run_make_bools n (by omega)
  have hmki := run_make_ints n (by omega)
  have CI : Hid (∀ x W, Calls Tryz.prog 85 #[.slice gA n gc, .int .i64 x] W fun e w' => e = .returned (.bool (inR x n)) ∧ W = w') := fun x W => isv_any gA n gc x W
  have E0 : Hid (EnvF w n [] [] (fun _ => 0) (fun _ => false) (.slice none 0 0) ((((w.alloc (.cells #[.slice none 0 0] 34)).alloc (.cells (madeCells #[.bool false] n) 4)).alloc (.cells #[.slice (some ⟨w.heap.size + 1, 0, none⟩) n n] 54)).alloc (.cells (madeCells #[.int .i64 0] n) 3))) := by
    have s1 : (w.alloc (.cells #[.slice none 0 0] 34)).heap.size = w.heap.size + 1 := World.size_alloc _ _
    have s2 : ((w.alloc (.cells #[.slice none 0 0] 34)).alloc (.cells (madeCells #[.bool false] n) 4)).heap.size = w.heap.size + 2 := by rw [World.size_alloc, s1]
    have s3 : (((w.alloc (.cells #[.slice none 0 0] 34)).alloc (.cells (madeCells #[.bool false] n) 4)).alloc (.cells #[.slice (some ⟨w.heap.size + 1, 0, none⟩) n n] 54)).heap.size = w.heap.size + 3 := by rw [World.size_alloc, s2]
    refine ⟨⟨.slice none 0 0, ?_, World.ownsRow_nil _ _ _ _, Or.inl rfl⟩, ?_, ?_, ?_, World.ownsRow_nil _ _ _ _, ?_, ?_⟩
    · have h : (w.alloc (.cells #[.slice none 0 0] 34)).rowIs w.heap.size 34 1 (fun _ => .slice none 0 0) := World.rowIs_alloc w #[.slice none 0 0] _ _ (fun i hi => by
        have e : i = 0 := by simp at hi; omega
        rw [e]; rfl)
      exact ((h.alloc _).alloc _).alloc _
    · refine cellA ?_ _
      rw [← s2]
      exact cell_new1 _ _ _
    · have h := RowB.made (w.alloc (.cells #[.slice none 0 0] 34)) n
      rw [s1] at h
      exact World.rowIs.alloc (World.rowIs.alloc h _) _
    · have h := World.rowIs_made (((w.alloc (.cells #[.slice none 0 0] 34)).alloc (.cells (madeCells #[.bool false] n) 4)).alloc (.cells #[.slice (some ⟨w.heap.size + 1, 0, none⟩) n n] 54)) (.int .i64 0) n 3
      rw [s3] at h
      exact h
    · rw [World.size_alloc, s3]; exact Nat.le_refl _
    · exact ((((Below.refl _ _).alloc (Nat.le_refl _) _).alloc (by rw [s1]; omega) _).alloc (by rw [s2]; omega) _).alloc (by rw [s3]; omega) _
  have D0 := Lib.hid (dfs_start RL n)
  have T0 : Hid (∀ v, v < 0 → (fun _ : Nat => false) v = true) := fun v hv => absurd hv (by omega)
  clear GR
  go_enter Tryz.func90, Tryz.ntmps90
  go_wp2_with fail
  go_loopw [20, 3] (fun q u wr => ∃ (k : Nat) (o : List Nat) (nx : Nat → Nat) (sn : Nat → Bool), k ≤ n ∧ q = .int .i64 k ∧ Hid (EnvF w n [] o nx sn u wr) ∧ Hid (DfsI RL n [] o nx sn) ∧ Hid (∀ v, v < k → sn v = true)) (fun q _ _ => n - (intOf q).toNat)
  case atStart => exact ⟨0, [], _, _, by omega, rfl, E0, D0, T0⟩
  case round =>
    clear E0 D0 T0
    obtain ⟨wo, rfl⟩ : ∃ wo, wo = wr := ⟨_, rfl⟩
    obtain ⟨k, o, nx, sn, hk, rfl, E, D, TT⟩ := hrel
    by_cases hlt : k < n
    · have q0 := E.out.sb
      have q1 := E.out.sr.get hlt
      cases hs : sn k
      · rw [hs] at q1
        have CE := Lib.hid (enter_any k wo E.out hlt (by simp))
        have D1 : Hid (DfsI RL n [k] o nx (fun x => if x = k then true else sn x)) := dfs_enter D.out hlt hs (fun h => absurd rfl h)
        have T1 : Hid (∀ v, v < k + 1 → (fun x => if x = k then true else sn x) v = true) := fun v hv => by
          by_cases c : v = k
          · simp [c]
          · simp [c, TT.out v (by omega)]
        clear E D TT hs
        go_wp2_with fail
        try go_step3
        try go_wp2_with fail
        refine CE.out.mono ?_
        rintro e w1 ⟨⟨z, rfl⟩, E1⟩
        have E1 := Lib.hid E1
        clear CE q0 q1
        go_wp2_with fail
        try go_step3
        try go_wp2_with fail
        go_loopg [3] (2 * n - 1 - 2 * o.length) (fun gg u wr => ∃ (p o : List Nat) (nx : Nat → Nat) (sn : Nat → Bool), gg = 2 * n - p.length - 2 * o.length ∧ Hid (EnvF w n p o nx sn u wr) ∧ Hid (DfsI RL n p o nx sn) ∧ Hid (∀ v, v < k + 1 → sn v = true))
        case atStart => exact ⟨[k], o, nx, _, by simp, E1, D1, T1⟩
        case round =>
          clear E1 D1 T1
          obtain ⟨wp, rfl⟩ : ∃ wp, wp = wr := ⟨_, rfl⟩
          obtain ⟨p, o, nx, sn, hgg, E, D, TT⟩ := hrel
          have hbd := dfs_bound D.out
          rcases List.eq_nil_or_concat p with rfl | ⟨p, v, rfl⟩
          · obtain ⟨A, c, q0⟩ := E.out.none
            clear hgg hbd
            go_wp2
            rw [Exit.noGoto_normal]
            go_wp2
            go_roundw
            case rel => exact ⟨k + 1, o, nx, sn, by omega, by go_num, E, D, TT⟩
            case measure => simp [intOf]; omega
          · rw [List.concat_eq_append] at *
            obtain ⟨b, c, q0, q1, hc, q2, EP⟩ := E.out.path
            have EP := Lib.hid EP
            have hvn : v < n := D.out.lt v (Or.inl (by simp))
            rw [List.length_append, List.length_singleton] at hgg hbd
            obtain ⟨mp, hmp⟩ : ∃ mp, mp = p.length := ⟨_, rfl⟩
            obtain ⟨lp, hlp⟩ : ∃ lp, lp = p.length + 1 := ⟨_, rfl⟩
            rw [← hlp] at q0 hc hgg hbd
            rw [← hmp] at q1
            have hw1 : IntKind.i64.wrap ((lp : Int) - 1) = (mp : Int) := by rw [IntKind.wrap_i64]; omega
            have hml : mp < lp := by omega
            have hl0 : 0 < lp := by omega
            have HG := Lib.hid hgg
            have HB := Lib.hid hbd
            have HC := Lib.hid hc
            have HMP := Lib.hid hmp
            have HLP := Lib.hid hlp
            clear hgg hbd hc hmp hlp
            go_wp2_with fail
            go_loopg [10] ((RL v).length - nx v) (fun gi q wr => ∃ nx : Nat → Nat, gi = (RL v).length - nx v ∧ q = q ∧ Hid (EnvF w n (p ++ [v]) o nx sn u3 wr) ∧ Hid (DfsI RL n (p ++ [v]) o nx sn))
            case atStart => exact ⟨nx, rfl, rfl, E, D⟩
            case round =>
              clear E D q0 q1 q2 EP
              obtain ⟨wq, rfl⟩ : ∃ wq, wq = wr := ⟨_, rfl⟩
              obtain ⟨nx, hgi, -, E, D⟩ := hrel
              have q0 := E.out.nr.cell hvn
              obtain ⟨m, hm⟩ : ∃ m, nx v = m := ⟨_, rfl⟩
              rw [hm] at q0 hgi
              have HM := Lib.hid hm
              have HGI := Lib.hid hgi
              clear hm hgi
              obtain ⟨bg, og, eg, _, q1⟩ := (RW.out _ E.out.bw).row v hvn
              subst eg
              by_cases hlm : m < (RL v).length
              · obtain ⟨bw, ow, ew, _, q2⟩ := (RW.out _ E.out.bw).rd v hvn m hlm
                rw [ew] at q1
                have hfz := E.out.nr.frozen v
                have E2 : EnvF w n (p ++ [v]) o (fun x => if x = v then m + 1 else nx x) sn u3 (wq.setCell ⟨w.heap.size + 1 + 1 + 1, v, none⟩ (.int .i64 ((m : Int) + 1))).drew.drew := (E.out.next v (m + 1)).drew.drew
                have hwm : IntKind.i64.wrap ((m : Int) + 1) = (m : Int) + 1 := by have := (RW.out _ E.out.bw).ll v hvn; rw [IntKind.wrap_i64]; omega
                have CIx := Lib.hid (CI.out (at0 (RL v) m))
                have DR := Lib.hid (fun h => dfs_read D.out (by rw [HM.out]; exact hlm) h)
                have DG := Lib.hid (fun (x : Nat) hx e hs => dfs_go (w := x) D.out (by rw [HM.out]; exact hlm) hx e hs)
                rw [HM.out] at DR DG
                have DS := Lib.hid D.out.seen
                have hbd2 := dfs_bound D.out
                rw [List.length_append, List.length_singleton] at hbd2
                have HB2 := Lib.hid hbd2
                have HLM := Lib.hid hlm
                have E2 := Lib.hid E2
                clear E D hbd2
                generalize at0 (RL v) m = x at *
                go_wp2
                go_region
                go_wp2
                go_region
                obtain ⟨W3, hW3⟩ : ∃ W3, W3 = (wq.setCell ⟨w.heap.size + 1 + 1 + 1, v, none⟩ (.int .i64 ((m : Int) + 1))).drew.drew := ⟨_, rfl⟩
                rw [← hW3] at E2
                have HW3 := Lib.hid hW3
                clear hW3
                go_wp2_with fail
                rw [← HW3.out]
                refine (CIx.out _).mono ?_
                rintro e4 w4 ⟨rfl, rfl⟩
                clear CIx q0 q1 q2 hfz hwm HW3
                by_cases hx : 0 ≤ x ∧ x < (n : Int)
                · rw [show inR x (n : Int) = true from inR_iff.2 hx]
                  obtain ⟨e, rfl⟩ : ∃ e : Nat, x = e := ⟨x.toNat, by omega⟩
                  have he : e < n := by omega
                  clear hx
                  have q5 := E2.out.sb
                  have q6 := E2.out.sr.get he
                  cases hs : sn e
                  · have D3 := Lib.hid (DG.out e he rfl hs)
                    have T3 := Lib.hid (upd_true (w := e) TT.out)
                    have CE := Lib.hid (enter_any e _ E2.out he (by have h2 := HB2.out; rw [List.length_append, List.length_singleton]; omega))
                    rw [hs] at q6
                    clear DR DG DS hs E2
                    go_wp2_with fail
                    refine CE.out.mono ?_
                    rintro e5 w5 ⟨⟨z5, rfl⟩, E5⟩
                    have E5 := Lib.hid E5
                    clear CE q5 q6
                    go_wp2
                    go_roundg (2 * n - (p.length + 2) - 2 * o.length)
                    case rel => exact ⟨p ++ [v] ++ [e], o, _, _, by simp, E5, D3, T3⟩
                    case measure =>
                      have h1 := HG.out
                      have h2 := HB2.out
                      have h3 := HLP.out
                      have h5 := HB.out
                      omega
                  · have D3 := Lib.hid (DR.out fun s hs2 hs3 => (DS.out s hs2).1 (by
                      have : s = e := by omega
                      rw [this]; exact hs))
                    rw [hs] at q6
                    clear DR DG DS hs
                    go_wp2
                    go_roundg ((RL v).length - (m + 1))
                    case rel => exact ⟨_, by simp, by first | rfl | trivial, E2, D3⟩
                    case measure => have h1 := HGI.out; have h2 := HLM.out; omega
                · have hb : inR x (n : Int) = false := by
                    cases h : inR x (n : Int)
                    · rfl
                    · exact absurd (inR_iff.1 h) hx
                  rw [hb]
                  have D3 := Lib.hid (DR.out fun s hs2 hs3 => absurd (by omega) hx)
                  clear DR DG DS hb hx
                  go_wp2
                  go_roundg ((RL v).length - (m + 1))
                  case rel => exact ⟨_, by simp, by first | rfl | trivial, E2, D3⟩
                  case measure => have h1 := HGI.out; have h2 := HLM.out; omega
              · have DP : Hid (DfsI RL n p (o ++ [v]) nx sn) := dfs_pop D.out (by rw [HM.out]; exact hlm)
                obtain ⟨b, c, p0, p1, p2, p3, p4⟩ := E.out.drew.path
                rw [← HLP.out] at p0 p2
                rw [← HMP.out] at p1 p4
                have EP := Lib.hid p4
                have hsz := E.out.sz
                have HSZ : Hid (wq.drew.heap.size = wq.heap.size) := rfl
                have hmc : mp ≤ c := by omega
                have hbd2 := dfs_bound DP.out
                rw [List.length_append, List.length_singleton] at hbd2
                have HB2 := Lib.hid hbd2
                have hlo : (zN o).length ≤ 100000 := by rw [zN_len]; omega
                clear E D p4 hbd2
                go_wp2
                go_region
                generalize wq.drew = wd at *
                obtain ⟨W1, hW1⟩ : ∃ W1, W1 = wd.setCell ⟨w.heap.size, 0, none⟩ (.slice (some ⟨b, 0, none⟩) mp c) := ⟨_, rfl⟩
                rw [← hW1] at EP
                have hsW : W1.heap.size = wd.heap.size := by rw [hW1, nblk_setCell]
                have g0 : (W1.alloc (.cells #[.int .i64 (v : Nat)] 3)).cell? ⟨wd.heap.size, 0, none⟩ = some (.int .i64 (v : Nat)) := by rw [← hsW]; exact cell_new1 _ _ _
                have HO : Hid ((W1.alloc (.cells #[.int .i64 (v : Nat)] 3)).ownsRow (w.heap.size + 4) 3 1 u3 (zN o).length (vI (zN o))) := EP.out.oo.alloc _
                have hz4 : w.heap.size + 4 ≤ (W1.alloc (.cells #[.int .i64 (v : Nat)] 3)).heap.size := by rw [World.size_alloc]; have := EP.out.sz; omega
                have LEFT : Hid (∀ ov' w', w'.ownsRow (w.heap.size + 4) 3 1 ov' ((zN o).length + 1) (vI (zN o) ++ [.int .i64 (v : Nat)]) → (W1.alloc (.cells #[.int .i64 (v : Nat)] 3)).grownBy w' u3.ownBlock → (ov'.ownBlock = u3.ownBlock ∨ ov'.ownBlock = some (W1.alloc (.cells #[.int .i64 (v : Nat)] 3)).heap.size) → EnvF w n p (o ++ [v]) nx sn ov' w') := fun ov' w' h1 h2 h3 => (EP.out.alloc _).left h1 h2 h3
                have HW1 := Lib.hid hW1
                clear hW1 hsW EP
                go_wp2_with (at_builtin; rw [← HW1.out]; go_loud (refine wpList_intg rfl (.tmp 83) (.tmp 85) rfl (w.heap.size + 4) u3 (zN o) (v : Int) rfl HO.out wd.heap.size rfl g0 hlo hz4 ?_); intro ov' w6 ho6 hg6 hb6; have E9 := Lib.hid (LEFT.out _ w6 ho6 hg6 hb6); clear ho6 hg6 hb6 LEFT)
                go_roundg (2 * n - p.length - 2 * (o.length + 1))
                case rel => exact ⟨p, o ++ [v], nx, sn, by simp, E9, DP, TT⟩
                case measure =>
                  have h1 := HG.out
                  have h2 := HB2.out
                  have h3 := HLP.out
                  have h4 := HMP.out
                  have h5 := HB.out
                  omega
      · rw [hs] at q1
        have T1 : Hid (∀ v, v < k + 1 → sn v = true) := fun v hv => by
          by_cases c : v = k
          · rw [c]; exact hs
          · exact TT.out v (by omega)
        clear hs TT
        go_wp2_with fail
        go_step3
        go_wp2_with fail
        try rw [Exit.noGoto_exit]
        go_wp2
        go_roundw
        case rel => exact ⟨k + 1, o, nx, sn, by omega, by go_num, E, D, T1⟩
        case measure => simp [intOf]; omega
    · obtain rfl : k = n := by omega
      have F := dfs_end D.out TT.out
      obtain ⟨A, c, e1, RO⟩ := ReadsV.own E.out.oo
      have F := Lib.hid F
      have RO := Lib.hid RO
      have BW := Lib.hid E.out.bw
      subst e1
      have HA : Hid (∀ b off, A = some ⟨b, off, none⟩ → w.heap.size ≤ b) := fun b off e => by
        have := (E.out.oo.lt b (by rw [e]; rfl)).1
        omega
      clear E D TT
      go_wp2
      go_ret
      exact ⟨_, _, _, rfl, RO.out, HA.out, F.out, BW.out⟩
end Go.Proofs.YtlbcdnobpnllkaaGreat.Dg

namespace Go.Proofs.YtlbcdnobpnllkaaGreat.Dg
open Go.RowKit

/-- what lies in the blocks of S lies as it lay -/
structure KeepOn (S : Nat → Prop) (A B : World) : Prop where
  os : B.os = A.os
  tape : B.tape = A.tape
  output : B.output = A.output
  size : A.heap.size ≤ B.heap.size
  block : ∀ k, k < A.heap.size → S k → B.heap[k]? = A.heap[k]?
theorem KeepOn.refl (S : Nat → Prop) (A : World) : KeepOn S A A := ⟨rfl, rfl, rfl, Nat.le_refl _, fun _ _ _ => rfl⟩
theorem KeepOn.trans {S : Nat → Prop} {A B C : World} (h : KeepOn S A B) (k : KeepOn S B C) : KeepOn S A C :=
  ⟨k.os.trans h.os, k.tape.trans h.tape, k.output.trans h.output, Nat.le_trans h.size k.size, fun i hi hs => (k.block i (Nat.lt_of_lt_of_le hi h.size) hs).trans (h.block i hi hs)⟩
theorem KeepOn.mono {S T : Nat → Prop} {A B : World} (h : KeepOn S A B) (ht : ∀ k, k < A.heap.size → T k → S k) : KeepOn T A B := ⟨h.os, h.tape, h.output, h.size, fun k hk hs => h.block k hk (ht k hk hs)⟩
theorem KeepOn.below {S : Nat → Prop} {A B : World} {n : Nat} (h : KeepOn S A B) (hn : n ≤ A.heap.size) (hs : ∀ k, k < n → S k) : Below n A B := ⟨h.os, h.tape, h.output, h.size, fun k hk => h.block k (by omega) (hs k hk)⟩
theorem KeepOn.of_below {A B : World} (S : Nat → Prop) (h : Below A.heap.size A B) : KeepOn S A B := ⟨h.os, h.tape, h.output, h.size, fun k hk _ => h.block k hk⟩
theorem KeepOn.of_belowN {A B : World} {n : Nat} {S : Nat → Prop} (h : Below n A B) (hs : ∀ k, S k → k < n) : KeepOn S A B := ⟨h.os, h.tape, h.output, h.size, fun k _ hk => h.block k (hs k hk)⟩
theorem KeepOn.put {S : Nat → Prop} (A : World) (b : Nat) (o : Obj) (hb : ¬ S b) : KeepOn S A (A.putObj b o) :=
  ⟨rfl, rfl, rfl, by simp, fun k _ hs => World.putObj_heap_other (fun e => hb (by rw [← e]; exact hs))⟩
theorem KeepOn.set {S : Nat → Prop} (A : World) (a : Addr) (v : Value) (hb : ¬ S a.block) : KeepOn S A (A.setCell a v) :=
  ⟨rfl, rfl, rfl, by simp, fun k _ hs => Below.heap_setCell A a v k (fun e => hb (by rw [← e]; exact hs))⟩
theorem KeepOn.alloc {S : Nat → Prop} (A : World) (o : Obj) : KeepOn S A (A.alloc o) := KeepOn.of_below S ((Below.refl _ _).alloc (Nat.le_refl _) o)
theorem KeepOn.drew {S : Nat → Prop} (A : World) : KeepOn S A A.drew := KeepOn.of_below S ((Below.refl _ _).drew)
theorem KeepOn.cell {S : Nat → Prop} {A B : World} (h : KeepOn S A B) {b o : Nat} {v : Value} (hc : A.cell? ⟨b, o, none⟩ = some v) (hs : S b) : B.cell? ⟨b, o, none⟩ = some v :=
  (World.cell?_of_block (a := ⟨b, o, none⟩) (h.block b (World.block_lt_of_cell? A ⟨b, o, none⟩ hc) hs)).trans hc
theorem KeepOn.own {S : Nat → Prop} {A B : World} (h : KeepOn S A B) {base : Nat} {e : TypeId} {size n : Nat} {v : Value} {xs : List Value} (ho : A.ownsRow base e size v n xs) (hs : ∀ g, v.ownBlock = some g → S g) : B.ownsRow base e size v n xs := by
  refine ⟨ho.1, ?_⟩
  rcases ho.2 with h0 | ⟨g, cap, cur, h1, h2, h3, h4⟩
  · exact .inl h0
  · refine .inr ⟨g, cap, cur, h1, h2, ?_, h4⟩
    have hg : g < A.heap.size := (ho.lt g (by rw [h1]; rfl)).2
    rw [h.block g hg (hs g (by rw [h1]; rfl))]
    exact h3
theorem yield_any {m : Nat} (m' : Nat) {P : Program} {l : Nat} {args : Array Value} {W : World} {R : Ending → World → Prop} (h : YieldAt Fence.wide m P l args W R) : YieldAt Fence.wide m' P l args W R := by
  obtain ⟨fn, tmps, assign, body, hy, hF, hr⟩ := h
  exact ⟨fn, tmps, assign, body, hy, hF, fun c cs _ => hr c cs (by simp [Fence.room, Fence.inRound, Fence.wide])⟩

variable {α : Type}
/-- an iterator over T; it owns the blocks from lo to hi, and reads those of Pv -/
def SeqScr (n : Nat) (P : Program) (g : Nat) (lb : Array Value) (encs : α → Array Value) (Sees : Nat → α → World → Prop) (Pv : Nat → Prop) (T : List α) (lo : Nat) (w : World) : Prop :=
  ∀ (l : Nat) (J : Nat → List α → World → Prop) (Jx : List α → World → Prop) (W : World), W.heap.size = lo → Below w.heap.size w W →
    (∀ hi s A B, lo ≤ hi → J hi s A → KeepOn (fun k => k < lo ∨ hi ≤ k) A B → J hi s B) →
    (∀ hi W1, lo ≤ hi → hi ≤ W1.heap.size → KeepOn (fun k => k < lo) W W1 → J hi [] W1) →
    (∀ hi pre x W1, lo ≤ hi → hi ≤ W1.heap.size → (pre ++ [x]) <+: T → J hi pre W1 → Sees hi x W1 → YieldAt Fence.wide (n - 1) P l (encs x) W1 fun e W' =>
      (e = .returned (.bool true) ∧ J hi (pre ++ [x]) W' ∧ KeepOn (fun k => Pv k ∨ (lo ≤ k ∧ k < hi)) W1 W') ∨ (e = .returned (.bool false) ∧ Jx (pre ++ [x]) W')) →
    CallsIn Fence.wide n P g (#[.func (.yield l) #[] #[]] ++ lb) W fun e W' => (∃ v, e = .returned v) ∧ ((∃ hi, lo ≤ hi ∧ hi ≤ W'.heap.size ∧ J hi T W') ∨ (∃ pre, pre <+: T ∧ Jx pre W'))

/-- how a round may be left -/
def scrPost (b : Nat) (Pv : Nat → Prop) (hi : Nat) (I : List α → World → Prop) (Ix : Code → List α → World → Prop) (xs : List α) (W : World) : Exit → Act → World → Prop
  | .normal, _, W' => KeepOn (fun k => Pv k ∨ (b ≤ k ∧ k < hi)) W W' ∧ I xs W'
  | .ret, _, W' => KeepOn (fun k => Pv k ∨ (b ≤ k ∧ k < hi)) W W' ∧ Ix .ret xs W'
  | .exit id, _, W' => KeepOn (fun k => Pv k ∨ (b ≤ k ∧ k < hi)) W W' ∧ Ix (.exit id) xs W'
  | .goto t, _, W' => KeepOn (fun k => Pv k ∨ (b ≤ k ∧ k < hi)) W W' ∧ Ix (.goto t) xs W'
  | .panic _, _, _ => False
  | .outgrown, _, _ => False

theorem rangeFunc_scr {n : Nat} {P : Program} {g : Operand} {ps : Array Tmp} {assign body : Code} {Q : Exit → Act → World → Prop} {a : Act} {w : World}
    {gf : Nat} {lb : Array Value} (hg : a.eval g = .func (.func gf) #[] lb) (eg : ∀ args w, (callFunc gf args).run P w = .ok (.enter gf args) w)
    {encs : α → Array Value} {Sees : Nat → α → World → Prop} {Pv : Nat → Prop} {T : List α}
    (hseq : SeqScr (n - 1) P gf lb encs Sees Pv T (w.heap.size + 2) w) (hPv : ∀ k, Pv k → k < w.heap.size) (hps : ∀ x, (encs x).size = ps.size)
    (hSees : ∀ hi x A B, Sees hi x A → KeepOn (fun k => w.heap.size + 2 ≤ k ∧ k < hi) A B → Sees hi x B)
    (I : Nat → List α → World → Prop) (Ix : Code → List α → World → Prop)
    (hI : ∀ hi s A B, w.heap.size + 2 ≤ hi → I hi s A → KeepOn (fun k => k < w.heap.size ∨ hi ≤ k) A B → I hi s B)
    (hIx : ∀ c s A B, Ix c s A → KeepOn (fun k => k < w.heap.size ∨ w.heap.size + 2 ≤ k) A B → Ix c s B)
    (h0 : ∀ hi W1, w.heap.size + 2 ≤ hi → hi ≤ W1.heap.size → Below w.heap.size w W1 → I hi [] W1) (a₁ : α → Act)
    (hassign : ∀ (l : Nat) (x : α) (W : World) (K : Act → World → Prop), K (a₁ x) W →
      assign.wpIn (Fence.wide.inRound l) (n - 1 - 1) P (Exit.then K (fun _ _ _ => False)) { tmps := (ps.zip (encs x)).foldl (fun t (p, v) => t.setIfInBounds p v) a.tmps, defers := [] } W)
    (hbody : ∀ (l hi : Nat) (pre : List α) (x : α) (W : World), w.heap.size + 2 ≤ hi → hi ≤ W.heap.size → (pre ++ [x]) <+: T → I hi pre W → Sees hi x W → body.wpIn (Fence.wide.inRound l) (n - 1 - 1) P (scrPost w.heap.size Pv hi (I hi) Ix (pre ++ [x]) W) (a₁ x) W)
    (hdone : ∀ (D hi : Nat) (W : World), w.heap.size ≤ D → w.heap.size + 2 ≤ hi → hi ≤ W.heap.size → I hi T W → W.heap[D]? = some (.deferred (some [])) → Q .normal { a with defers := { target := .collected D, args := #[] } :: a.defers } W)
    (hstop : ∀ (D : Nat) (c : Code) (pre : List α) (W : World), w.heap.size ≤ D → pre <+: T → Ix c pre W → W.heap[D]? = some (.deferred (some [])) → c.wpIn Fence.wide n P Q { a with defers := { target := .collected D, args := #[] } :: a.defers } W) :
    (Code.rangeFunc g ps assign body).wpIn Fence.wide n P Q a w := by
  obtain ⟨b, hb⟩ : ∃ b, b = w.heap.size := ⟨_, rfl⟩
  rw [← hb] at hseq hPv hSees hI hIx h0 hbody hdone hstop
  refine wpIn_rangeFunc fun fn hfn => ?_
  obtain ⟨rc, hrc⟩ : ∃ rc : LoopState → Option Code → Loop, rc = fun st pe => { state := st, pending := pe, fn, tmps := a.tmps, params := ps, assign, body, defers := b } := ⟨_, rfl⟩
  obtain ⟨V, hV⟩ : ∃ V, (w.alloc (.deferred (some []))).alloc (.loop (rc .ready none)) = V := ⟨_, rfl⟩
  have v1 : V.heap[b + 1]? = some (.loop (rc .ready none)) := by
    have := World.alloc_heap_new (w.alloc (.deferred (some []))) (.loop (rc .ready none))
    rw [← hV]
    rwa [World.size_alloc, ← hb] at this
  have v0 : V.heap[b]? = some (.deferred (some [])) := by
    rw [← hV, hb]
    exact (Below.heap_alloc _ _ _ (by simp)).trans (World.alloc_heap_new w _)
  have vb : Below b w V := by
    rw [← hV]
    exact ((Below.refl _ w).alloc (by omega) _).alloc (by simp; omega) _
  have vs : V.heap.size = b + 2 := by rw [← hV, World.size_alloc, World.size_alloc, hb]
  refine ⟨b + 1, [{ target := .collected b, args := #[] }], V, { target := .fn (.func gf) lb, args := #[.func (.yield (b + 1)) #[] #[]] }, V, gf,
    #[.func (.yield (b + 1)) #[] #[]] ++ lb, V, ?_, ?_, fun _ _ => trivial, ?_, ?_, ?_⟩
  · rw [← hV, hrc, hb]
    exact run_enterLoop_outer _ _ _ _ _
  · simp only [resolve, hg]
    simp [go_sem]
  · simp [invoke, go_sem, eg]
  · intro h
    simp [Fence.wide] at h
  refine (hseq (b + 1) (fun hi pre W => I hi pre W ∧ W.heap[b + 1]? = some (.loop (rc .ready none)) ∧ W.heap[b]? = some (.deferred (some [])))
    (fun pre W => ∃ c, Ix c pre W ∧ W.heap[b + 1]? = some (.loop (rc .done (some c))) ∧ W.heap[b]? = some (.deferred (some []))) V vs (by rw [← hb]; exact vb) ?_ ?_ ?_).mono ?_
  · rintro hi s A B hlo ⟨h1, h2, h3⟩ k
    exact ⟨hI hi s A B hlo h1 (k.mono fun i _ hi' => by omega), (k.block _ (Array.getElem?_eq_some_iff.1 h2).1 (.inl (by omega))).trans h2, (k.block _ (Array.getElem?_eq_some_iff.1 h3).1 (.inl (by omega))).trans h3⟩
  · intro hi W1 h1 h2 k
    exact ⟨h0 hi W1 h1 h2 (vb.trans (k.below (by omega) fun i hi' => by omega)), (k.block _ (by omega) (by omega)).trans v1, (k.block _ (by omega) (by omega)).trans v0⟩
  · rintro hi pre x W hlo hhi hpre ⟨hi1, hl, hk⟩ hsee
    have hlt : b + 1 < W.heap.size := (Array.getElem?_eq_some_iff.1 hl).1
    have hy := run_yield (P := P) (args := encs x) hl (by rw [hrc]; exact hps x)
    rw [hrc] at hy
    refine ⟨fn, _, assign, body, hy, roundIn_of_wpIn hfn (hassign _ x W _ ⟨_, run_beginRound hl (by rw [hrc]), ?_⟩)⟩
    obtain ⟨W2, hW2⟩ : ∃ W2, W2 = W.putObj (b + 1) (.loop { rc .ready none with state := .busy }) := ⟨_, rfl⟩
    have l2 : W2.heap[b + 1]? = some (.loop { rc .ready none with state := .busy }) := by rw [hW2]; exact World.putObj_heap_same hlt
    have k2 : W2.heap[b]? = some (.deferred (some [])) := by rw [hW2]; exact (World.putObj_heap_other (by omega)).trans hk
    have s2 : W2.heap.size = W.heap.size := by rw [hW2]; simp
    have i2 : I hi pre W2 := hI hi pre W W2 hlo hi1 (by rw [hW2]; exact KeepOn.put _ _ _ (by omega))
    have e2 : Sees hi x W2 := hSees hi x W W2 hsee (by rw [hW2]; exact KeepOn.put _ _ _ (by omega))
    have kp2 : KeepOn (fun k => Pv k ∨ (b + 2 ≤ k ∧ k < hi)) W W2 := by
      rw [hW2]
      exact KeepOn.put _ _ _ (by rintro (h | h); have := hPv _ h; omega; omega)
    rw [← hW2]
    refine wpIn_mono (hbody _ hi pre x W2 hlo (by omega) hpre i2 e2) ?_
    have fin : ∀ (jump : Option Code) (W3 : World), KeepOn (fun k => Pv k ∨ (b ≤ k ∧ k < hi)) W2 W3 →
        (Instr.endRound (b + 1) jump).run P W3 = .ok (.bool jump.isNone) (W3.putObj (b + 1) (.loop (rc (if jump.isNone then .ready else .done) jump))) ∧
        (W3.putObj (b + 1) (.loop (rc (if jump.isNone then .ready else .done) jump))).heap[b + 1]? = some (.loop (rc (if jump.isNone then .ready else .done) jump)) ∧
        (W3.putObj (b + 1) (.loop (rc (if jump.isNone then .ready else .done) jump))).heap[b]? = some (.deferred (some [])) := fun jump W3 k3 => by
      have l3 := (k3.block (b + 1) (Array.getElem?_eq_some_iff.1 l2).1 (.inr (by omega))).trans l2
      have := run_endRound (P := P) jump l3
      rw [hrc] at this ⊢
      exact ⟨this, World.putObj_heap_same (Array.getElem?_eq_some_iff.1 l3).1, (World.putObj_heap_other (by omega)).trans ((k3.block b (Array.getElem?_eq_some_iff.1 k2).1 (.inr (by omega))).trans k2)⟩
    have ixp : ∀ c s W3 o, Ix c s W3 → Ix c s (W3.putObj (b + 1) o) := fun c s W3 o h => hIx c s _ _ h (KeepOn.put _ _ _ (by omega))
    rintro e a3 W3 hp
    cases e with
    | normal =>
      obtain ⟨k3, i3⟩ := hp
      obtain ⟨r, l4, k4⟩ := fin none W3 k3
      refine ⟨_, _, r, .inl ⟨rfl, ⟨hI hi _ _ _ hlo i3 (KeepOn.put _ _ _ (by omega)), l4, k4⟩, kp2.trans ((k3.mono fun i _ h => ?_).trans (KeepOn.put _ _ _ ?_))⟩⟩
      · rcases h with h | h
        · exact .inl h
        · exact .inr (by omega)
      · rintro (h | h)
        · have := hPv _ h; omega
        · omega
    | ret =>
      obtain ⟨k3, i3⟩ := hp
      obtain ⟨r, l4, k4⟩ := fin (some .ret) W3 k3
      exact ⟨_, _, r, .inr ⟨rfl, .ret, ixp _ _ _ _ i3, l4, k4⟩⟩
    | exit id =>
      obtain ⟨k3, i3⟩ := hp
      obtain ⟨r, l4, k4⟩ := fin (some (.exit id)) W3 k3
      exact ⟨_, _, r, .inr ⟨rfl, .exit id, ixp _ _ _ _ i3, l4, k4⟩⟩
    | goto t =>
      obtain ⟨k3, i3⟩ := hp
      obtain ⟨r, l4, k4⟩ := fin (some (.goto t)) W3 k3
      exact ⟨_, _, r, .inr ⟨rfl, .goto t, ixp _ _ _ _ i3, l4, k4⟩⟩
    | panic ch => exact hp.elim
    | outgrown => exact hp.elim
  · rintro e W2 ⟨⟨v, rfl⟩, ⟨hi, h1, h2, hi2, hl, hk⟩ | ⟨pre, hp, c, hix, hl, hk⟩⟩
    · exact ⟨none, _, by have := run_endLoop (P := P) hl (by rw [hrc]; simp); rw [hrc] at this; exact this,
        hdone b hi _ (by omega) h1 (by simpa using h2) (hI hi _ _ _ h1 hi2 (KeepOn.put _ _ _ (by omega))) ((World.putObj_heap_other (by omega)).trans hk)⟩
    · exact ⟨some c, _, by have := run_endLoop (P := P) hl (by rw [hrc]; simp); rw [hrc] at this; exact this,
        hstop b c pre _ (by omega) hp (hIx c _ _ _ hix (KeepOn.put _ _ _ (by omega))) ((World.putObj_heap_other (by omega)).trans hk)⟩
end Go.Proofs.YtlbcdnobpnllkaaGreat.Dg

namespace Go.Proofs.YtlbcdnobpnllkaaGreat.Dg
open Go.RowKit

def preB (m r : Nat) : List Nat := ((List.range m).reverse).take (m - r)
theorem preB_all (m : Nat) : preB m m = [] := by unfold preB; simp
theorem preB_end (m : Nat) : preB m 0 = (List.range m).reverse := by unfold preB; rw [Nat.sub_zero, List.take_of_length_le (by simp)]
theorem preB_len (m r : Nat) (h : r ≤ m) : (preB m r).length = m - r := by unfold preB; simp
theorem preB_pre (m r : Nat) : preB m r <+: (List.range m).reverse := List.take_prefix _ _
theorem preB_step {m i : Nat} (h : i < m) : preB m i = preB m (i + 1) ++ [i] := by
  unfold preB
  have e : m - i = (m - (i + 1)) + 1 := by omega
  have e2 : (List.range m).length - 1 - (m - (i + 1)) = i := by rw [List.length_range]; omega
  rw [e, List.take_add_one, List.getElem?_reverse (by simp; omega), e2, List.getElem?_range h]
  rfl
theorem pre_next {m x : Nat} {pre : List Nat} (h : (pre ++ [x]) <+: (List.range m).reverse) : x < m ∧ pre.length = m - (x + 1) := by
  have hl := h.length_le
  rw [List.length_append, List.length_singleton, List.length_reverse, List.length_range] at hl
  have e := List.prefix_iff_eq_take.1 h
  have e2 : (pre ++ [x])[pre.length]? = (((List.range m).reverse).take (pre ++ [x]).length)[pre.length]? := by rw [← e]
  have e3 : (List.range m).length - 1 - pre.length = m - 1 - pre.length := by rw [List.length_range]
  rw [List.getElem?_append_right (Nat.le_refl _), Nat.sub_self, List.getElem?_take_of_lt (by simp), List.getElem?_reverse (by simp; omega), e3, List.getElem?_range (by omega)] at e2
  simp at e2
  omega
def PvB (bB m : Nat) (A : Option Addr) (k : Nat) : Prop := k = bB ∨ (0 < m ∧ ∃ off, A = some ⟨k, off, none⟩)
set_option maxHeartbeats 4000000 in
set_option maxRecDepth 100000 in
theorem backward_seq (n : Nat) (hn : 2 ≤ n) (w : World) (bB : Nat) (A : Option Addr) (c : Nat) (L : List Int) (hb : w.cell? ⟨bB, 0, none⟩ = some (.slice A L.length c)) (hr : ReadsV w A L) (hl : L.length ≤ 100000) :
    SeqScr n Tryz.prog 118 #[.pointer (some ⟨bB, 0, none⟩)] (fun i => #[.int .i64 (i : Nat), .int .i64 (at0 L i)]) (fun _ _ _ => True) (PvB bB L.length A) ((List.range L.length).reverse) (w.heap.size + 2) w := by
  intro l J Jx W hlo hW hst h0 hY
  have hbW := keepc hb hW
  have hrW := Lib.hid (hr.below hW (Nat.le_refl _))
  rw [← hlo] at hst h0 hY ⊢
  have J0 := Lib.hid (h0 W.heap.size W (Nat.le_refl _) (Nat.le_refl _) (KeepOn.refl _ _))
  have KC : Hid (∀ W', KeepOn (PvB bB L.length A) W W' → W'.cell? ⟨bB, 0, none⟩ = some (.slice A L.length c) ∧ ReadsV W' A L) := fun W' k => by
    refine ⟨k.cell hbW (.inl rfl), fun j hj => ?_⟩
    obtain ⟨b, off, e, h1, h2⟩ := hrW.out j hj
    exact ⟨b, off, e, Nat.lt_of_lt_of_le h1 k.size, k.cell h2 (.inr ⟨by omega, off, e⟩)⟩
  have HY := Lib.hid hY
  clear hY hst h0 hr hb
  refine callsIn_of_wp Tryz.func118 rfl trivial ?_ rfl
  simp only [Tryz.ntmps118, List.size_toArray, List.length_cons, List.length_nil, Nat.reduceAdd, Nat.reduceSub, Array.replicate_succ, Array.replicate_zero, List.push_toArray, List.append_toArray, List.nil_append, List.cons_append]
  have hw0 : IntKind.i64.wrap ((L.length : Int) - 1) = (L.length : Int) - 1 := by rw [IntKind.wrap_i64]; omega
  gi_wp2_with fail
  gi_loopw [3] (fun q wr => ∃ r : Nat, r ≤ L.length ∧ q = .int .i64 ((r : Int) - 1) ∧ Hid (J W.heap.size (preB L.length r) wr) ∧ Hid (KeepOn (PvB bB L.length A) W wr)) (fun q _ => (intOf q + 1).toNat)
  case atStart => exact ⟨L.length, Nat.le_refl _, rfl, by show J _ _ _; rw [preB_all]; exact J0.out, KeepOn.refl _ _⟩
  case round =>
    obtain ⟨r, hr, rfl, HJ, KK⟩ := hrel
    cases r with
    | zero =>
      have e : (((0 : Nat) : Int) - 1) = -1 := rfl
      rw [e]
      have HJ0 : Hid (J W.heap.size (List.range L.length).reverse wr) := by
        show J _ _ _
        rw [← preB_end]
        exact HJ.out
      have hsz := KK.out.size
      gi_wp2
      go_end0
      exact ⟨⟨_, rfl⟩, .inl ⟨_, Nat.le_refl _, hsz, HJ0.out⟩⟩
    | succ i =>
      have e : (((i + 1 : Nat) : Int) - 1) = (i : Int) := by omega
      rw [e]
      obtain ⟨q0, q1⟩ := KC.out wr KK.out
      obtain ⟨b, off, rfl, _, q2⟩ := q1 i (by omega)
      have HP : Hid (preB L.length i = preB L.length (i + 1) ++ [i]) := preB_step (by omega)
      have hil : i < L.length := by omega
      have hsz := KK.out.size
      have hYx := HY.out W.heap.size (preB L.length (i + 1)) i wr (Nat.le_refl _) hsz (by rw [← HP.out]; exact preB_pre _ _) HJ.out trivial
      have HYx := Lib.hid hYx
      clear e q1 hYx
      obtain ⟨fn, tmps, assign, body, hy, hR⟩ := HYx.out
      have HPRE : Hid (preB L.length (i + 1) ++ [i] <+: (List.range L.length).reverse) := by
        show _ <+: _
        rw [← HP.out]; exact preB_pre _ _
      have hwi : IntKind.i64.wrap ((i : Int) - 1) = (i : Int) - 1 := by rw [IntKind.wrap_i64]; omega
      gi_wp2_with fail
      refine ⟨fun _ => by omega, ?_⟩
      refine hR.mono ?_
      rintro e w3 (⟨rfl, j3, k3⟩ | ⟨rfl, jx3⟩)
      · have J3 : Hid (J W.heap.size (preB L.length i) w3) := by
          show J _ _ _
          rw [HP.out]; exact j3
        have K3 : Hid (KeepOn (PvB bB L.length (some ⟨b, off, none⟩)) W w3) := KK.out.trans (k3.mono fun k _ h => .inl h)
        clear j3 k3 hR hy HYx
        gi_wp2
        go_roundw
        case rel => exact ⟨i, by omega, by go_num, J3, K3⟩
        case measure => simp [intOf] <;> omega
      · have JX := Lib.hid jx3
        clear jx3 hR hy HYx
        gi_wp2
        try simp only [Exit.inBlock, Exit.then]
        refine bodyPost_ret (results_none rfl _ _ _) rfl ?_
        exact ⟨⟨_, rfl⟩, .inr ⟨_, HPRE.out, JX.out⟩⟩
end Go.Proofs.YtlbcdnobpnllkaaGreat.Dg
