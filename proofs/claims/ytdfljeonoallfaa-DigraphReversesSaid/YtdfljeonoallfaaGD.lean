/- Graphs: distances and shortest paths: the plain mathematics. -/
import Derived.Test.YtdfljeonoallfaaGM
namespace Go.Proofs.Ytdfljeonoallfaa
open Go.RowKit

/-- v reaches t in at most k steps -/
def layB (R : Nat → List Int) (n t : Nat) : Nat → Nat → Bool
  | 0, v => decide (v = t)
  | k + 1, v => layB R n t k v || anyN (fun u => tabB R v u && layB R n t k u) n
theorem lay_mono {R : Nat → List Int} {n t v : Nat} : ∀ {k j : Nat}, k ≤ j → layB R n t k v = true → layB R n t j v = true := by
  intro k j h hk
  induction j with
  | zero => obtain rfl : k = 0 := by omega
            exact hk
  | succ j ih =>
    by_cases e : k = j + 1
    · subst e; exact hk
    · show (layB R n t j v || _) = true
      rw [ih (by omega)]
      rfl
theorem lay_step {R : Nat → List Int} {n t v u k : Nat} (hu : u < n) (he : tabB R v u = true) (h : layB R n t k u = true) : layB R n t (k + 1) v = true := by
  show (layB R n t k v || anyN (fun u => tabB R v u && layB R n t k u) n) = true
  rw [anyN_yes hu (by rw [he, h]; rfl)]
  simp
theorem lay_back {R : Nat → List Int} {n t v k : Nat} (h : layB R n t (k + 1) v = true) (h2 : layB R n t k v = false) : ∃ u, u < n ∧ tabB R v u = true ∧ layB R n t k u = true := by
  have h : (layB R n t k v || anyN (fun u => tabB R v u && layB R n t k u) n) = true := h
  rw [h2, Bool.false_or] at h
  obtain ⟨u, hu, hy⟩ := List.any_eq_true.1 h
  rw [Bool.and_eq_true] at hy
  exact ⟨u, List.mem_range.1 hu, hy⟩
/-- the distances up to k -/
def dstV (R : Nat → List Int) (n t : Nat) : Nat → Nat → Int
  | 0, v => if v = t then 0 else -1
  | k + 1, v => if dstV R n t k v < 0 ∧ layB R n t (k + 1) v = true then (k + 1 : Nat) else dstV R n t k v
theorem dst_spec (R : Nat → List Int) (n t : Nat) : ∀ (k v : Nat), (dstV R n t k v = -1 ∧ layB R n t k v = false) ∨ ∃ j : Nat, dstV R n t k v = (j : Int) ∧ j ≤ k ∧ layB R n t j v = true ∧ ∀ i, i < j → layB R n t i v = false
  | 0, v => by
    by_cases h : v = t
    · exact Or.inr ⟨0, by unfold dstV; rw [if_pos h]; rfl, Nat.le_refl _, decide_eq_true h, fun i hi => absurd hi (by omega)⟩
    · exact Or.inl ⟨by unfold dstV; rw [if_neg h], decide_eq_false h⟩
  | k + 1, v => by
    rcases dst_spec R n t k v with ⟨h1, h2⟩ | ⟨j, h1, h2, h3, h4⟩
    · cases h : layB R n t (k + 1) v
      · left
        refine ⟨?_, rfl⟩
        unfold dstV
        rw [h, if_neg (by simp), h1]
      · right
        refine ⟨k + 1, ?_, Nat.le_refl _, h, fun i hi => ?_⟩
        · unfold dstV
          rw [if_pos ⟨by omega, h⟩]
        · cases h5 : layB R n t i v
          · rfl
          · rw [lay_mono (by omega) h5] at h2; cases h2
    · right
      refine ⟨j, ?_, by omega, h3, h4⟩
      unfold dstV
      rw [if_neg (by omega), h1]
theorem dst_of {R : Nat → List Int} {n t k v j : Nat} (hj : j ≤ k) (h : layB R n t j v = true) (h2 : ∀ i, i < j → layB R n t i v = false) : dstV R n t k v = (j : Int) := by
  rcases dst_spec R n t k v with ⟨_, h3⟩ | ⟨j', h3, h4, h5, h6⟩
  · rw [lay_mono hj h] at h3; cases h3
  · have : j = j' := by
      rcases Nat.lt_trichotomy j j' with h7 | h7 | h7
      · rw [h6 j h7] at h; cases h
      · exact h7
      · rw [h2 j' h7] at h5; cases h5
    rw [this]; exact h3
theorem dst_neg {R : Nat → List Int} {n t k v : Nat} (h : layB R n t k v = false) : dstV R n t k v = -1 := by
  rcases dst_spec R n t k v with ⟨h3, _⟩ | ⟨j', h3, h4, h5, h6⟩
  · exact h3
  · rw [lay_mono h4 h5] at h; cases h
/-- one round of the reference -/
theorem dst_round (R : Nat → List Int) (n t k v : Nat) : dstV R n t (k + 1) v = if dstV R n t k v < 0 ∧ (∃ u, u < n ∧ tabB R v u = true ∧ dstV R n t k u = (k : Int)) then ((k + 1 : Nat) : Int) else dstV R n t k v := by
  have key : dstV R n t k v < 0 → (layB R n t (k + 1) v = true ↔ ∃ u, u < n ∧ tabB R v u = true ∧ dstV R n t k u = (k : Int)) := fun hd => by
    have hl : layB R n t k v = false := by
      cases h : layB R n t k v
      · rfl
      · rcases dst_spec R n t k v with ⟨_, h3⟩ | ⟨j', h3, _⟩
        · rw [h] at h3; cases h3
        · omega
    constructor
    · intro h
      obtain ⟨u, hu, h1, h2⟩ := lay_back h hl
      refine ⟨u, hu, h1, ?_⟩
      rcases dst_spec R n t k u with ⟨_, h3⟩ | ⟨j', h3, h4, h5, h6⟩
      · rw [h2] at h3; cases h3
      · by_cases e : j' = k
        · rw [h3, e]
        · have := lay_mono (j := k) (by omega) (lay_step hu h1 h5)
          rw [hl] at this; cases this
    · rintro ⟨u, hu, h1, h2⟩
      rcases dst_spec R n t k u with ⟨h3, _⟩ | ⟨j', h3, h4, h5, h6⟩
      · omega
      · exact lay_step hu h1 (lay_mono h4 h5)
  conv => lhs; unfold dstV
  by_cases h : dstV R n t k v < 0
  · by_cases h2 : layB R n t (k + 1) v = true
    · rw [if_pos ⟨h, h2⟩, if_pos ⟨h, (key h).1 h2⟩]
    · rw [if_neg fun c => h2 c.2, if_neg fun c => h2 ((key h).2 c.2)]
  · rw [if_neg fun c => h c.1, if_neg fun c => h c.1]
/- the search of the program -/
structure BfsI (R : Nat → List Int) (n t : Nat) (i r : Nat) (q : List Nat) (D : Nat → Int) : Prop where
  len : i ≤ q.length
  lt : ∀ v, v ∈ q → v < n
  nd : q.Nodup
  mem : ∀ v, v < n → (0 ≤ D v ↔ v ∈ q)
  neg : ∀ v, v < n → D v < 0 → D v = -1
  lay : ∀ j (h : j < q.length), ∃ m : Nat, D q[j] = (m : Int) ∧ m ≤ j ∧ layB R n t m q[j] = true
  asc : ∀ j j' (h : j ≤ j') (h' : j' < q.length), D (q[j]'(by omega)) ≤ D q[j']
  top : ∀ j j' (_ : j = i) (h : j < q.length) (h' : j' < q.length), D q[j'] ≤ D q[j] + 1
  tt : t ∈ q ∧ D t = 0
  done : ∀ j (_ : j < i) (h : j < q.length), ∀ v, v < n → tabB R v q[j] = true → v ∈ q ∧ D v ≤ D q[j] + 1
  part : ∀ (h : i < q.length), ∀ k, k < r → k < (revV R n q[i]).length → ∀ v : Nat, at0 (revV R n q[i]) k = (v : Int) → v ∈ q ∧ D v ≤ D q[i] + 1
theorem bfs_start {R : Nat → List Int} {n t : Nat} (ht : t < n) : BfsI R n t 0 0 [t] (fun v => if v = t then 0 else -1) where
  len := by simp
  lt := fun v hv => by simp at hv; omega
  nd := by simp
  mem := fun v _ => by by_cases e : v = t <;> simp [e]
  neg := fun v _ h => by by_cases e : v = t <;> simp [e] at h ⊢
  lay := fun j h => by
    obtain rfl : j = 0 := by simp at h; omega
    exact ⟨0, by simp, by omega, by simp [layB]⟩
  asc := fun j j' h h' => by
    obtain rfl : j' = 0 := by simp at h'; omega
    obtain rfl : j = 0 := by omega
    exact Int.le_refl _
  top := fun j j' _ h h' => by
    obtain rfl : j' = 0 := by simp at h'; omega
    obtain rfl : j = 0 := by simp at h; omega
    simp
  tt := by simp
  done := fun j h => absurd h (by omega)
  part := fun _ k h => absurd h (by omega)
theorem bfs_old {R : Nat → List Int} {n t i r : Nat} {q : List Nat} {D : Nat → Int} (I : BfsI R n t i r q D) (hi : i < q.length) {w : Nat} (hw : w < n) (hr : r < (revV R n q[i]).length) (e : at0 (revV R n q[i]) r = (w : Int)) (h : 0 ≤ D w) : BfsI R n t i (r + 1) q D :=
  have part' : ∀ (h' : i < q.length), ∀ k, k < r + 1 → k < (revV R n q[i]).length → ∀ v : Nat, at0 (revV R n q[i]) k = (v : Int) → v ∈ q ∧ D v ≤ D q[i] + 1 := fun h' k hk hk2 v hv => by
    by_cases ek : k = r
    · subst ek
      have : v = w := by omega
      subst this
      have hm := (I.mem v hw).1 h
      obtain ⟨j, hj, rfl⟩ := List.mem_iff_getElem.1 hm
      exact ⟨hm, I.top i j rfl hi hj⟩
    · exact I.part h' k (by omega) hk2 v hv
  { I with part := part' }
theorem get_snoc {q : List Nat} {w j : Nat} (h : j < q.length) : (q ++ [w])[j]'(by simp; omega) = q[j] := List.getElem_append_left h
theorem bfs_new {R : Nat → List Int} {n t i r : Nat} {q : List Nat} {D : Nat → Int} (I : BfsI R n t i r q D) (hi : i < q.length) {w : Nat} (hw : w < n) (hr : r < (revV R n q[i]).length) (e : at0 (revV R n q[i]) r = (w : Int)) (h : D w < 0) (he : tabB R w q[i] = true) : BfsI R n t i (r + 1) (q ++ [w]) (fun v => if v = w then D q[i] + 1 else D v) := by
  have hnw : w ∉ q := fun hm => by have := (I.mem w hw).2 hm; omega
  have key : ∀ v : Nat, v ∈ q → (if v = w then D q[i] + 1 else D v) = D v := fun v hv => if_neg fun (c : v = w) => hnw (c ▸ hv)
  have keyj : ∀ j (hj : j < q.length), (if q[j] = w then D q[i] + 1 else D q[j]) = D q[j] := fun j hj => key _ (List.getElem_mem hj)
  have hlen : (q ++ [w]).length = q.length + 1 := by simp
  have gl : (q ++ [w])[q.length]'(by simp) = w := by simp
  obtain ⟨mi, hmi, hmi2, hmi3⟩ := I.lay i hi
  have all : ∀ j (hj : j < (q ++ [w]).length), (j < q.length ∧ (if (q ++ [w])[j] = w then D q[i] + 1 else D (q ++ [w])[j]) = D (q[j]?.getD 0)) ∨ (j = q.length ∧ (q ++ [w])[j] = w ∧ (if (q ++ [w])[j] = w then D q[i] + 1 else D (q ++ [w])[j]) = D q[i] + 1) := fun j hj => by
    by_cases c : j < q.length
    · left
      refine ⟨c, ?_⟩
      rw [List.getElem?_eq_getElem c, get_snoc c]
      exact keyj j c
    · right
      obtain rfl : j = q.length := by omega
      exact ⟨rfl, gl, by rw [gl, if_pos rfl]⟩
  have gd : ∀ j (hj : j < q.length), q[j]?.getD 0 = q[j] := fun j hj => by rw [List.getElem?_eq_getElem hj]; rfl
  refine ⟨by omega, fun v hv => ?_, ?_, fun v hv => ?_, fun v hv hd => ?_, fun j hj => ?_, fun j j' h1 h2 => ?_, fun j j' h0 h1 h2 => ?_, ?_, fun j h0 h1 v hv ht => ?_, fun h0 k hk hk2 v hv => ?_⟩
  · rcases List.mem_append.1 hv with hv | hv
    · exact I.lt v hv
    · simp at hv; omega
  · rw [List.nodup_append]
    refine ⟨I.nd, by simp, fun a ha b hb => ?_⟩
    simp at hb
    subst hb
    intro c
    exact hnw (c ▸ ha)
  · by_cases c : v = w
    · subst c
      simp only [if_pos]
      constructor
      · intro _; simp
      · intro _; omega
    · simp only [if_neg c]
      rw [I.mem v hv]
      simp [c]
  · by_cases c : v = w
    · simp only [if_pos c] at hd ⊢
      omega
    · simp only [if_neg c] at hd ⊢
      exact I.neg v hv hd
  · rcases all j hj with ⟨c, hc⟩ | ⟨c, c1, c2⟩
    · obtain ⟨m, h3, h4, h5⟩ := I.lay j c
      refine ⟨m, ?_, h4, ?_⟩
      · rw [hc, gd j c]; exact h3
      · rw [get_snoc c]; exact h5
    · refine ⟨mi + 1, ?_, by omega, ?_⟩
      · rw [c2, hmi]; rfl
      · rw [c1]
        exact lay_step (I.lt _ (List.getElem_mem hi)) he hmi3
  · rcases all j (by omega) with ⟨c, hc⟩ | ⟨c, c1, c2⟩
    · rcases all j' h2 with ⟨d, hd⟩ | ⟨d, d1, d2⟩
      · rw [hc, hd, gd j c, gd j' d]; exact I.asc j j' h1 d
      · rw [hc, d2, gd j c]; exact I.top i j rfl hi c
    · rcases all j' h2 with ⟨d, hd⟩ | ⟨d, d1, d2⟩
      · omega
      · rw [c2, d2]; exact Int.le_refl _
  · subst h0
    rcases all j h1 with ⟨c, hc⟩ | ⟨c, c1, c2⟩
    · rcases all j' h2 with ⟨d, hd⟩ | ⟨d, d1, d2⟩
      · rw [hc, hd, gd j c, gd j' d]; exact I.top j j' rfl c d
      · rw [hc, d2, gd j c]; exact Int.le_refl _
    · omega
  · refine ⟨List.mem_append_left _ I.tt.1, ?_⟩
    rw [key t I.tt.1]; exact I.tt.2
  · have c : j < q.length := by omega
    rw [get_snoc c] at ht ⊢
    obtain ⟨h3, h4⟩ := I.done j h0 c v hv ht
    refine ⟨List.mem_append_left _ h3, ?_⟩
    rw [key v h3, keyj j c]; exact h4
  · rw [get_snoc hi] at hk2 hv ⊢
    rw [keyj i hi]
    by_cases ek : k = r
    · subst ek
      have : v = w := by omega
      subst this
      refine ⟨by simp, ?_⟩
      rw [if_pos rfl]; exact Int.le_refl _
    · obtain ⟨h3, h4⟩ := I.part hi k (by omega) hk2 v hv
      refine ⟨List.mem_append_left _ h3, ?_⟩
      rw [key v h3]; exact h4
theorem rev_mem {R : Nat → List Int} {n u v : Nat} (hv : v < n) (h : tabB R v u = true) : ∃ k, k < (revV R n u).length ∧ at0 (revV R n u) k = (v : Int) := by
  have hm : (v : Int) ∈ revV R n u := by
    unfold revV pickI
    rw [List.mem_map]
    exact ⟨v, List.mem_filter.2 ⟨List.mem_range.2 hv, h⟩, rfl⟩
  obtain ⟨k, hk, e⟩ := List.mem_iff_getElem.1 hm
  refine ⟨k, hk, ?_⟩
  unfold at0
  rw [List.getElem?_eq_getElem hk, e]
  rfl
theorem bfs_next {R : Nat → List Int} {n t i : Nat} {q : List Nat} {D : Nat → Int} (hi : i < q.length) (I : BfsI R n t i (revV R n q[i]).length q D) : BfsI R n t (i + 1) 0 q D :=
  have top' : ∀ j j' (_ : j = i + 1) (h : j < q.length) (h' : j' < q.length), D q[j'] ≤ D q[j] + 1 := fun j j' h0 h1 h2 => by
    subst h0
    have h3 := I.top i j' rfl hi h2
    have h4 := I.asc i (i + 1) (by omega) h1
    omega
  have done' : ∀ j (_ : j < i + 1) (h : j < q.length), ∀ v, v < n → tabB R v q[j] = true → v ∈ q ∧ D v ≤ D q[j] + 1 := fun j h0 h1 v hv ht => by
    by_cases e : j = i
    · subst e
      obtain ⟨k, hk, hk2⟩ := rev_mem hv ht
      exact I.part hi k hk hk v hk2
    · exact I.done j (by omega) h1 v hv ht
  { I with len := hi, top := top', done := done', part := fun _ k h => absurd h (by omega) }
theorem nodup_le : ∀ {n : Nat} {q : List Nat}, q.Nodup → (∀ v, v ∈ q → v < n) → q.length ≤ n := by
  intro n
  induction n with
  | zero =>
    intro q _ hl
    cases q with
    | nil => exact Nat.le_refl _
    | cons x l => exact absurd (hl x (by simp)) (by omega)
  | succ n ih =>
    intro q hn hl
    by_cases h : n ∈ q
    · have h1 := ih (q := q.erase n) (List.Nodup.erase n hn) fun v hv => by
        have h2 := (List.Nodup.mem_erase_iff hn).1 hv
        have h3 := hl v h2.2
        have h4 := h2.1
        omega
      have h5 := List.length_erase_of_mem h
      omega
    · have h1 := ih hn fun v hv => by
        have h3 := hl v hv
        have h4 : v ≠ n := fun c => h (c ▸ hv)
        omega
      omega
theorem bfs_end {R : Nat → List Int} {n t : Nat} {q : List Nat} {D : Nat → Int} (I : BfsI R n t q.length 0 q D) {v : Nat} (hv : v < n) : D v = dstV R n t n v := by
  have key : ∀ m v, v < n → layB R n t m v = true → v ∈ q ∧ D v ≤ (m : Int) := by
    intro m
    induction m with
    | zero =>
      intro v _ h
      have h : v = t := of_decide_eq_true h
      subst h
      exact ⟨I.tt.1, by rw [I.tt.2]; exact Int.le_refl _⟩
    | succ m ih =>
      intro v hv h
      cases h2 : layB R n t m v
      · obtain ⟨u, hu, h3, h4⟩ := lay_back h h2
        obtain ⟨h5, h6⟩ := ih u hu h4
        obtain ⟨j, hj, rfl⟩ := List.mem_iff_getElem.1 h5
        obtain ⟨h7, h8⟩ := I.done j hj hj v hv h3
        exact ⟨h7, by omega⟩
      · obtain ⟨h5, h6⟩ := ih v hv h2
        exact ⟨h5, by omega⟩
  by_cases h : v ∈ q
  · obtain ⟨j, hj, rfl⟩ := List.mem_iff_getElem.1 h
    obtain ⟨m, h1, h2, h3⟩ := I.lay j hj
    have hq : q.length ≤ n := nodup_le I.nd I.lt
    rw [h1]
    refine (dst_of (by omega) h3 fun i hi => ?_).symm
    cases h4 : layB R n t i q[j]
    · rfl
    · have := (key i _ hv h4).2
      omega
  · have hd : D v < 0 := by
      rcases Int.lt_or_le (D v) 0 with h1 | h1
      · exact h1
      · exact absurd ((I.mem v hv).1 h1) h
    rw [I.neg v hv hd]
    refine (dst_neg ?_).symm
    cases h4 : layB R n t n v
    · rfl
    · exact absurd (key n v hv h4).1 h
theorem dst_zero {R : Nat → List Int} {n t v : Nat} : dstV R n t n v = 0 ↔ v = t := by
  rcases dst_spec R n t n v with ⟨h1, h2⟩ | ⟨j, h1, h2, h3, h4⟩
  · constructor
    · intro h; omega
    · intro h
      subst h
      rw [lay_mono (k := 0) (Nat.zero_le _) (by simp [layB])] at h2; cases h2
  · constructor
    · intro h
      obtain rfl : j = 0 := by omega
      exact of_decide_eq_true h3
    · intro h
      subst h
      rw [h1]
      by_cases e : j = 0
      · rw [e]; rfl
      · have := h4 0 (by omega)
        simp [layB] at this
theorem dst_le (R : Nat → List Int) (n t v : Nat) : -1 ≤ dstV R n t n v ∧ dstV R n t n v ≤ n := by
  rcases dst_spec R n t n v with ⟨h1, h2⟩ | ⟨j, h1, h2, h3, h4⟩ <;> omega
theorem dst_next {R : Nat → List Int} {n t v m : Nat} (h : dstV R n t n v = ((m + 1 : Nat) : Int)) : ∃ u, u < n ∧ tabB R v u = true ∧ dstV R n t n u = (m : Int) := by
  rcases dst_spec R n t n v with ⟨h1, h2⟩ | ⟨j, h1, h2, h3, h4⟩
  · omega
  · obtain rfl : j = m + 1 := by omega
    obtain ⟨u, hu, h5, h6⟩ := lay_back h3 (h4 m (by omega))
    refine ⟨u, hu, h5, dst_of (by omega) h6 fun i hi => ?_⟩
    cases h7 : layB R n t i u
    · rfl
    · have := lay_mono (j := m) (by omega) (lay_step hu h5 h7)
      rw [h4 m (by omega)] at this; cases this
/-- the next vertex of the least shortest path -/
def onB (R : Nat → List Int) (n t v u : Nat) : Bool := tabB R v u && decide (dstV R n t n u = dstV R n t n v - 1)
def nxtV (R : Nat → List Int) (n t v : Nat) : Nat := ((List.range n).find? (onB R n t v)).getD n
theorem nxt_spec {R : Nat → List Int} {n t v m : Nat} (h : dstV R n t n v = ((m + 1 : Nat) : Int)) : nxtV R n t v < n ∧ onB R n t v (nxtV R n t v) = true ∧ dstV R n t n (nxtV R n t v) = (m : Int) ∧ ∀ i, i < nxtV R n t v → onB R n t v i = false := by
  obtain ⟨u, hu, h1, h2⟩ := dst_next h
  have hon : onB R n t v u = true := by
    unfold onB
    rw [h1, h2, h, Bool.true_and, decide_eq_true_eq]
    omega
  unfold nxtV
  cases hf : (List.range n).find? (onB R n t v) with
  | none =>
    have := List.find?_eq_none.1 hf u (List.mem_range.2 hu)
    exact absurd hon this
  | some x =>
    have hx := List.find?_some hf
    have hm := List.mem_range.1 (List.mem_of_find?_eq_some hf)
    have hd : dstV R n t n x = (m : Int) := by
      unfold onB at hx
      rw [Bool.and_eq_true, decide_eq_true_eq] at hx
      omega
    refine ⟨hm, hx, hd, fun i hi => ?_⟩
    have hi : i < x := hi
    rw [List.find?_range_eq_some] at hf
    have := hf.2.2 i hi
    simpa using this
def itV (R : Nat → List Int) (n t f : Nat) : Nat → Nat
  | 0 => f
  | j + 1 => nxtV R n t (itV R n t f j)
theorem it_spec {R : Nat → List Int} {n t f m : Nat} (hf : f < n) (h : dstV R n t n f = (m : Int)) : ∀ j, j ≤ m → itV R n t f j < n ∧ dstV R n t n (itV R n t f j) = ((m - j : Nat) : Int)
  | 0, _ => ⟨hf, h⟩
  | j + 1, hj => by
    obtain ⟨h1, h2⟩ := it_spec hf h j (by omega)
    obtain ⟨h3, _, h5, _⟩ := nxt_spec (m := m - (j + 1)) (h2.trans (by congr 1; omega))
    exact ⟨h3, h5⟩
/-- the path -/
def pthV (R : Nat → List Int) (n t f : Nat) : List Int := tab ((dstV R n t n f).toNat + 1) fun j => (itV R n t f j : Int)
end Go.Proofs.Ytdfljeonoallfaa
