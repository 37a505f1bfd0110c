/- Graphs: the order in which a depth-first search leaves the vertices, and components: the plain mathematics. -/
import Derived.Test.YtdfljeonoallfaaGD
namespace Go.Proofs.Ytdfljeonoallfaa
open Go.RowKit

def RchR (R : Nat → List Int) (n u v : Nat) : Prop := u = v ∨ PathR R n u v
theorem RchR.trans {R : Nat → List Int} {n a b c : Nat} (h : RchR R n a b) (k : RchR R n b c) : RchR R n a c := by
  rcases h with rfl | h
  · exact k
  · rcases k with rfl | k
    · exact Or.inr h
    · exact Or.inr (Relation.TransGen.trans h k)
theorem RchR.edge {R : Nat → List Int} {n a b : Nat} (h : EdgeR R n a b) : RchR R n a b := Or.inr (Relation.TransGen.single h)
def MutR (R : Nat → List Int) (n u v : Nat) : Prop := RchR R n u v ∧ RchR R n v u
theorem MutR.refl (R : Nat → List Int) (n u : Nat) : MutR R n u u := ⟨Or.inl rfl, Or.inl rfl⟩
theorem MutR.symm {R : Nat → List Int} {n a b : Nat} (h : MutR R n a b) : MutR R n b a := ⟨h.2, h.1⟩
theorem MutR.trans {R : Nat → List Int} {n a b c : Nat} (h : MutR R n a b) (k : MutR R n b c) : MutR R n a c := ⟨h.1.trans k.1, k.2.trans h.2⟩
/- the search -/
structure DfsI (R : Nat → List Int) (n : Nat) (p o : List Nat) (nx : Nat → Nat) (sn : Nat → Bool) : Prop where
  seen : ∀ v, v < n → (sn v = true ↔ v ∈ p ∨ v ∈ o)
  lt : ∀ v, v ∈ p ∨ v ∈ o → v < n
  nd : (p ++ o).Nodup
  ch : ∀ i (h : i + 1 < p.length), EdgeR R n p[i] p[i + 1]
  fin : ∀ v, v ∈ o → ∀ s, EdgeR R n v s → s ∈ p ∨ s ∈ o
  nxt : ∀ v, v ∈ p → nx v ≤ (R v).length ∧ ∀ k, k < nx v → ∀ s : Nat, s < n → at0 (R v) k = (s : Int) → s ∈ p ∨ s ∈ o
  zero : ∀ v, v < n → sn v = false → nx v = 0
  K : ∀ i (h : i < o.length), ∀ j (hj : j ≤ i), ∀ s, EdgeR R n (o[j]'(by omega)) s → s ∉ o.take (i + 1) → RchR R n s o[i]
theorem dfs_start (R : Nat → List Int) (n : Nat) : DfsI R n [] [] (fun _ => 0) (fun _ => false) where
  seen := by simp
  lt := by simp
  nd := by simp
  ch := by simp
  fin := by simp
  nxt := by simp
  zero := by simp
  K := fun i h => absurd h (by simp)
theorem chain_rch {R : Nat → List Int} {n : Nat} {p : List Nat} (ch : ∀ i (h : i + 1 < p.length), EdgeR R n p[i] p[i + 1]) : ∀ (d i : Nat) (h : i + d < p.length), RchR R n (p[i]'(by omega)) p[i + d]
  | 0, _, _ => Or.inl rfl
  | d + 1, i, h => (chain_rch ch d i (by omega)).trans (RchR.edge (ch (i + d) h))
/-- a vertex that was not seen is entered -/
theorem dfs_enter {R : Nat → List Int} {n : Nat} {p o : List Nat} {nx : Nat → Nat} {sn : Nat → Bool} (I : DfsI R n p o nx sn) {w : Nat} (hw : w < n) (hs : sn w = false) (he : ∀ h : p ≠ [], EdgeR R n (p.getLast h) w) : DfsI R n (p ++ [w]) o nx (fun v => if v = w then true else sn v) := by
  have hnp : w ∉ p := fun c => by rw [(I.seen w hw).2 (Or.inl c)] at hs; cases hs
  have hno : w ∉ o := fun c => by rw [(I.seen w hw).2 (Or.inr c)] at hs; cases hs
  have up : ∀ s, s ∈ p ∨ s ∈ o → s ∈ p ++ [w] ∨ s ∈ o := fun s h => h.imp (fun h => List.mem_append_left _ h) id
  refine ⟨fun v hv => ?_, fun v hv => ?_, ?_, fun i h => ?_, fun v hv s hs => up s (I.fin v hv s hs), fun v hv => ?_, fun v hv h => ?_, I.K⟩
  · by_cases c : v = w
    · subst c; simp
    · simp only [if_neg c]
      rw [I.seen v hv]
      simp [c]
  · rcases hv with hv | hv
    · rcases List.mem_append.1 hv with hv | hv
      · exact I.lt v (Or.inl hv)
      · simp at hv; omega
    · exact I.lt v (Or.inr hv)
  · have h1 := I.nd
    rw [List.nodup_append] at h1
    rw [List.append_assoc, List.nodup_append]
    refine ⟨h1.1, ?_, fun a ha b hb => ?_⟩
    · rw [List.singleton_append, List.nodup_cons]
      exact ⟨hno, h1.2.1⟩
    · rw [List.singleton_append, List.mem_cons] at hb
      rcases hb with rfl | hb
      · exact fun c => hnp (c ▸ ha)
      · exact h1.2.2 a ha b hb
  · by_cases c : i + 1 < p.length
    · rw [List.getElem_append_left (by omega), List.getElem_append_left c]
      exact I.ch i c
    · have e : i + 1 = p.length := by simp at h; omega
      have hp : p ≠ [] := fun c => by rw [c] at e; simp at e
      have h2 := he hp
      rw [List.getLast_eq_getElem] at h2
      rw [List.getElem_append_left (by omega), List.getElem_append_right (by omega)]
      simp only [e, Nat.sub_self, List.getElem_cons_zero]
      have e2 : p.length - 1 = i := by omega
      simp only [e2] at h2
      exact h2
  · rcases List.mem_append.1 hv with hv | hv
    · obtain ⟨h1, h2⟩ := I.nxt v hv
      exact ⟨h1, fun k hk s hs e => up s (h2 k hk s hs e)⟩
    · simp at hv
      subst hv
      rw [I.zero v hw hs]
      exact ⟨Nat.zero_le _, fun k hk => absurd hk (by omega)⟩
  · by_cases c : v = w
    · subst c; simp at h
    · simp only [if_neg c] at h
      exact I.zero v hv h
/-- a successor is read -/
theorem dfs_read {R : Nat → List Int} {n : Nat} {p o : List Nat} {nx : Nat → Nat} {sn : Nat → Bool} {v : Nat} (I : DfsI R n (p ++ [v]) o nx sn) (hk : nx v < (R v).length) (h : ∀ s : Nat, s < n → at0 (R v) (nx v) = (s : Int) → s ∈ p ++ [v] ∨ s ∈ o) : DfsI R n (p ++ [v]) o (fun x => if x = v then nx v + 1 else nx x) sn := by
  have hv : v ∈ p ++ [v] := by simp
  refine ⟨I.seen, I.lt, I.nd, I.ch, I.fin, fun x hx => ?_, fun x hx hs => ?_, I.K⟩
  · by_cases c : x = v
    · subst c
      simp only [if_pos]
      refine ⟨hk, fun k hk2 s hs e => ?_⟩
      by_cases c2 : k = nx x
      · subst c2; exact h s hs e
      · exact (I.nxt x hx).2 k (by omega) s hs e
    · simp only [if_neg c]
      exact I.nxt x hx
  · by_cases c : x = v
    · subst c
      rw [(I.seen x hx).2 (Or.inl hv)] at hs
      cases hs
    · simp only [if_neg c]
      exact I.zero x hx hs
/-- a successor is read and entered -/
theorem dfs_go {R : Nat → List Int} {n : Nat} {p o : List Nat} {nx : Nat → Nat} {sn : Nat → Bool} {v w : Nat} (I : DfsI R n (p ++ [v]) o nx sn) (hk : nx v < (R v).length) (hw : w < n) (e : at0 (R v) (nx v) = (w : Int)) (hs : sn w = false) : DfsI R n (p ++ [v] ++ [w]) o (fun x => if x = v then nx v + 1 else nx x) (fun x => if x = w then true else sn x) := by
  have hvn : v < n := I.lt v (Or.inl (by simp))
  have hE : EdgeR R n v w := by
    refine ⟨hvn, hw, ?_⟩
    rw [← e]
    unfold at0
    rw [List.getElem?_eq_getElem hk]
    exact List.getElem_mem hk
  have J := dfs_enter I hw hs (fun h => by simpa using hE)
  have hvw : v ≠ w := fun c => by
    subst c
    rw [(I.seen v hw).2 (Or.inl (by simp))] at hs
    cases hs
  refine ⟨J.seen, J.lt, J.nd, J.ch, J.fin, fun x hx => ?_, fun x hx h2 => ?_, J.K⟩
  · obtain ⟨h1, h2⟩ := J.nxt x hx
    by_cases c : x = v
    · subst c
      simp only [if_pos]
      refine ⟨hk, fun k hk2 s hs e2 => ?_⟩
      by_cases c2 : k = nx x
      · subst c2
        have : s = w := by omega
        subst this
        exact Or.inl (by simp)
      · exact h2 k (by omega) s hs e2
    · simp only [if_neg c]
      exact ⟨h1, h2⟩
  · by_cases c : x = v
    · subst c
      simp only [if_neg hvw] at h2
      rw [(I.seen x hx).2 (Or.inl (by simp))] at h2
      cases h2
    · simp only [if_neg c]
      exact J.zero x hx h2
/-- a vertex is left -/
theorem dfs_pop {R : Nat → List Int} {n : Nat} {p o : List Nat} {nx : Nat → Nat} {sn : Nat → Bool} {v : Nat} (I : DfsI R n (p ++ [v]) o nx sn) (hk : ¬ nx v < (R v).length) : DfsI R n p (o ++ [v]) nx sn := by
  have mv : ∀ s, s ∈ p ++ [v] ∨ s ∈ o → s ∈ p ∨ s ∈ o ++ [v] := fun s h => by
    rcases h with h | h
    · rcases List.mem_append.1 h with h | h
      · exact Or.inl h
      · exact Or.inr (List.mem_append_right _ h)
    · exact Or.inr (List.mem_append_left _ h)
  have mv2 : ∀ s, s ∈ p ∨ s ∈ o ++ [v] → s ∈ p ++ [v] ∨ s ∈ o := fun s h => by
    rcases h with h | h
    · exact Or.inl (List.mem_append_left _ h)
    · rcases List.mem_append.1 h with h | h
      · exact Or.inr h
      · exact Or.inl (List.mem_append_right _ h)
  have vfin : ∀ s, EdgeR R n v s → s ∈ p ++ [v] ∨ s ∈ o := fun s hs => by
    obtain ⟨h1, h2⟩ := I.nxt v (by simp)
    obtain ⟨k, hk3, e⟩ := List.mem_iff_getElem.1 hs.2.2
    refine h2 k (by omega) s hs.2.1 ?_
    unfold at0
    rw [List.getElem?_eq_getElem hk3, e]
    rfl
  refine ⟨fun x hx => ?_, fun x hx => I.lt x (mv2 x hx), ?_, fun i h => ?_, fun x hx s hs => ?_, fun x hx => ?_, I.zero, fun i h j hj s hs hn => ?_⟩
  · rw [I.seen x hx]
    exact ⟨mv x, mv2 x⟩
  · have h1 := I.nd
    rw [List.append_assoc, List.nodup_append] at h1
    rw [List.nodup_append]
    refine ⟨h1.1, ?_, fun a ha b hb => ?_⟩
    · have h2 := h1.2.1
      rw [List.singleton_append, List.nodup_cons] at h2
      rw [List.nodup_append]
      refine ⟨h2.2, by simp, fun a ha b hb => ?_⟩
      simp at hb
      subst hb
      exact fun c => h2.1 (c ▸ ha)
    · refine h1.2.2 a ha b ?_
      rcases List.mem_append.1 hb with hb | hb
      · exact List.mem_append_right _ hb
      · exact List.mem_append_left _ hb
  · have h2 := I.ch i (by simp; omega)
    rw [List.getElem_append_left (by omega), List.getElem_append_left h] at h2
    exact h2
  · rcases List.mem_append.1 hx with hx | hx
    · exact mv s (I.fin x hx s hs)
    · simp at hx
      subst hx
      exact mv s (vfin s hs)
  · obtain ⟨h1, h2⟩ := I.nxt x (List.mem_append_left _ hx)
    exact ⟨h1, fun k hk s hs e => mv s (h2 k hk s hs e)⟩
  · by_cases c : i < o.length
    · rw [List.getElem_append_left (by omega)] at hs
      rw [List.getElem_append_left c]
      refine I.K i c j hj s hs ?_
      rw [List.take_append_of_le_length (by omega)] at hn
      exact hn
    · have e : i = o.length := by simp at h; omega
      subst e
      rw [List.getElem_append_right (by omega)]
      simp only [Nat.sub_self, List.getElem_cons_zero]
      rw [List.take_of_length_le (by simp)] at hn
      have hin : s ∈ p ++ [v] ∨ s ∈ o := by
        by_cases c2 : j < o.length
        · rw [List.getElem_append_left c2] at hs
          exact I.fin _ (List.getElem_mem c2) s hs
        · rw [List.getElem_append_right (by omega)] at hs
          have e2 : j - o.length = 0 := by omega
          simp only [e2, List.getElem_cons_zero] at hs
          exact vfin s hs
      rcases hin with h1 | h1
      · obtain ⟨a, ha, rfl⟩ := List.mem_iff_getElem.1 h1
        have hl : (p ++ [v]).length = p.length + 1 := by simp
        have h3 := chain_rch I.ch (p.length - a) a (by omega)
        have e3 : a + (p.length - a) = p.length := by omega
        simp only [e3] at h3
        rw [List.getElem_append_right (Nat.le_refl _)] at h3
        simp only [Nat.sub_self, List.getElem_cons_zero] at h3
        exact h3
      · exact absurd (List.mem_append_left _ h1) hn
/-- the order at the end -/
structure FinO (R : Nat → List Int) (n : Nat) (o : List Nat) : Prop where
  all : ∀ v, v < n → v ∈ o
  lt : ∀ v, v ∈ o → v < n
  nd : o.Nodup
  K : ∀ i (h : i < o.length), ∀ j (hj : j ≤ i), ∀ s, EdgeR R n (o[j]'(by omega)) s → s ∉ o.take (i + 1) → RchR R n s o[i]
theorem dfs_end {R : Nat → List Int} {n : Nat} {o : List Nat} {nx : Nat → Nat} {sn : Nat → Bool} (I : DfsI R n [] o nx sn) (h : ∀ v, v < n → sn v = true) : FinO R n o where
  all := fun v hv => by
    rcases (I.seen v hv).1 (h v hv) with h1 | h1
    · cases h1
    · exact h1
  lt := fun v hv => I.lt v (Or.inr hv)
  nd := I.nd
  K := I.K
theorem last_of (P : Nat → Prop) : ∀ (n : Nat), (∃ k, k < n ∧ P k) → ∃ m, m < n ∧ P m ∧ ∀ k, m < k → k < n → ¬ P k
  | 0, ⟨k, hk, _⟩ => absurd hk (by omega)
  | n + 1, ⟨k, hk, hp⟩ => by
    by_cases h : P n
    · exact ⟨n, by omega, h, fun j h1 h2 => by omega⟩
    · obtain ⟨m, h1, h2, h3⟩ := last_of P n ⟨k, by
        have : k ≠ n := fun c => h (c ▸ hp)
        omega, hp⟩
      refine ⟨m, by omega, h2, fun j h4 h5 => ?_⟩
      by_cases c : j = n
      · subst c; exact h
      · exact h3 j h4 (by omega)
theorem nd_inj {o : List Nat} (hn : o.Nodup) {i j : Nat} {hi : i < o.length} {hj : j < o.length} (e : o[i] = o[j]) : i = j := by
  have h := List.pairwise_iff_getElem.1 hn
  rcases Nat.lt_trichotomy i j with c | c | c
  · exact absurd e (h i j hi hj c)
  · exact c
  · exact absurd e.symm (h j i hj hi c)
theorem mem_take_of {o : List Nat} (hn : o.Nodup) {i m : Nat} (hi : i < o.length) (h : o[i] ∈ o.take (m + 1)) : i ≤ m := by
  obtain ⟨a, ha, e⟩ := List.mem_iff_getElem.1 h
  rw [List.getElem_take] at e
  have h1 : a < o.length := by simp at ha; omega
  have : a = i := nd_inj hn e
  simp at ha; omega
/-- who reaches r but is not reached by it has in its component a vertex that is left later than r -/
theorem fin_later {R : Nat → List Int} {n : Nat} {o : List Nat} (F : FinO R n o) {x : Nat} (hx : x < n) {i : Nat} (hi : i < o.length) (h : RchR R n x o[i]) (h2 : ¬ RchR R n o[i] x) : ∃ k, ∃ hk : k < o.length, i < k ∧ MutR R n x o[k] := by
  obtain ⟨ix, hix, ex⟩ := List.mem_iff_getElem.1 (F.all x hx)
  obtain ⟨m, hm, ⟨hm2, hmut⟩, hmax⟩ := last_of (fun k => ∃ hk : k < o.length, MutR R n x o[k]) o.length ⟨ix, hix, hix, by rw [ex]; exact MutR.refl R n x⟩
  rcases Nat.lt_trichotomy i m with c | c | c
  · exact ⟨m, hm, c, hmut⟩
  · subst c
    exact absurd hmut.2 h2
  · exfalso
    have hMr : RchR R n o[m] o[i] := hmut.2.trans h
    have hne : o[m] ≠ o[i] := fun e => by
      have := nd_inj F.nd e
      omega
    have hP : PathR R n o[m] o[i] := hMr.resolve_left hne
    have key : ∀ b, PathR R n o[m] b → b ∉ o.take (m + 1) → ∃ p s, EdgeR R n p s ∧ p ∈ o.take (m + 1) ∧ s ∉ o.take (m + 1) ∧ RchR R n o[m] p := by
      intro b hb
      have hself : o[m] ∈ o.take (m + 1) := by
        rw [List.mem_iff_getElem]
        exact ⟨m, by simp; omega, by rw [List.getElem_take]⟩
      induction hb with
      | single h => exact fun hn => ⟨_, _, h, hself, hn, Or.inl rfl⟩
      | @tail y z hy h ih =>
        intro hn
        by_cases c2 : y ∈ o.take (m + 1)
        · exact ⟨y, z, h, c2, hn, Or.inr hy⟩
        · exact ih c2
    have hri : o[i] ∉ o.take (m + 1) := fun c2 => by have := mem_take_of F.nd hi c2; omega
    obtain ⟨p, s, hE, hp, hs, hMp⟩ := key _ hP hri
    obtain ⟨j, hj, ej⟩ := List.mem_iff_getElem.1 hp
    rw [List.getElem_take] at ej
    have hjm : j ≤ m := by simp at hj; omega
    have hK := F.K m hm j hjm s (by rw [ej]; exact hE) hs
    have hMs : MutR R n o[m] s := ⟨hMp.trans (RchR.edge hE), hK⟩
    obtain ⟨k, hk, ek⟩ := List.mem_iff_getElem.1 (F.all s hE.2.1)
    have hkm : m < k := by
      rcases Nat.lt_or_ge m k with c3 | c3
      · exact c3
      · refine absurd ?_ hs
        rw [List.mem_iff_getElem]
        exact ⟨k, by simp; omega, by rw [List.getElem_take]; exact ek⟩
    exact hmax k hkm hk ⟨hk, by rw [ek]; exact hmut.trans hMs⟩
end Go.Proofs.Ytdfljeonoallfaa
