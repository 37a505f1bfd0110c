/- Runs of a net by weights: what a run is, as mathematics. -/
import Derived.Test.YtpfkkjgklhcejaaSX
namespace Go.Proofs.Ytpfkkjgklhcejaa
open Go.RowKit

theorem lastM_cons (m : List Int) (x : Nat × List Int) (h : Hist) : lastM m (x :: h) = lastM x.2 h := by
  unfold lastM
  cases h with
  | nil => simp
  | cons y r =>
    rw [List.getLast?_cons_cons]
    cases e : (y :: r).getLast? with
    | none => simp at e
    | some z => rfl
theorem seqT_cons (x : Nat × List Int) (h : Hist) : seqT (x :: h) = (x.1 : Int) :: seqT h := rfl
theorem sim_facts {n : NetV} {ws : List Int} (hw : okW ws = true) (hl : ws.length = n.ts.length) : ∀ (k : Nat) (m : List Int) (s : Nat) (r : Hist × Nat), goodN n m = true → simR n ws k m s = some r →
    r.1.length ≤ k ∧ (∀ x ∈ r.1, x.1 < n.ts.length ∧ 1 ≤ at0 ws x.1) ∧ goodN n (lastM m r.1) = true ∧ (∀ i, runS n m (seqT r.1) i = (lastM m r.1, 0, 0)) ∧ (r.1.length < k → Rd.totR (posL n ws (lastM m r.1)) < 1)
  | 0, m, s, r, hg, h => by
    unfold simR at h
    injection h with h
    subst h
    exact ⟨Nat.le_refl _, by simp, hg, fun i => rfl, fun h => absurd h (Nat.not_lt_zero _)⟩
  | k + 1, m, s, r, hg, h => by
    unfold simR at h
    by_cases ht : Rd.totR (posL n ws m) < 1
    · rw [if_pos ht] at h
      injection h with h
      subst h
      exact ⟨Nat.zero_le _, by simp, hg, fun i => rfl, fun _ => ht⟩
    · rw [if_neg ht] at h
      obtain ⟨_, t1, t2, t3⟩ := tCh_may (s := s) hw hl ht
      cases ho : overB n m (tCh n ws m s)
      · rw [ho, if_neg (by decide)] at h
        obtain ⟨r2, h2, h3⟩ := Option.map_eq_some_iff.1 h
        obtain ⟨x1, x2⟩ := (fire_may hg t1 t2).1 ho
        have hg2 : goodN n (aftL n m (tCh n ws m s)) = true := by have := fire_goodN hg x1; rwa [x2] at this
        obtain ⟨a1, a2, a3, a4, a5⟩ := sim_facts hw hl k _ _ r2 hg2 h2
        subst h3
        refine ⟨by simp; omega, fun x hx => ?_, by rw [lastM_cons]; exact a3, fun i => ?_, fun hk => ?_⟩
        · rcases List.mem_cons.1 hx with rfl | hx
          · exact ⟨t1, t3⟩
          · exact a2 x hx
        · rw [lastM_cons, seqT_cons]
          unfold runS
          rw [if_pos x1, x2]
          exact a4 _
        · rw [lastM_cons]
          exact a5 (by simp at hk; omega)
      · rw [ho, if_pos rfl] at h
        cases h
theorem sumI_small : ∀ (l : List Int), Rd.okI l = true → Rd.sumI l < 1 → ∀ k, k < l.length → at0 l k ≤ 0
  | [], _, _, k, hk => absurd hk (by simp)
  | a :: l, h, hs, k, hk => by
    have h0 : (0 ≤ a ∧ a ≤ 1000) ∧ Rd.okI l = true := by
      unfold Rd.okI at h ⊢
      rw [List.all_cons, Bool.and_eq_true, decide_eq_true_eq] at h
      exact h
    have h1 := Rd.sumI_le l h0.2
    have h2 : a + Rd.sumI l < 1 := hs
    cases k with
    | zero => show a ≤ 0; omega
    | succ k => exact sumI_small l h0.2 (by omega) k (by simpa using hk)
theorem may_low {n : NetV} {ws m : List Int} (hw : okW ws = true) (hl : ws.length = n.ts.length) (h24 : n.ts.length ≤ 24) (hg : goodN n m = true) (h : Rd.totR (posL n ws m) < 1) (j : Nat) (hj : j < (listL n m).length) :
    ∃ t : Nat, at0 (listL n m) j = (t : Int) ∧ t < ws.length ∧ at0 ws t ≤ 0 := by
  have e : listL n m = firesV n m := if_pos hg
  rw [e] at hj ⊢
  obtain ⟨t, ht, et⟩ := at_fires hj
  refine ⟨t, et, by omega, ?_⟩
  rw [tot_sum hw (by omega)] at h
  have h1 := sumI_small _ (posL_ok hw) h t (by rw [posL_len]; omega)
  rw [posL_at _ _ _ _ (by omega), if_pos] at h1
  · exact h1
  · rw [← et]
    exact at0_mem hj
theorem may_in {n : NetV} {ws m : List Int} (hl : ws.length = n.ts.length) (hg : goodN n m = true) (j : Nat) (hj : j < (listL n m).length) : ∃ t : Nat, at0 (listL n m) j = (t : Int) ∧ t < ws.length := by
  have e : listL n m = firesV n m := if_pos hg
  rw [e] at hj ⊢
  obtain ⟨t, ht, et⟩ := at_fires hj
  exact ⟨t, et, by omega⟩
theorem listL_len (n : NetV) (m : List Int) (h24 : n.ts.length ≤ 24) : (listL n m).length ≤ 24 := by
  unfold listL
  split
  · exact Nat.le_trans (pickI_len _ _) h24
  · simp
theorem seqT_at {h : Hist} {j : Nat} (hj : j < h.length) : ∃ x ∈ h, at0 (seqT h) j = (x.1 : Int) := by
  refine ⟨h[j], List.getElem_mem hj, ?_⟩
  unfold seqT at0
  rw [List.getElem?_map, List.getElem?_eq_getElem hj]
  rfl
theorem runV_of {n : NetV} {m seq L : List Int} (hg : goodN n m = true) (h : ∀ i, runS n m seq i = (L, 0, 0)) : runV n m seq = (L, 0, 0) := by
  unfold runV
  rw [if_pos (errN_zero.2 hg)]
  exact h 0
end Go.Proofs.Ytpfkkjgklhcejaa
