/- Classes of nets: connected and strongly connected, both ways. -/
import Derived.Test.YtlbcdnobpnllkaaKH
import Derived.Test.YtlbcdnobpnllkaaOA2
namespace Go.Proofs.Ytlbcdnobpnllkaa
open Go.RowKit Go.Deep

theorem arcs_at {m : Nat} {l : List (Int × Int)} (h : arcsE m l = 0) : ∀ j, j < l.length → (j : Int) ≤ aP l j
  | 0, hj => by have := (arcsE_parts h 0 hj).1; omega
  | j + 1, hj => by
    have h1 := arcs_at h j (by omega)
    have h2 := (arcsE_parts h (j + 1) hj).2.2.1
    unfold prevP at h2
    rw [if_neg (by omega), Nat.add_sub_cancel] at h2
    omega
theorem arcs_len {m : Nat} {l : List (Int × Int)} (h : arcsE m l = 0) : l.length ≤ m := by
  by_cases c : l.length = 0
  · omega
  · have h1 := arcs_at h (l.length - 1) (by omega)
    have h2 := (arcsE_parts h (l.length - 1) (by omega)).2.1
    omega
theorem flow_24 {n : NetV} (h : okN n = true) {v : Nat} (hv : v < nodN n) : (flowV n v).length ≤ 24 := by
  obtain ⟨_, _, h3, h4, _, h6⟩ := okN_parts h
  unfold nodN at hv
  unfold flowV
  by_cases c : v < n.ps.length
  · rw [if_pos c]
    unfold shP consumersN
    rw [List.length_map, if_pos h]
    exact Nat.le_trans (pickI_len _ _) h4
  · rw [if_neg c]
    unfold outputsN
    rw [if_pos (isT_val.2 ⟨by omega, by omega, h⟩)]
    have e : ((v - n.ps.length : Nat) : Int).toNat = v - n.ps.length := by omega
    rw [e]
    obtain ⟨_, _, _, _, _, _, a2, _⟩ := transE_parts (h6 (v - n.ps.length) (by omega))
    unfold targetsV
    rw [List.length_map]
    exact Nat.le_trans (arcs_len a2) h3
/- symmetric graphs -/
theorem rev_mem {R : Nat → List Int} {n u v : Nat} (hu : u < n) : (u : Int) ∈ Dg.revV R n v ↔ (v : Int) ∈ R u := by
  unfold Dg.revV Dg.pickI
  rw [List.mem_map]
  constructor
  · rintro ⟨k, hk, e⟩
    have : k = u := by omega
    subst this
    have := (List.mem_filter.1 hk).2
    simpa using this
  · intro h
    exact ⟨u, List.mem_filter.2 ⟨List.mem_range.2 hu, by simpa using h⟩, rfl⟩
theorem und_edge {R : Nat → List Int} {n u v : Nat} : Dg.EdgeR (undV R n) n u v ↔ Dg.EdgeR R n u v ∨ Dg.EdgeR R n v u := by
  unfold Dg.EdgeR undV
  constructor
  · rintro ⟨h1, h2, h3⟩
    rcases List.mem_append.1 h3 with h | h
    · exact Or.inr ⟨h2, h1, (rev_mem h2).1 h⟩
    · exact Or.inl ⟨h1, h2, h⟩
  · rintro (⟨h1, h2, h3⟩ | ⟨h1, h2, h3⟩)
    · exact ⟨h1, h2, List.mem_append_right _ h3⟩
    · exact ⟨h2, h1, List.mem_append_left _ ((rev_mem h1).2 h3)⟩
theorem both_edge {R : Nat → List Int} {n u v : Nat} : Dg.EdgeR (bothV R n) n u v ↔ Dg.EdgeR R n u v ∨ Dg.EdgeR R n v u := by
  unfold Dg.EdgeR bothV
  constructor
  · rintro ⟨h1, h2, h3⟩
    rcases List.mem_append.1 h3 with h | h
    · exact Or.inl ⟨h1, h2, h⟩
    · exact Or.inr ⟨h2, h1, (rev_mem h2).1 h⟩
  · rintro (⟨h1, h2, h3⟩ | ⟨h1, h2, h3⟩)
    · exact ⟨h1, h2, List.mem_append_left _ h3⟩
    · exact ⟨h2, h1, List.mem_append_right _ ((rev_mem h1).2 h3)⟩
theorem path_mono {R S : Nat → List Int} {n u v : Nat} (h : ∀ a b, Dg.EdgeR R n a b → Dg.EdgeR S n a b) (p : Dg.PathR R n u v) : Dg.PathR S n u v := by
  induction p with
  | single e => exact .single (h _ _ e)
  | tail _ e ih => exact .tail ih (h _ _ e)
theorem path_sym {R : Nat → List Int} {n u v : Nat} (h : ∀ a b, Dg.EdgeR R n a b → Dg.EdgeR R n b a) (p : Dg.PathR R n u v) : Dg.PathR R n v u := by
  induction p with
  | single e => exact .single (h _ _ e)
  | tail _ e ih => exact Dg.path_head (h _ _ e) ih
theorem rch_sym {R : Nat → List Int} {n u v : Nat} (h : ∀ a b, Dg.EdgeR R n a b → Dg.EdgeR R n b a) (p : Dg.RchR R n u v) : Dg.RchR R n v u := p.elim (fun e => Or.inl e.symm) fun p => Or.inr (path_sym h p)
theorem rch_mono {R S : Nat → List Int} {n u v : Nat} (h : ∀ a b, Dg.EdgeR R n a b → Dg.EdgeR S n a b) (p : Dg.RchR R n u v) : Dg.RchR S n u v := p.imp id (path_mono h)
theorem und_sym {R : Nat → List Int} {n a b : Nat} (h : Dg.EdgeR (undV R n) n a b) : Dg.EdgeR (undV R n) n b a := und_edge.2 (und_edge.1 h).symm
theorem both_sym {R : Nat → List Int} {n a b : Nat} (h : Dg.EdgeR (bothV R n) n a b) : Dg.EdgeR (bothV R n) n b a := both_edge.2 (both_edge.1 h).symm
theorem und_both {R : Nat → List Int} {n u v : Nat} : Dg.RchR (undV R n) n u v ↔ Dg.RchR (bothV R n) n u v :=
  ⟨rch_mono fun _ _ h => both_edge.2 (und_edge.1 h), rch_mono fun _ _ h => und_edge.2 (both_edge.1 h)⟩
theorem both_mut {R : Nat → List Int} {n u v : Nat} : Dg.MutR (bothV R n) n u v ↔ Dg.RchR (bothV R n) n u v := ⟨fun h => h.1, fun h => ⟨h, rch_sym (fun _ _ => both_sym) h⟩⟩
def oneV (R : Nat → List Int) (n : Nat) : Bool := decide (0 < n) && !anyB (fun j => !decide (Dg.at0 (Dg.tab n fun v => (Dg.cmpV R n v : Int)) j = 0)) n
theorem one_iff {R : Nat → List Int} {n : Nat} (hn : 0 < n) : oneV R n = true ↔ ∀ j, j < n → Dg.cmpV R n j = 0 := by
  unfold oneV
  rw [decide_eq_true hn, Bool.true_and]
  constructor
  · intro h j hj
    by_cases c : Dg.cmpV R n j = 0
    · exact c
    · rw [anyB_yes hj (by rw [Dg.tab_at n _ j hj, decide_eq_false (by omega)]; rfl)] at h
      cases h
  · intro h
    rw [anyB_no fun j hj => by rw [Dg.tab_at n _ j hj, h j hj]; rfl]
    rfl
theorem con_iff (n : NetV) (hn : 0 < nodN n) : conV n = true ↔ ∀ j, j < nodN n → Dg.RchR (bothV (flowV n) (nodN n)) (nodN n) 0 j := by
  unfold conV
  generalize flowV n = R
  generalize nodN n = N at *
  have hl : (Dg.reachL (undV R N) N [0]).length = N := by unfold Dg.reachL; rw [Dg.dfsL_len]; simp
  have key : ∀ j, j < N → (Dg.atT (Dg.reachL (undV R N) N [0]) j = true ↔ Dg.RchR (bothV R N) N 0 j) := fun j hj => by
    rw [← und_both]
    refine (Dg.reach_iff hj).trans ⟨?_, fun h => ⟨0, by simp, by omega, by omega, ?_⟩⟩
    · rintro ⟨x, hx, h0, h1, h2⟩
      have : x = 0 := by simpa using hx
      subst this
      exact h2
    · exact h
  constructor
  · intro h j hj
    refine (key j hj).1 ?_
    cases e : Dg.atT (Dg.reachL (undV R N) N [0]) j
    · rw [Dg.allB_no j (by omega) e] at h; cases h
    · rfl
  · intro h
    exact Dg.allB_yes fun j hj => (key j (by omega)).2 (h j (by omega))
theorem cmp_zero {R : Nat → List Int} {n j : Nat} (hj : j < n) : Dg.cmpV R n j = 0 ↔ Dg.MutR R n j 0 := by
  have h0 : Dg.cmpV R n 0 = 0 := by have := (Dg.cmp_spec (R := R) (show 0 < n by omega)).1; omega
  rw [← Dg.cmp_eq hj (by omega), h0]
theorem con_one (n : NetV) (hn : 0 < nodN n) : conV n = oneV (bothV (flowV n) (nodN n)) (nodN n) := by
  have : conV n = true ↔ oneV (bothV (flowV n) (nodN n)) (nodN n) = true := by
    rw [con_iff n hn, one_iff hn]
    refine forall_congr' fun j => forall_congr' fun hj => ?_
    rw [cmp_zero hj, both_mut]
    exact ⟨rch_sym fun _ _ => both_sym, rch_sym fun _ _ => both_sym⟩
  cases a : conV n <;> cases b : oneV (bothV (flowV n) (nodN n)) (nodN n) <;> simp_all
theorem str_one (n : NetV) (hn : 0 < nodN n) : strV n = oneV (flowV n) (nodN n) := by
  unfold strV oneV
  rw [decide_eq_true hn, Bool.true_and]
  rfl
theorem one_nil (R : Nat → List Int) : oneV R 0 = false := rfl
theorem nod_pos {n : NetV} (h : okN n = true) : 0 < nodN n := by have := okN_parts h; unfold nodN; omega
theorem nod_48 {n : NetV} (h : okN n = true) : nodN n ≤ 48 := by have := okN_parts h; unfold nodN; omega
end Go.Proofs.Ytlbcdnobpnllkaa
