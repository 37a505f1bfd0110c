/- Classes of nets: what clusters hold. -/
import Derived.Test.YtlbcdnobpnllkaaKQ
import Derived.Test.YtlbcdnobpnllkaaKW
namespace Go.Proofs.Ytlbcdnobpnllkaa
open Go.RowKit Go.Deep

theorem asc_ext : ∀ {a b : List Int}, a.Pairwise (· < ·) → b.Pairwise (· < ·) → (∀ x, x ∈ a ↔ x ∈ b) → a = b
  | [], [], _, _, _ => rfl
  | [], y :: b, _, _, h => absurd ((h y).2 (List.mem_cons_self ..)) (by simp)
  | x :: a, [], _, _, h => absurd ((h x).1 (List.mem_cons_self ..)) (by simp)
  | x :: a, y :: b, h1, h2, h => by
    have a1 := List.pairwise_cons.1 h1
    have b1 := List.pairwise_cons.1 h2
    have e : x = y := by
      rcases List.mem_cons.1 ((h x).1 (List.mem_cons_self ..)) with e | e
      · exact e
      · rcases List.mem_cons.1 ((h y).2 (List.mem_cons_self ..)) with f | f
        · exact f.symm
        · have := b1.1 x e
          have := a1.1 y f
          omega
    subst e
    rw [asc_ext a1.2 b1.2 fun z => ?_]
    constructor
    · intro hz
      rcases List.mem_cons.1 ((h z).1 (List.mem_cons_of_mem _ hz)) with f | f
      · have := a1.1 z hz; omega
      · exact f
    · intro hz
      rcases List.mem_cons.1 ((h z).2 (List.mem_cons_of_mem _ hz)) with f | f
      · have := b1.1 z hz; omega
      · exact f
theorem arcs_asc {m : Nat} {l : List (Int × Int)} (h : arcsE m l = 0) : ∀ j k, j < k → k < l.length → aP l j < aP l k
  | j, 0, hjk, _ => absurd hjk (by omega)
  | j, k + 1, hjk, hk => by
    have h2 := (arcsE_parts h (k + 1) hk).2.2.1
    unfold prevP at h2
    rw [if_neg (by omega), Nat.add_sub_cancel] at h2
    by_cases e : j = k
    · rw [e]; exact h2
    · have := arcs_asc h j k (by omega) (by omega)
      omega
theorem targets_asc {m : Nat} {l : List (Int × Int)} (h : arcsE m l = 0) : (targetsV l).Pairwise (· < ·) := by
  rw [List.pairwise_iff_getElem]
  intro i j hi hj hij
  unfold targetsV at hi hj ⊢
  rw [List.length_map] at hi hj
  have := arcs_asc h i j hij hj
  unfold aP at this
  rw [List.getElem?_eq_getElem hi, List.getElem?_eq_getElem hj] at this
  rw [List.getElem_map, List.getElem_map]
  exact this
theorem clL_at {n : NetV} (h : okN n = true) {v : Nat} (hv : v < nodN n) : Dg.at0 (clL n) v = (Dg.cmpV (undV (clV n) (nodN n)) (nodN n) v : Int) := by
  unfold clL
  rw [if_pos h]
  exact Dg.tab_at _ _ v hv
theorem clL_ok {n : NetV} (h : okN n = true) : (clL n).length = nodN n := by
  unfold clL
  rw [if_pos h]
  exact Dg.tab_len _ _
theorem clL_no {n : NetV} (h : okN n = false) : clL n = [] := by unfold clL; rw [h]; rfl
theorem sp_least {n : NetV} (h : okN n = true) {v : Nat} (hv : v < nodN n) : ∃ m : Nat, Dg.at0 (clL n) v = (m : Int) ∧ m ≤ v ∧ Dg.at0 (clL n) m = (m : Int) := by
  have h1 := (Dg.cmp_spec (R := undV (clV n) (nodN n)) hv).1
  refine ⟨_, clL_at h hv, h1, ?_⟩
  rw [clL_at h (by omega), cmp_idem hv]
theorem in_pre {n : NetV} (h : okN n = true) {t : Nat} (ht : t < n.ts.length) (p : Nat) : ((p : Int) ∈ inputsN n t ↔ conF n.ts p t = true) ∧ inputsN n (t : Nat) = targetsV (tA n.ts t).pre.l := by
  have o := opp h ht p
  refine ⟨?_, ?_⟩
  · unfold conF
    rw [decide_eq_true_iff]
    exact decide_eq_decide.1 o.2.2.1
  · unfold inputsN
    rw [if_pos (isT_val.2 ⟨by omega, by omega, h⟩)]
    rfl
theorem cl_arc {n : NetV} (h : okN n = true) {t p : Nat} (ht : t < n.ts.length) (hp : p < n.ps.length) (hm : (p : Int) ∈ inputsN n t) : Dg.EdgeR (undV (clV n) (nodN n)) (nodN n) (n.ps.length + t) p := by
  refine und_edge.2 (Or.inl ⟨by unfold nodN; omega, by unfold nodN; omega, ?_⟩)
  unfold clV
  rw [if_neg (by omega), Nat.add_sub_cancel_left]
  exact hm
theorem sp_join {n : NetV} (h : okN n = true) {t i : Nat} (ht : t < n.ts.length) (hi : i < (tA n.ts t).pre.l.length) : ∃ p : Nat, aP (tA n.ts t).pre.l i = (p : Int) ∧ p < nodN n ∧ Dg.at0 (clL n) p = Dg.at0 (clL n) (n.ps.length + t) := by
  obtain ⟨_, _, _, _, _, h6⟩ := okN_parts h
  obtain ⟨_, _, _, _, _, a1, _, _⟩ := transE_parts (h6 t ht)
  obtain ⟨b1, b2, _⟩ := arcsE_parts a1 i hi
  obtain ⟨p, hp⟩ : ∃ p : Nat, aP (tA n.ts t).pre.l i = (p : Int) := ⟨(aP (tA n.ts t).pre.l i).toNat, by omega⟩
  have hpP : p < n.ps.length := by omega
  have hpN : p < nodN n := by unfold nodN; omega
  have htN : n.ps.length + t < nodN n := by unfold nodN; omega
  have hm : (p : Int) ∈ inputsN n t := by
    rw [(in_pre h ht p).2, ← hp]
    unfold targetsV aP
    rw [List.getElem?_eq_getElem hi]
    exact List.mem_map.2 ⟨_, List.getElem_mem hi, rfl⟩
  refine ⟨p, hp, hpN, ?_⟩
  rw [clL_at h hpN, clL_at h htN]
  have e := cl_arc h ht hpP hm
  have r : Dg.RchR (undV (clV n) (nodN n)) (nodN n) (n.ps.length + t) p := Or.inr (.single e)
  rw [(Dg.cmp_eq hpN htN).2 ⟨rch_sym (fun _ _ => und_sym) r, r⟩]
theorem free_same {n : NetV} (h : okN n = true) (hf : fcN n = true) {s u p : Nat} (hs : s < n.ts.length) (hu : u < n.ts.length) (hp : p < n.ps.length) (h1 : (p : Int) ∈ inputsN n s) (h2 : (p : Int) ∈ inputsN n u) {q : Nat} (hq : q < n.ps.length) (hm : (q : Int) ∈ inputsN n u) : (q : Int) ∈ inputsN n s := by
  obtain ⟨_, _, hv⟩ := class_parts (show (okN n && plainN n && ordinaryN n && relV n eqL) = true from hf)
  rw [fc_eq h] at hv
  have hr := rf_iff.1 hv p q hp hq (meet_iff.2 ⟨u, hu, (in_pre h hu p).1.1 h2, (in_pre h hu q).1.1 hm⟩)
  exact (in_pre h hs q).1.2 (nout_iff.1 hr s hs ((in_pre h hs p).1.1 h1))
theorem inp_nat {n : NetV} (h : okN n = true) {t : Nat} (ht : t < n.ts.length) {x : Int} (hx : x ∈ inputsN n t) : ∃ p : Nat, x = (p : Int) ∧ p < n.ps.length := by
  obtain ⟨j, hj, ex⟩ := at0_of hx
  obtain ⟨p, hp, hlt, _⟩ := inputs_at h ht hj
  exact ⟨p, by rw [← ex, hp], hlt⟩
theorem free_eq {n : NetV} (h : okN n = true) (hf : fcN n = true) {s u p : Nat} (hs : s < n.ts.length) (hu : u < n.ts.length) (hp : p < n.ps.length) (h1 : (p : Int) ∈ inputsN n s) (h2 : (p : Int) ∈ inputsN n u) : inputsN n s = inputsN n u := by
  obtain ⟨_, _, _, _, _, h6⟩ := okN_parts h
  obtain ⟨_, _, _, _, _, a1, _, _⟩ := transE_parts (h6 s hs)
  obtain ⟨_, _, _, _, _, a2, _, _⟩ := transE_parts (h6 u hu)
  refine asc_ext (by rw [(in_pre h hs 0).2]; exact targets_asc a1) (by rw [(in_pre h hu 0).2]; exact targets_asc a2) fun x => ⟨fun hx => ?_, fun hx => ?_⟩
  · obtain ⟨q, rfl, hq⟩ := inp_nat h hs hx
    exact free_same h hf hu hs hp h2 h1 hq hx
  · obtain ⟨q, rfl, hq⟩ := inp_nat h hu hx
    exact free_same h hf hs hu hp h1 h2 hq hx
/-- what a path from a transition meets in a free-choice net -/
def SpI (n : NetV) (u v : Nat) : Prop := (v < n.ps.length → (v : Int) ∈ inputsN n u) ∧ (n.ps.length ≤ v → inputsN n ((v - n.ps.length : Nat) : Int) = inputsN n u)
theorem sp_step {n : NetV} (h : okN n = true) (hf : fcN n = true) {u : Nat} (hu : u < n.ts.length) {a b : Nat} (ha : SpI n u a) (e : Dg.EdgeR (undV (clV n) (nodN n)) (nodN n) a b) : SpI n u b := by
  rcases und_edge.1 e with ⟨h1, h2, h3⟩ | ⟨h1, h2, h3⟩
  · unfold clV at h3
    by_cases q : a < n.ps.length
    · rw [if_pos q] at h3; exact absurd h3 (by simp)
    · rw [if_neg q, ha.2 (by omega)] at h3
      obtain ⟨p, ep, hp⟩ := inp_nat h hu h3
      exact ⟨fun _ => h3, fun hb => by omega⟩
  · unfold clV at h3
    by_cases q : b < n.ps.length
    · rw [if_pos q] at h3; exact absurd h3 (by simp)
    · rw [if_neg q] at h3
      have hb : b - n.ps.length < n.ts.length := by unfold nodN at h1; omega
      obtain ⟨p, ep, hp⟩ := inp_nat h hb h3
      have hap : a < n.ps.length := by omega
      exact ⟨fun hlt => absurd hlt q, fun _ => free_eq h hf hb hu hap h3 (ha.1 hap)⟩
theorem sp_path {n : NetV} (h : okN n = true) (hf : fcN n = true) {u : Nat} (hu : u < n.ts.length) {a b : Nat} (ha : SpI n u a) (p : Dg.PathR (undV (clV n) (nodN n)) (nodN n) a b) : SpI n u b := by
  induction p with
  | single e => exact sp_step h hf hu ha e
  | tail _ e ih => exact sp_step h hf hu ih e
theorem sp_same {n : NetV} (h : okN n = true) (hf : fcN n = true) {t u : Nat} (ht : t < n.ts.length) (hu : u < t) (e : Dg.at0 (clL n) (n.ps.length + u) = Dg.at0 (clL n) (n.ps.length + t)) : targetsV (tA n.ts u).pre.l = targetsV (tA n.ts t).pre.l := by
  have hu2 : u < n.ts.length := by omega
  have n1 : n.ps.length + u < nodN n := by unfold nodN; omega
  have n2 : n.ps.length + t < nodN n := by unfold nodN; omega
  rw [clL_at h n1, clL_at h n2] at e
  have m := (Dg.cmp_eq (R := undV (clV n) (nodN n)) n1 n2).1 (by omega)
  have start : SpI n u (n.ps.length + u) := ⟨fun hlt => absurd hlt (by omega), fun _ => by rw [Nat.add_sub_cancel_left]⟩
  have fin : SpI n u (n.ps.length + t) := m.1.elim (fun e => by rw [← e]; exact start) fun p => sp_path h hf hu2 start p
  have := fin.2 (by omega)
  rw [Nat.add_sub_cancel_left, (in_pre h ht 0).2, (in_pre h hu2 0).2] at this
  exact this.symm
end Go.Proofs.Ytlbcdnobpnllkaa
