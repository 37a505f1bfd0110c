/- Plain maths of the firing rule. -/
import Derived.Test.YtpfkkjgklhcejaaFV
namespace Go.Proofs.Ytpfkkjgklhcejaa
open Go.RowKit

theorem weightV_arc {m : Nat} {l : List (Int × Int)} (h : arcsE m l = 0) {k : Nat} (hk : k < l.length) : weightV l (aP l k) = aW l k :=
  weightV_at hk (fun j hj => by have := arcs_lt h hj hk; simp; omega) rfl
theorem weightV_cases {m : Nat} {l : List (Int × Int)} (h : arcsE m l = 0) (p : Int) : (weightV l p = 0 ∧ ∀ j, j < l.length → aP l j ≠ p) ∨ ∃ k, k < l.length ∧ aP l k = p ∧ weightV l p = aW l k ∧ 1 ≤ aW l k ∧ aW l k ≤ 99 := by
  rcases firstI_cases (fun j => decide (aP l j = p)) l.length with ⟨_, ha⟩ | ⟨k, hk, _, ht, ha⟩
  · exact .inl ⟨weightV_none ha, fun j hj => by simpa using ha j hj⟩
  · have e : aP l k = p := by simpa using ht
    have := arcsE_parts h k hk
    exact .inr ⟨k, hk, e, weightV_at hk ha e, this.2.2.2.1, this.2.2.2.2⟩
theorem weightV_bd {m : Nat} {l : List (Int × Int)} (h : arcsE m l = 0) (p : Int) : 0 ≤ weightV l p ∧ weightV l p ≤ 99 := by
  rcases weightV_cases h p with ⟨e, _⟩ | ⟨k, _, _, e, h1, h2⟩ <;> omega
/-- what an arc of one of the lists asks -/
def lowF (l : List (Int × Int)) (m : List Int) (j : Nat) : Bool := decide (at0 m (aP l j).toNat < aW l j)
def inhF (l : List (Int × Int)) (m : List Int) (j : Nat) : Bool := decide (aW l j ≤ at0 m (aP l j).toNat)
def aftV (x : TransV) (m : List Int) (p : Nat) : Int := at0 m p - weightV x.pre.l p + weightV x.post.l p
def capF (ps : List PlaceV) (x : TransV) (m : List Int) (p : Nat) : Bool := decide (0 < (pA ps p).cap ∧ (pA ps p).cap < aftV x m p)
def badP (ps : List PlaceV) (x : TransV) (m : List Int) (p : Nat) : Bool :=
  decide (at0 m p < weightV x.pre.l p) || (decide (0 < weightV x.inh.l p ∧ weightV x.inh.l p ≤ at0 m p) || capF ps x m p)
def readyB (n : NetV) (m : List Int) (t : Nat) : Bool := !anyB (badP n.ps (tA n.ts t) m) n.ps.length
def moreF (n : NetV) (m : List Int) (t o : Nat) : Bool := decide ((tA n.ts t).prio < (tA n.ts o).prio) && readyB n m o
def mayB (n : NetV) (m : List Int) (t : Nat) : Bool := readyB n m t && !anyB (moreF n m t) n.ts.length
theorem anyB_iff {f : Nat → Bool} {n : Nat} : anyB f n = true ↔ ∃ k, k < n ∧ f k = true := by
  constructor
  · intro h
    by_cases e : ∃ k, k < n ∧ f k = true
    · exact e
    · rw [anyB_no (fun j hj => by cases h : f j; rfl; exact absurd ⟨j, hj, h⟩ e)] at h
      cases h
  · rintro ⟨k, hk, h⟩
    exact anyB_yes hk h
theorem anyB_false {f : Nat → Bool} {n : Nat} : anyB f n = false ↔ ∀ k, k < n → f k = false := by
  constructor
  · intro h k hk
    cases e : f k
    · rfl
    · rw [anyB_yes hk e] at h; cases h
  · exact anyB_no
/-- arcs of a good net -/
structure ArcsOk (n : NetV) (x : TransV) : Prop where
  pre : arcsE n.ps.length x.pre.l = 0
  post : arcsE n.ps.length x.post.l = 0
  inh : arcsE n.ps.length x.inh.l = 0
theorem okN_arcs {n : NetV} (h : okN n = true) (t : Nat) (ht : t < n.ts.length) : ArcsOk n (tA n.ts t) := by
  have := transE_parts ((okN_parts h).2.2.2.2.2 t ht)
  exact ⟨this.2.2.2.2.2.1, this.2.2.2.2.2.2.1, this.2.2.2.2.2.2.2⟩
theorem okN_prio {n : NetV} (h : okN n = true) (t : Nat) (ht : t < n.ts.length) : 0 ≤ (tA n.ts t).prio ∧ (tA n.ts t).prio ≤ 9 := by
  have := transE_parts ((okN_parts h).2.2.2.2.2 t ht)
  exact ⟨this.2.2.2.1, this.2.2.2.2.1⟩
theorem okN_cap {n : NetV} (h : okN n = true) (p : Nat) (hp : p < n.ps.length) : 0 ≤ (pA n.ps p).cap ∧ (pA n.ps p).cap ≤ 1048576 := by
  have := (okN_parts h).2.2.2.2.1 p hp
  unfold placeE at this
  split at this
  · exact absurd this (by decide)
  · split at this
    · exact absurd this (by decide)
    · split at this
      · exact absurd this (by decide)
      · omega
/-- the program's way to ask whether a transition is enabled -/
theorem ready_low {n : NetV} {m : List Int} {t : Nat} (hx : ArcsOk n (tA n.ts t)) (h : anyB (lowF (tA n.ts t).pre.l m) (tA n.ts t).pre.l.length = true) : readyB n m t = false := by
  obtain ⟨k, hk, e⟩ := anyB_iff.1 h
  have a := arcsE_parts hx.pre k hk
  unfold readyB
  rw [anyB_yes (k := (aP (tA n.ts t).pre.l k).toNat) (by omega) ?_]
  · rfl
  · have e2 : ((aP (tA n.ts t).pre.l k).toNat : Int) = aP (tA n.ts t).pre.l k := Int.toNat_of_nonneg a.1
    unfold badP
    rw [e2, weightV_arc hx.pre hk]
    unfold lowF at e
    rw [e]
    rfl
theorem ready_inh {n : NetV} {m : List Int} {t : Nat} (hx : ArcsOk n (tA n.ts t)) (h : anyB (inhF (tA n.ts t).inh.l m) (tA n.ts t).inh.l.length = true) : readyB n m t = false := by
  obtain ⟨k, hk, e⟩ := anyB_iff.1 h
  have a := arcsE_parts hx.inh k hk
  unfold readyB
  rw [anyB_yes (k := (aP (tA n.ts t).inh.l k).toNat) (by omega) ?_]
  · rfl
  · have e2 : ((aP (tA n.ts t).inh.l k).toNat : Int) = aP (tA n.ts t).inh.l k := Int.toNat_of_nonneg a.1
    unfold badP
    rw [e2, weightV_arc hx.inh hk]
    unfold inhF at e
    have e := of_decide_eq_true e
    rw [decide_eq_true (p := 0 < aW (tA n.ts t).inh.l k ∧ aW (tA n.ts t).inh.l k ≤ _) ⟨by omega, e⟩]
    simp
theorem ready_cap {n : NetV} {m : List Int} {t p : Nat} (hp : p < n.ps.length) (h : capF n.ps (tA n.ts t) m p = true) : readyB n m t = false := by
  unfold readyB
  rw [anyB_yes hp ?_]
  · rfl
  · unfold badP
    rw [h]
    simp
theorem natL_at {m : List Int} (h : natL m = true) (k : Nat) : 0 ≤ at0 m k ∧ at0 m k ≤ 1048576 := by
  by_cases hk : k < m.length
  · have := allB_iff.1 h k hk
    exact of_decide_eq_true this
  · unfold at0
    rw [List.getElem?_eq_none (by omega)]
    simp
theorem ready_yes {n : NetV} {m : List Int} {t : Nat} (hm : natL m = true) (hx : ArcsOk n (tA n.ts t)) (h1 : anyB (lowF (tA n.ts t).pre.l m) (tA n.ts t).pre.l.length = false)
    (h2 : anyB (inhF (tA n.ts t).inh.l m) (tA n.ts t).inh.l.length = false) (h3 : ∀ p, p < n.ps.length → capF n.ps (tA n.ts t) m p = false) : readyB n m t = true := by
  unfold readyB
  rw [anyB_no (f := badP n.ps (tA n.ts t) m) ?_]
  · rfl
  · intro p hp
    unfold badP
    rw [h3 p hp]
    have hn := natL_at hm p
    have c1 : ¬ at0 m p < weightV (tA n.ts t).pre.l p := fun c => by
      rcases weightV_cases hx.pre p with ⟨e, _⟩ | ⟨k, hk, e1, e2, _, _⟩
      · omega
      · have := anyB_false.1 h1 k hk
        unfold lowF at this
        have e3 : (aP (tA n.ts t).pre.l k).toNat = p := by omega
        rw [e3] at this
        have := of_decide_eq_false this
        omega
    have c2 : ¬ (0 < weightV (tA n.ts t).inh.l p ∧ weightV (tA n.ts t).inh.l p ≤ at0 m p) := fun c => by
      rcases weightV_cases hx.inh p with ⟨e, _⟩ | ⟨k, hk, e1, e2, _, _⟩
      · omega
      · have := anyB_false.1 h2 k hk
        unfold inhF at this
        have e3 : (aP (tA n.ts t).inh.l k).toNat = p := by omega
        rw [e3] at this
        have := of_decide_eq_false this
        omega
    rw [decide_eq_false c1, decide_eq_false c2]
    rfl
/-! what the iterator yields -/
def chgL (x : TransV) : List (Int × Int) := (x.pre.l.map fun a => (a.1, -a.2)) ++ x.post.l
def chgAt (m : List Int) (pre : List (Int × Int)) (p : Nat) : Int := at0 m p + (pre.map fun a => if a.1 = (p : Int) then a.2 else 0).sum
theorem chgAt_nil (m : List Int) (p : Nat) : chgAt m [] p = at0 m p := by simp [chgAt]
theorem chgAt_snoc (m : List Int) (pre : List (Int × Int)) (a : Int × Int) (p : Nat) : chgAt m (pre ++ [a]) p = chgAt m pre p + if a.1 = (p : Int) then a.2 else 0 := by
  simp [chgAt]; omega
theorem sumW_map : ∀ (l : List (Int × Int)) (p : Nat), (l.map fun a => if a.1 = (p : Int) then a.2 else 0).sum = sumW l p l.length := by
  intro l p
  have key : ∀ k, k ≤ l.length → ((l.take k).map fun a => if a.1 = (p : Int) then a.2 else 0).sum = sumW l p k := by
    intro k
    induction k with
    | zero => intro _; simp [sumW]
    | succ k ih =>
      intro hk
      rw [List.take_succ_eq_append_getElem (by omega), List.map_append, List.sum_append, ih (by omega), sumW]
      have e1 : aP l k = l[k].1 := by simp [aP, List.getElem?_eq_getElem (show k < l.length by omega)]
      have e2 : aW l k = l[k].2 := by simp [aW, List.getElem?_eq_getElem (show k < l.length by omega)]
      rw [e1, e2]
      simp
  have := key l.length (Nat.le_refl _)
  rwa [List.take_length] at this
theorem chgAt_all {n : NetV} {x : TransV} (hx : ArcsOk n x) (m : List Int) (p : Nat) : chgAt m (chgL x) p = aftV x m p := by
  unfold chgAt chgL aftV
  rw [List.map_append, List.sum_append, sumW_map x.post.l, sumW_all hx.post]
  have e : ((x.pre.l.map fun a => (a.1, -a.2)).map fun a => if a.1 = (p : Int) then a.2 else 0).sum = - (x.pre.l.map fun a => if a.1 = (p : Int) then a.2 else 0).sum := by
    generalize x.pre.l = l
    induction l with
    | nil => rfl
    | cons a r ih =>
      simp only [List.map_cons, List.sum_cons] at ih ⊢
      rw [ih]
      split <;> omega
  rw [e, sumW_map, sumW_all hx.pre]
  omega
/-! the transitions that may fire -/
def mostK (n : NetV) (m : List Int) : Nat → Int
  | 0 => 0
  | k + 1 => if readyB n m k = true then max (mostK n m k) (tA n.ts k).prio else mostK n m k
def firesV (n : NetV) (m : List Int) : List Int := pickI (mayB n m) n.ts.length
theorem mostK_ge {n : NetV} {m : List Int} : ∀ k j, j < k → readyB n m j = true → (tA n.ts j).prio ≤ mostK n m k
  | 0, _, h, _ => absurd h (by omega)
  | k + 1, j, h, e => by
    by_cases hj : j = k
    · subst hj
      rw [mostK, if_pos e]
      omega
    · have := mostK_ge k j (by omega) e
      rw [mostK]
      split <;> omega
theorem mostK_at {n : NetV} {m : List Int} : ∀ k, mostK n m k = 0 ∨ ∃ j, j < k ∧ readyB n m j = true ∧ mostK n m k = (tA n.ts j).prio
  | 0 => .inl rfl
  | k + 1 => by
    rw [mostK]
    by_cases e : readyB n m k = true
    · rw [if_pos e]
      by_cases h : mostK n m k ≤ (tA n.ts k).prio
      · exact .inr ⟨k, by omega, e, by omega⟩
      · rcases mostK_at (n := n) (m := m) k with h1 | ⟨j, h1, h2, h3⟩
        · exact .inl (by omega)
        · exact .inr ⟨j, by omega, h2, by omega⟩
    · rw [if_neg e]
      rcases mostK_at (n := n) (m := m) k with h1 | ⟨j, h1, h2, h3⟩
      · exact .inl h1
      · exact .inr ⟨j, by omega, h2, h3⟩
theorem may_most {n : NetV} (h : okN n = true) {m : List Int} {t : Nat} (ht : t < n.ts.length) (hr : readyB n m t = true) : mayB n m t = decide ((tA n.ts t).prio = mostK n m n.ts.length) := by
  have g := mostK_ge (n := n) (m := m) n.ts.length t ht hr
  have hp := okN_prio h t ht
  unfold mayB
  rw [hr, Bool.true_and]
  by_cases e : (tA n.ts t).prio = mostK n m n.ts.length
  · rw [decide_eq_true e, anyB_no fun o ho => ?_]
    · rfl
    · unfold moreF
      cases hro : readyB n m o
      · simp
      · have := mostK_ge (n := n) (m := m) n.ts.length o ho hro
        rw [decide_eq_false (by omega)]
        rfl
  · rw [decide_eq_false e]
    rcases mostK_at (n := n) (m := m) n.ts.length with h1 | ⟨j, h1, h2, h3⟩
    · omega
    · rw [anyB_yes h1 (by unfold moreF; rw [h2, decide_eq_true (by omega)]; rfl)]
      rfl
theorem pickI_eq (f : Nat → Bool) (n : Nat) : pickI f n = ((List.range n).filter f).map (fun (k : Nat) => (k : Int)) := rfl
theorem fires_filter {n : NetV} (h : okN n = true) (m : List Int) : (pickI (readyB n m) n.ts.length).filter (fun v => decide ((tA n.ts v.toNat).prio = mostK n m n.ts.length)) = firesV n m := by
  unfold firesV
  rw [pickI_eq, pickI_eq, List.filter_map, List.filter_filter]
  congr 1
  refine List.filter_congr fun k hk => ?_
  have hk := List.mem_range.1 hk
  simp only [Function.comp, Int.toNat_natCast]
  cases hr : readyB n m k
  · unfold mayB; rw [hr]; simp
  · rw [may_most h hk hr]; simp
theorem mem_fires {n : NetV} {m : List Int} {t : Int} : t ∈ firesV n m ↔ 0 ≤ t ∧ t < n.ts.length ∧ mayB n m t.toNat = true := by
  unfold firesV
  rw [pickI_eq, List.mem_map]
  constructor
  · rintro ⟨k, hk, rfl⟩
    obtain ⟨h1, h2⟩ := List.mem_filter.1 hk
    have := List.mem_range.1 h1
    exact ⟨by omega, by omega, by simpa using h2⟩
  · rintro ⟨h1, h2, h3⟩
    exact ⟨t.toNat, List.mem_filter.2 ⟨List.mem_range.2 (by omega), h3⟩, by omega⟩
end Go.Proofs.Ytpfkkjgklhcejaa
