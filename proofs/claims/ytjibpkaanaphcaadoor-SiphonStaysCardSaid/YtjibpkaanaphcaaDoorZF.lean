/- Contracts: validity of markings and equality of lists. Plain maths of the firing rule. Contracts: the check of a net and a marking, the closures over arcs, by the program. Which transitions may fire: the program. A transition is enabled: the reference. Which transitions may fire: the reference. Enabled, May, List, Dead: the reference. -/
import Derived.Test.YtjibpkaanaphcaaDoorZG
import Derived.Test.YtjibpkaanaphcaaDoorSA
import Derived.Deep.Cut
import Derived.Deep.CutBlock
import Derived.Deep.RegionWith
import Derived.WalkMore
import Derived.Deep.DeepCutAuto
namespace Go.Proofs.YtjibpkaanaphcaaDoor
open Go.RowKit

def BPost (g : Nat) (w : World) (v : Bool) (e : Ending) (w' : World) : Prop := e = .returned (.bool v) ∧ Below g w w'
def allB (n : Nat) (p : Nat → Bool) : Bool := (List.range n).all p
theorem allB_no {n : Nat} {p : Nat → Bool} (k : Nat) (hk : k < n) (h : p k = false) : allB n p = false := by
  unfold allB
  rw [List.all_eq_false]
  exact ⟨k, List.mem_range.2 hk, by simp [h]⟩
theorem allB_yes {n : Nat} {p : Nat → Bool} (h : ∀ k, k < n → p k = true) : allB n p = true := by
  unfold allB
  rw [List.all_eq_true]
  exact fun k hk => h k (List.mem_range.1 hk)
theorem allB_iff {n : Nat} {p : Nat → Bool} : allB n p = true ↔ ∀ k, k < n → p k = true := by
  unfold allB
  rw [List.all_eq_true]
  exact ⟨fun h k hk => h k (List.mem_range.2 hk), fun h k hk => h k (List.mem_range.1 hk)⟩
def NatP (x : Int) : Prop := 0 ≤ x ∧ x ≤ 1048576
instance (x : Int) : Decidable (NatP x) := by unfold NatP; infer_instance
def natL (a : List Int) : Bool := allB a.length fun k => decide (NatP (at0 a k))
def validL (a : List Int) (n : Int) : Bool := decide ((a.length : Int) = n) && natL a
def leqL (a b : List Int) : Bool := decide (a.length = b.length) && allB a.length fun k => decide (at0 a k ≤ at0 b k)
def sameL (a b : List Int) : Bool := decide (a.length = b.length) && allB a.length fun k => decide (at0 a k = at0 b k)
theorem list_ext {a b : List Int} (hl : a.length = b.length) (h : ∀ k, k < a.length → at0 a k = at0 b k) : a = b := by
  apply List.ext_getElem hl
  intro i h1 h2
  have := h i h1
  simpa [at0, h1, h2] using this
theorem sameL_iff {a b : List Int} : sameL a b = true ↔ a = b := by
  unfold sameL
  rw [Bool.and_eq_true, decide_eq_true_eq, allB_iff]
  constructor
  · rintro ⟨hl, h⟩
    exact list_ext hl fun k hk => of_decide_eq_true (h k hk)
  · rintro rfl
    exact ⟨rfl, fun k _ => by simp⟩

def EqP (x y : Int) : Prop := x = y
set_option maxHeartbeats 1000000 in
theorem rvalid_law (A : Option Addr) (zs : List Int) (cap : Nat) (w : World) (hr : ReadsV w A zs) (hl : zs.length ≤ 9223372036854775807) :
    Calls Tryd.prog 29 #[.slice A zs.length cap, .int .i64 zs.length] w fun e w' => e = .returned (.bool (natL zs)) ∧ w = w' := by
  generalize hS : natL zs = S
  have HS := Lib.hid hS
  clear hS
  have HR := Lib.hid hr
  clear hr
  generalize hn : zs.length = n at *
  have HN := Lib.hid hn
  clear hn
  have e0 : (n != n) = false := by simp
  have e2 : (n == n) = true := by simp
  have e1 : ((n : Int) != (n : Int)) = false := by simp
  have e3 : ((n : Int) == (n : Int)) = true := by simp
  go_enter Tryd.func29, Tryd.ntmps29
  go_wp2
  go_loop [5] (fun q => ∃ k : Nat, k ≤ n ∧ q = .int .i64 k ∧ Hid (∀ j, j < k → NatP (at0 zs j))) (fun q => n - (intOf q).toNat)
  case atStart => exact ⟨0, by omega, rfl, fun j hj => absurd hj (by omega)⟩
  case round =>
    obtain ⟨k, hk, rfl, HM⟩ := hrel
    by_cases hlt : k < n
    · obtain ⟨b, off, rfl, hcx⟩ := at_of_reads HR.out k (by rw [HN.out]; exact hlt)
      have HF : Hid (¬ (NatP (at0 zs k)) → false = S) := by
        intro h
        rw [← HS.out]
        exact (allB_no k (by rw [HN.out]; exact hlt) (by rw [decide_eq_false_iff_not]; exact h)).symm
      have HT : Hid (NatP (at0 zs k) → ∀ j, j < k + 1 → NatP (at0 zs j)) := fun h j hj => by
        by_cases e : j < k
        · exact HM.out j e
        · obtain rfl : j = k := by omega
          exact h
      clear HM
      generalize at0 zs k = z at *
      unfold NatP at HF HT
      by_cases z1 : z < 0
      · have G := Lib.hid (HF.out (by omega))
        clear HT HF
        go_wp2
        go_ret
        exact ⟨ret_b G.out, rfl⟩
      · have z4 : 0 ≤ z := by omega
        by_cases z3 : 1048576 < z
        · have G := Lib.hid (HF.out (by omega))
          clear HT HF
          go_wp2
          go_ret
          exact ⟨ret_b G.out, rfl⟩
        · have z5 : z ≤ 1048576 := by omega
          clear z1 z3
          have G := Lib.hid (HT.out (by omega))
          clear HT HF
          go_wp2
          go_round
          case rel => exact ⟨k + 1, by omega, by go_num, G⟩
          case measure => simp [intOf]; omega
    · have E : Hid (true = S) := by
        show _ = _
        rw [← HS.out]
        refine (allB_yes fun j hj => ?_).symm
        have := HM.out j (by rw [HN.out] at hj; omega)
        exact decide_eq_true this
      go_wp2
      go_ret
      exact ⟨ret_b E.out, rfl⟩
set_option maxHeartbeats 1000000 in
theorem rvalid_law_ne (A : Option Addr) (zs : List Int) (m : Int) (cap : Nat) (w : World) (hr : ReadsV w A zs) (hl : zs.length ≤ 9223372036854775807) (h : (zs.length : Int) ≠ m) :
    Calls Tryd.prog 29 #[.slice A zs.length cap, .int .i64 m] w fun e w' => e = .returned (.bool false) ∧ w = w' := by
  have HR := Lib.hid hr
  clear hr
  generalize hn : zs.length = n at *
  have HN := Lib.hid hn
  clear hn
  have e3 : ((n : Int) == m) = false := by simpa using h
  go_enter Tryd.func29, Tryd.ntmps29
  go_wp2
  go_loop [5] (fun q => ∃ k : Nat, k ≤ n ∧ q = .int .i64 k) (fun q => n - (intOf q).toNat)
  case atStart => exact ⟨0, by omega, rfl⟩
  case round =>
    obtain ⟨k, hk, rfl⟩ := hrel
    by_cases hlt : k < n
    · obtain ⟨b, off, rfl, hcx⟩ := at_of_reads HR.out k (by rw [HN.out]; exact hlt)
      generalize at0 zs k = z at *
      by_cases z1 : z < 0
      · go_wp2
        go_ret
        exact ⟨rfl, rfl⟩
      · have z4 : 0 ≤ z := by omega
        by_cases z3 : 1048576 < z
        · go_wp2
          go_ret
          exact ⟨rfl, rfl⟩
        · have z5 : z ≤ 1048576 := by omega
          clear z1 z3
          go_wp2
          go_round
          case rel => exact ⟨k + 1, by omega, by go_num⟩
          case measure => simp [intOf]; omega
    · go_wp2
      go_ret
      exact ⟨rfl, rfl⟩
theorem rvalidn_law (A : Option Addr) (zs : List Int) (n : Int) (cap : Nat) (w : World) (hr : ReadsV w A zs) (hl : zs.length ≤ 9223372036854775807) :
    Calls Tryd.prog 29 #[.slice A zs.length cap, .int .i64 n] w fun e w' => e = .returned (.bool (validL zs n)) ∧ w = w' := by
  by_cases h : (zs.length : Int) = n
  · subst h
    unfold validL
    rw [decide_eq_true rfl, Bool.true_and]
    exact rvalid_law A zs cap w hr hl
  · unfold validL
    rw [decide_eq_false h, Bool.false_and]
    exact rvalid_law_ne A zs n cap w hr hl h
end Go.Proofs.YtjibpkaanaphcaaDoor

namespace Go.Proofs.YtjibpkaanaphcaaDoor
open Go.RowKit

theorem weightV_arc {m : Nat} {l : List (Int × Int)} (h : arcsE m l = 0) {k : Nat} (hk : k < l.length) : weightV l (aP l k) = aW l k :=
  weightV_at hk (fun j hj => by have := arcs_lt h hj hk; simp; omega) rfl
theorem weightV_cases {m : Nat} {l : List (Int × Int)} (h : arcsE m l = 0) (p : Int) : (weightV l p = 0 ∧ ∀ j, j < l.length → aP l j ≠ p) ∨ ∃ k, k < l.length ∧ aP l k = p ∧ weightV l p = aW l k ∧ 1 ≤ aW l k ∧ aW l k ≤ 99 := by
  rcases firstI_cases (fun j => decide (aP l j = p)) l.length with ⟨_, ha⟩ | ⟨k, hk, _, ht, ha⟩
  · exact .inl ⟨weightV_none ha, fun j hj => by simpa using ha j hj⟩
  · have e : aP l k = p := by simpa using ht
    have := arcsE_parts h k hk
    exact .inr ⟨k, hk, e, weightV_at hk ha e, this.2.2.2.1, this.2.2.2.2⟩
theorem weightV_bd {m : Nat} {l : List (Int × Int)} (h : arcsE m l = 0) (p : Int) : 0 ≤ weightV l p ∧ weightV l p ≤ 99 := by
  rcases weightV_cases h p with ⟨e, _⟩ | ⟨k, _, _, e, h1, h2⟩ <;> omega
/-- what an arc of one of the lists asks -/
def lowF (l : List (Int × Int)) (m : List Int) (j : Nat) : Bool := decide (at0 m (aP l j).toNat < aW l j)
def inhF (l : List (Int × Int)) (m : List Int) (j : Nat) : Bool := decide (aW l j ≤ at0 m (aP l j).toNat)
def aftV (x : TransV) (m : List Int) (p : Nat) : Int := at0 m p - weightV x.pre.l p + weightV x.post.l p
def capF (ps : List PlaceV) (x : TransV) (m : List Int) (p : Nat) : Bool := decide (0 < (pA ps p).cap ∧ (pA ps p).cap < aftV x m p)
def badP (ps : List PlaceV) (x : TransV) (m : List Int) (p : Nat) : Bool :=
  decide (at0 m p < weightV x.pre.l p) || (decide (0 < weightV x.inh.l p ∧ weightV x.inh.l p ≤ at0 m p) || capF ps x m p)
def readyB (n : NetV) (m : List Int) (t : Nat) : Bool := !anyB (badP n.ps (tA n.ts t) m) n.ps.length
def moreF (n : NetV) (m : List Int) (t o : Nat) : Bool := decide ((tA n.ts t).prio < (tA n.ts o).prio) && readyB n m o
def mayB (n : NetV) (m : List Int) (t : Nat) : Bool := readyB n m t && !anyB (moreF n m t) n.ts.length
theorem anyB_iff {f : Nat → Bool} {n : Nat} : anyB f n = true ↔ ∃ k, k < n ∧ f k = true := by
  constructor
  · intro h
    by_cases e : ∃ k, k < n ∧ f k = true
    · exact e
    · rw [anyB_no (fun j hj => by cases h : f j; rfl; exact absurd ⟨j, hj, h⟩ e)] at h
      cases h
  · rintro ⟨k, hk, h⟩
    exact anyB_yes hk h
theorem anyB_false {f : Nat → Bool} {n : Nat} : anyB f n = false ↔ ∀ k, k < n → f k = false := by
  constructor
  · intro h k hk
    cases e : f k
    · rfl
    · rw [anyB_yes hk e] at h; cases h
  · exact anyB_no
/-- arcs of a good net -/
structure ArcsOk (n : NetV) (x : TransV) : Prop where
  pre : arcsE n.ps.length x.pre.l = 0
  post : arcsE n.ps.length x.post.l = 0
  inh : arcsE n.ps.length x.inh.l = 0
theorem okN_arcs {n : NetV} (h : okN n = true) (t : Nat) (ht : t < n.ts.length) : ArcsOk n (tA n.ts t) := by
  have := transE_parts ((okN_parts h).2.2.2.2.2 t ht)
  exact ⟨this.2.2.2.2.2.1, this.2.2.2.2.2.2.1, this.2.2.2.2.2.2.2⟩
theorem okN_prio {n : NetV} (h : okN n = true) (t : Nat) (ht : t < n.ts.length) : 0 ≤ (tA n.ts t).prio ∧ (tA n.ts t).prio ≤ 9 := by
  have := transE_parts ((okN_parts h).2.2.2.2.2 t ht)
  exact ⟨this.2.2.2.1, this.2.2.2.2.1⟩
theorem okN_cap {n : NetV} (h : okN n = true) (p : Nat) (hp : p < n.ps.length) : 0 ≤ (pA n.ps p).cap ∧ (pA n.ps p).cap ≤ 1048576 := by
  have := (okN_parts h).2.2.2.2.1 p hp
  unfold placeE at this
  split at this
  · exact absurd this (by decide)
  · split at this
    · exact absurd this (by decide)
    · split at this
      · exact absurd this (by decide)
      · omega
/-- the program's way to ask whether a transition is enabled -/
theorem ready_low {n : NetV} {m : List Int} {t : Nat} (hx : ArcsOk n (tA n.ts t)) (h : anyB (lowF (tA n.ts t).pre.l m) (tA n.ts t).pre.l.length = true) : readyB n m t = false := by
  obtain ⟨k, hk, e⟩ := anyB_iff.1 h
  have a := arcsE_parts hx.pre k hk
  unfold readyB
  rw [anyB_yes (k := (aP (tA n.ts t).pre.l k).toNat) (by omega) ?_]
  · rfl
  · have e2 : ((aP (tA n.ts t).pre.l k).toNat : Int) = aP (tA n.ts t).pre.l k := Int.toNat_of_nonneg a.1
    unfold badP
    rw [e2, weightV_arc hx.pre hk]
    unfold lowF at e
    rw [e]
    rfl
theorem ready_inh {n : NetV} {m : List Int} {t : Nat} (hx : ArcsOk n (tA n.ts t)) (h : anyB (inhF (tA n.ts t).inh.l m) (tA n.ts t).inh.l.length = true) : readyB n m t = false := by
  obtain ⟨k, hk, e⟩ := anyB_iff.1 h
  have a := arcsE_parts hx.inh k hk
  unfold readyB
  rw [anyB_yes (k := (aP (tA n.ts t).inh.l k).toNat) (by omega) ?_]
  · rfl
  · have e2 : ((aP (tA n.ts t).inh.l k).toNat : Int) = aP (tA n.ts t).inh.l k := Int.toNat_of_nonneg a.1
    unfold badP
    rw [e2, weightV_arc hx.inh hk]
    unfold inhF at e
    have e := of_decide_eq_true e
    rw [decide_eq_true (p := 0 < aW (tA n.ts t).inh.l k ∧ aW (tA n.ts t).inh.l k ≤ _) ⟨by omega, e⟩]
    simp
theorem ready_cap {n : NetV} {m : List Int} {t p : Nat} (hp : p < n.ps.length) (h : capF n.ps (tA n.ts t) m p = true) : readyB n m t = false := by
  unfold readyB
  rw [anyB_yes hp ?_]
  · rfl
  · unfold badP
    rw [h]
    simp
theorem natL_at {m : List Int} (h : natL m = true) (k : Nat) : 0 ≤ at0 m k ∧ at0 m k ≤ 1048576 := by
  by_cases hk : k < m.length
  · have := allB_iff.1 h k hk
    exact of_decide_eq_true this
  · unfold at0
    rw [List.getElem?_eq_none (by omega)]
    simp
theorem ready_yes {n : NetV} {m : List Int} {t : Nat} (hm : natL m = true) (hx : ArcsOk n (tA n.ts t)) (h1 : anyB (lowF (tA n.ts t).pre.l m) (tA n.ts t).pre.l.length = false)
    (h2 : anyB (inhF (tA n.ts t).inh.l m) (tA n.ts t).inh.l.length = false) (h3 : ∀ p, p < n.ps.length → capF n.ps (tA n.ts t) m p = false) : readyB n m t = true := by
  unfold readyB
  rw [anyB_no (f := badP n.ps (tA n.ts t) m) ?_]
  · rfl
  · intro p hp
    unfold badP
    rw [h3 p hp]
    have hn := natL_at hm p
    have c1 : ¬ at0 m p < weightV (tA n.ts t).pre.l p := fun c => by
      rcases weightV_cases hx.pre p with ⟨e, _⟩ | ⟨k, hk, e1, e2, _, _⟩
      · omega
      · have := anyB_false.1 h1 k hk
        unfold lowF at this
        have e3 : (aP (tA n.ts t).pre.l k).toNat = p := by omega
        rw [e3] at this
        have := of_decide_eq_false this
        omega
    have c2 : ¬ (0 < weightV (tA n.ts t).inh.l p ∧ weightV (tA n.ts t).inh.l p ≤ at0 m p) := fun c => by
      rcases weightV_cases hx.inh p with ⟨e, _⟩ | ⟨k, hk, e1, e2, _, _⟩
      · omega
      · have := anyB_false.1 h2 k hk
        unfold inhF at this
        have e3 : (aP (tA n.ts t).inh.l k).toNat = p := by omega
        rw [e3] at this
        have := of_decide_eq_false this
        omega
    rw [decide_eq_false c1, decide_eq_false c2]
    rfl
/-! what the iterator yields -/
def chgL (x : TransV) : List (Int × Int) := (x.pre.l.map fun a => (a.1, -a.2)) ++ x.post.l
def chgAt (m : List Int) (pre : List (Int × Int)) (p : Nat) : Int := at0 m p + (pre.map fun a => if a.1 = (p : Int) then a.2 else 0).sum
theorem chgAt_nil (m : List Int) (p : Nat) : chgAt m [] p = at0 m p := by simp [chgAt]
theorem chgAt_snoc (m : List Int) (pre : List (Int × Int)) (a : Int × Int) (p : Nat) : chgAt m (pre ++ [a]) p = chgAt m pre p + if a.1 = (p : Int) then a.2 else 0 := by
  simp [chgAt]; omega
theorem sumW_map : ∀ (l : List (Int × Int)) (p : Nat), (l.map fun a => if a.1 = (p : Int) then a.2 else 0).sum = sumW l p l.length := by
  intro l p
  have key : ∀ k, k ≤ l.length → ((l.take k).map fun a => if a.1 = (p : Int) then a.2 else 0).sum = sumW l p k := by
    intro k
    induction k with
    | zero => intro _; simp [sumW]
    | succ k ih =>
      intro hk
      rw [List.take_succ_eq_append_getElem (by omega), List.map_append, List.sum_append, ih (by omega), sumW]
      have e1 : aP l k = l[k].1 := by simp [aP, List.getElem?_eq_getElem (show k < l.length by omega)]
      have e2 : aW l k = l[k].2 := by simp [aW, List.getElem?_eq_getElem (show k < l.length by omega)]
      rw [e1, e2]
      simp
  have := key l.length (Nat.le_refl _)
  rwa [List.take_length] at this
theorem chgAt_all {n : NetV} {x : TransV} (hx : ArcsOk n x) (m : List Int) (p : Nat) : chgAt m (chgL x) p = aftV x m p := by
  unfold chgAt chgL aftV
  rw [List.map_append, List.sum_append, sumW_map x.post.l, sumW_all hx.post]
  have e : ((x.pre.l.map fun a => (a.1, -a.2)).map fun a => if a.1 = (p : Int) then a.2 else 0).sum = - (x.pre.l.map fun a => if a.1 = (p : Int) then a.2 else 0).sum := by
    generalize x.pre.l = l
    induction l with
    | nil => rfl
    | cons a r ih =>
      simp only [List.map_cons, List.sum_cons] at ih ⊢
      rw [ih]
      split <;> omega
  rw [e, sumW_map, sumW_all hx.pre]
  omega
/-! the transitions that may fire -/
def mostK (n : NetV) (m : List Int) : Nat → Int
  | 0 => 0
  | k + 1 => if readyB n m k = true then max (mostK n m k) (tA n.ts k).prio else mostK n m k
def firesV (n : NetV) (m : List Int) : List Int := pickI (mayB n m) n.ts.length
theorem mostK_ge {n : NetV} {m : List Int} : ∀ k j, j < k → readyB n m j = true → (tA n.ts j).prio ≤ mostK n m k
  | 0, _, h, _ => absurd h (by omega)
  | k + 1, j, h, e => by
    by_cases hj : j = k
    · subst hj
      rw [mostK, if_pos e]
      omega
    · have := mostK_ge k j (by omega) e
      rw [mostK]
      split <;> omega
theorem mostK_at {n : NetV} {m : List Int} : ∀ k, mostK n m k = 0 ∨ ∃ j, j < k ∧ readyB n m j = true ∧ mostK n m k = (tA n.ts j).prio
  | 0 => .inl rfl
  | k + 1 => by
    rw [mostK]
    by_cases e : readyB n m k = true
    · rw [if_pos e]
      by_cases h : mostK n m k ≤ (tA n.ts k).prio
      · exact .inr ⟨k, by omega, e, by omega⟩
      · rcases mostK_at (n := n) (m := m) k with h1 | ⟨j, h1, h2, h3⟩
        · exact .inl (by omega)
        · exact .inr ⟨j, by omega, h2, by omega⟩
    · rw [if_neg e]
      rcases mostK_at (n := n) (m := m) k with h1 | ⟨j, h1, h2, h3⟩
      · exact .inl h1
      · exact .inr ⟨j, by omega, h2, h3⟩
theorem may_most {n : NetV} (h : okN n = true) {m : List Int} {t : Nat} (ht : t < n.ts.length) (hr : readyB n m t = true) : mayB n m t = decide ((tA n.ts t).prio = mostK n m n.ts.length) := by
  have g := mostK_ge (n := n) (m := m) n.ts.length t ht hr
  have hp := okN_prio h t ht
  unfold mayB
  rw [hr, Bool.true_and]
  by_cases e : (tA n.ts t).prio = mostK n m n.ts.length
  · rw [decide_eq_true e, anyB_no fun o ho => ?_]
    · rfl
    · unfold moreF
      cases hro : readyB n m o
      · simp
      · have := mostK_ge (n := n) (m := m) n.ts.length o ho hro
        rw [decide_eq_false (by omega)]
        rfl
  · rw [decide_eq_false e]
    rcases mostK_at (n := n) (m := m) n.ts.length with h1 | ⟨j, h1, h2, h3⟩
    · omega
    · rw [anyB_yes h1 (by unfold moreF; rw [h2, decide_eq_true (by omega)]; rfl)]
      rfl
theorem pickI_eq (f : Nat → Bool) (n : Nat) : pickI f n = ((List.range n).filter f).map (fun (k : Nat) => (k : Int)) := rfl
theorem fires_filter {n : NetV} (h : okN n = true) (m : List Int) : (pickI (readyB n m) n.ts.length).filter (fun v => decide ((tA n.ts v.toNat).prio = mostK n m n.ts.length)) = firesV n m := by
  unfold firesV
  rw [pickI_eq, pickI_eq, List.filter_map, List.filter_filter]
  congr 1
  refine List.filter_congr fun k hk => ?_
  have hk := List.mem_range.1 hk
  simp only [Function.comp, Int.toNat_natCast]
  cases hr : readyB n m k
  · unfold mayB; rw [hr]; simp
  · rw [may_most h hk hr]; simp
theorem mem_fires {n : NetV} {m : List Int} {t : Int} : t ∈ firesV n m ↔ 0 ≤ t ∧ t < n.ts.length ∧ mayB n m t.toNat = true := by
  unfold firesV
  rw [pickI_eq, List.mem_map]
  constructor
  · rintro ⟨k, hk, rfl⟩
    obtain ⟨h1, h2⟩ := List.mem_filter.1 hk
    have := List.mem_range.1 h1
    exact ⟨by omega, by omega, by simpa using h2⟩
  · rintro ⟨h1, h2, h3⟩
    exact ⟨t.toNat, List.mem_filter.2 ⟨List.mem_range.2 (by omega), h3⟩, by omega⟩
end Go.Proofs.YtjibpkaanaphcaaDoor

namespace Go.Proofs.YtjibpkaanaphcaaDoor
open Go.RowKit

def errN (n : NetV) (m : List Int) : Int := if (chkV n).1 ≠ 0 then (chkV n).1 else if validL m n.ps.length = true then 0 else 2
def goodN (n : NetV) (m : List Int) : Bool := okN n && validL m n.ps.length
theorem errN_zero {n : NetV} {m : List Int} : errN n m = 0 ↔ goodN n m = true := by
  unfold errN goodN okN
  by_cases h : (chkV n).1 = 0
  · rw [if_neg (by simpa using h), decide_eq_true h, Bool.true_and]
    cases validL m n.ps.length <;> simp
  · rw [if_pos h, decide_eq_false h]
    simp [h]
theorem validL_parts {m : List Int} {k : Int} (h : validL m k = true) : (m.length : Int) = k ∧ natL m = true := by
  unfold validL at h
  rw [Bool.and_eq_true, decide_eq_true_eq] at h
  exact h
def NRet (n : NetV) : Value := .agg #[.string n.nm, .slice n.PA n.ps.length n.pc, .slice n.TA n.ts.length n.tc]

def inT (n : NetV) (t : Int) : Bool := decide (0 ≤ t) && decide (t < n.ts.length)
theorem inT_iff {n : NetV} {t : Int} : inT n t = true ↔ 0 ≤ t ∧ t < n.ts.length := by unfold inT; simp
end Go.Proofs.YtjibpkaanaphcaaDoor

namespace Go.Proofs.YtjibpkaanaphcaaDoor
open Go.RowKit

theorem cell_new1 (w : World) (x : Value) (t : TypeId) : (w.alloc (.cells #[x] t)).cell? ⟨w.heap.size, 0, none⟩ = some x := by simp
theorem size_le_alloc {w : World} {g : Nat} (h : g ≤ w.heap.size) (o : Obj) : g ≤ (w.alloc o).heap.size := by rw [World.size_alloc]; omega
def OwnI (w : World) (s : Nat) (v : Value) (zs : List Int) : Prop := w.ownsRow s 3 1 v zs.length (zs.map (Value.int .i64))
theorem OwnI.nil (w : World) (s : Nat) : OwnI w s (.slice none 0 0) [] := World.ownsRow_nil _ _ _ _
theorem OwnI.below {w w' : World} {s B : Nat} {v : Value} {zs : List Int} (h : OwnI w s v zs) (hb : Below B w w') (hB : w.heap.size ≤ B) : OwnI w' s v zs := own_below h hb hB
theorem OwnI.alloc {w : World} {s : Nat} {v : Value} {zs : List Int} (h : OwnI w s v zs) (o : Obj) : OwnI (w.alloc o) s v zs := h.below (B := w.heap.size) ((Below.refl _ _).alloc (Nat.le_refl _) _) (Nat.le_refl _)
theorem wpList_int {ops : Array Oper} {rest : List Oper} {o : Oper} {a : Act} {w : World} {Q : Exit → Act → World → Prop} (hgd : o.guard = none) (s x : Operand)
    (ho : o.op = .call { callee := .builtin .append, args := #[s, x], argTypes := #[23, 23] })
    (base : Nat) (v : Value) (zs : List Int) (z : Int) (hs : a.eval s = v) (hO : OwnI w base v zs) (g : Nat) (hx : a.eval x = .slice (some ⟨g, 0, none⟩) 1 1)
    (hc : w.cell? ⟨g, 0, none⟩ = some (.int .i64 z)) (hl : zs.length ≤ 17592186043904) (hbase : base ≤ w.heap.size)
    (h : ∀ v' w', OwnI w' base v' (zs ++ [z]) → Below base w w' → wpList Tryd.prog ops Q rest (a.put o.dst v') w') : wpList Tryd.prog ops Q (o :: rest) a w := by
  obtain ⟨i, hi, hz, h1, h2⟩ := info_parts infoI
  refine wpList_append_own _ hgd s x 23 ho base 3 i (.int .i64 0) 1 8 Tryd.underlying23 hi hz h1 h2 rfl (by decide) v zs.length (zs.map (Value.int .i64)) hs hO ⟨g, 0, none⟩ 1 1 [.int .i64 z] hx rfl ?_ ?_ (by unfold maxLen; omega) (by omega) hbase ?_
  · intro j u hj
    cases j with
    | zero => simp at hj; subst hj; simpa [Addr.add] using hc
    | succ j => simp at hj
  · intro u hu
    simp at hu
    subst hu
    simp [Value.oneCell']
  · intro v' w' hown hgrow _
    refine h v' w' ?_ ((Below.refl base w).grown hgrow hbase fun q e => (World.ownsRow.lt hO q e).1)
    unfold OwnI
    rw [List.map_append, List.length_append]
    exact hown
def enT (n : NetV) (m : List Int) (t : Int) : Bool := goodN n m && (inT n t && readyB n m t.toNat)
def mayT (n : NetV) (m : List Int) (t : Int) : Bool := goodN n m && (inT n t && mayB n m t.toNat)
def listL (n : NetV) (m : List Int) : List Int := if goodN n m = true then firesV n m else []
def deadB (n : NetV) (m : List Int) : Bool := goodN n m && decide ((firesV n m).length = 0)
theorem mayB_no {n : NetV} {m : List Int} {t : Nat} (h : readyB n m t = false) : mayB n m t = false := by unfold mayB; rw [h]; rfl
theorem mayB_more {n : NetV} {m : List Int} {t o : Nat} (ho : o < n.ts.length) (h : (tA n.ts t).prio < (tA n.ts o).prio) (hr : readyB n m o = true) : mayB n m t = false := by
  unfold mayB
  rw [anyB_yes ho (by unfold moreF; rw [hr, decide_eq_true h]; rfl)]
  simp
theorem mayB_yes {n : NetV} {m : List Int} {t : Nat} (h : readyB n m t = true) (hm : ∀ o, o < n.ts.length → moreF n m t o = false) : mayB n m t = true := by
  unfold mayB
  rw [h, anyB_no hm]
  rfl
theorem moreF_no {n : NetV} {m : List Int} {t o : Nat} (h : ¬ (tA n.ts t).prio < (tA n.ts o).prio) : moreF n m t o = false := by unfold moreF; rw [decide_eq_false h]; rfl
theorem moreF_no2 {n : NetV} {m : List Int} {t o : Nat} (h : readyB n m o = false) : moreF n m t o = false := by unfold moreF; rw [h]; simp
theorem fires_len {n : NetV} {m : List Int} : (firesV n m).length ≤ n.ts.length := pickI_len _ _

theorem IsPost.own {g : Nat} {w w' : World} {v : Value} {zs : List Int} (h : OwnI w' g v zs) (hb : Below g w w') : IsPost g w zs (.returned v) w' := by
  obtain ⟨A, c, e, hr⟩ := ReadsV.own h
  exact ⟨A, c, by rw [e], hr, hb⟩
end Go.Proofs.YtjibpkaanaphcaaDoor

namespace Go.Proofs.YtjibpkaanaphcaaDoor
open Go.RowKit

set_option maxHeartbeats 1000000 in
theorem weight11_any (A : Option Addr) (l : List (Int × Int)) (c : Nat) (p : Int) (w : World) (hr : ReadsA w A l) (hl : l.length ≤ 1000) :
    Calls Tryd.prog 46 #[.slice A l.length c, .int .i64 p] w (VPost w.heap.size w (.int .i64 (weightV l p))) := by
  have HY : Hid (∀ k, k < l.length → (∀ j, j < k → decide (aP l j = p) = false) → aP l k = p → weightV l p = aW l k) := fun k hk h ht => weightV_at hk h ht
  have HN : Hid ((∀ j, j < l.length → decide (aP l j = p) = false) → weightV l p = 0) := weightV_none
  generalize weightV l p = S at *
  have HR := Lib.hid hr
  clear hr
  generalize hg : w.heap.size = g at *
  have HG := Lib.hid hg
  clear hg
  generalize hn : l.length = n at *
  have HL := Lib.hid hn
  clear hn
  go_enter Tryd.func46, Tryd.ntmps46
  go_wp2_with fail
  go_loopw [5] (fun q wr => ∃ k : Nat, k ≤ n ∧ q = .int .i64 k ∧ Hid (Below g w wr) ∧ Hid (∀ j, j < k → decide (aP l j = p) = false)) (fun q _ => n - (intOf q).toNat)
  case atStart => exact ⟨0, by omega, rfl, Below.refl _ _, fun j hj => absurd hj (by omega)⟩
  case round =>
    obtain ⟨k, hk, rfl, HB, HM⟩ := hrel
    by_cases hlt : k < n
    · obtain ⟨b0, off, rfl, hb0, hc0, hc1⟩ := (HR.out.below HB.out (by rw [HG.out]; exact Nat.le_refl _)) k (by rw [HL.out]; exact hlt)
      have HYk := Lib.hid (HY.out k hlt HM.out)
      have HF : Hid (decide (aP l k = p) = false → ∀ j, j < k + 1 → decide (aP l j = p) = false) := upto_snoc HM.out
      clear HM
      generalize aP l k = x at *
      generalize aW l k = u at *
      by_cases hx : x = p
      · subst hx
        have E := Lib.hid (HYk.out rfl)
        clear HYk HF
        go_wp2_with fail
        (try go_quiet (fail))
        go_wp2
        (try go_quiet (fail))
        (try go_wp2)
        go_ret
        exact ⟨by rw [E.out]; rfl, by first | exact HB.out | exact below_drewN HB.out _ | exact below_drewN (below_drewN HB.out _) _⟩
      · have z1 : (x == p) = false := by simpa using hx
        have G := Lib.hid (HF.out (by simpa using hx))
        clear HYk HF hx
        go_wp2_with fail
        (try go_quiet (fail))
        (try go_wp2)
        go_roundw
        case rel => exact ⟨k + 1, by omega, by go_num, by first | exact HB | exact below_drewN HB.out _, G⟩
        case measure => simp [intOf]; omega
    · have E := Lib.hid (HN.out (fun j hj => HM.out j (by omega)))
      clear HM
      go_wp2
      go_ret
      exact ⟨by rw [E.out]; rfl, HB.out⟩

set_option maxHeartbeats 16000000 in
set_option maxRecDepth 100000 in
theorem ready_any (n : NetV) (A : Option Addr) (m : List Int) (c t : Nat) (w : World) (hr : NetR w n) (hm : ReadsV w A m) (hok : goodN n m = true) (ht : t < n.ts.length) :
    Calls Tryd.prog 45 #[.agg #[.string n.nm, .slice n.PA n.ps.length n.pc, .slice n.TA n.ts.length n.tc], .slice A m.length c, .int .i64 t] w (VPost w.heap.size w (.bool (readyB n m t))) := by
  unfold goodN at hok
  rw [Bool.and_eq_true] at hok
  obtain ⟨hokn, hval⟩ := hok
  obtain ⟨hml, hnat⟩ := validL_parts hval
  have hx := okN_arcs hokn t ht
  have hp24 : n.ps.length ≤ 24 := (okN_parts hokn).2.2.1
  have hmn : m.length = n.ps.length := by omega
  have ht24 : n.ts.length ≤ 24 := (okN_parts hokn).2.2.2.1
  have hzl : (tA n.ts t).pre.l.length ≤ 1000 ∧ (tA n.ts t).post.l.length ≤ 1000 ∧ (tA n.ts t).inh.l.length ≤ 1000 := ⟨(hr.okt.2 t).2.1, (hr.okt.2 t).2.2.1, (hr.okt.2 t).2.2.2⟩
  have QN : Hid (∀ p, p < n.ps.length → badP n.ps (tA n.ts t) m p = true → readyB n m t = false) := fun p hp h => by unfold readyB; rw [anyB_yes hp h]; rfl
  have QY : Hid ((∀ p, p < n.ps.length → badP n.ps (tA n.ts t) m p = false) → readyB n m t = true) := fun h => by unfold readyB; rw [anyB_no h]; rfl
  have QB : Hid (∀ k, 0 ≤ at0 m k ∧ at0 m k ≤ 1048576) := natL_at hnat
  have QK : Hid (∀ p, p < n.ps.length → 0 ≤ (pA n.ps p).cap ∧ (pA n.ps p).cap ≤ 1048576) := fun p hp => okN_cap hokn p hp
  have W1 : Hid (∀ p, 0 ≤ weightV (tA n.ts t).pre.l p ∧ weightV (tA n.ts t).pre.l p ≤ 99) := weightV_bd hx.pre
  have W2 : Hid (∀ p, 0 ≤ weightV (tA n.ts t).post.l p ∧ weightV (tA n.ts t).post.l p ≤ 99) := weightV_bd hx.post
  have W3 : Hid (∀ p, 0 ≤ weightV (tA n.ts t).inh.l p ∧ weightV (tA n.ts t).inh.l p ≤ 99) := weightV_bd hx.inh
  have BD : Hid (∀ p, badP n.ps (tA n.ts t) m p = (decide (at0 m p < weightV (tA n.ts t).pre.l p) || (decide (0 < weightV (tA n.ts t).inh.l p ∧ weightV (tA n.ts t).inh.l p ≤ at0 m p) || decide (0 < (pA n.ps p).cap ∧ (pA n.ps p).cap < at0 m p - weightV (tA n.ts t).pre.l p + weightV (tA n.ts t).post.l p)))) := fun p => rfl
  have RT := Lib.hid hr.rt
  have RP := Lib.hid hr.rp
  have HM := Lib.hid hm
  clear hx hokn hval hnat hml hm hr
  generalize readyB n m t = S at *
  obtain ⟨nm, PA, ps, pc, TA, ts, tc⟩ := n
  dsimp only at *
  obtain ⟨bt, ot, eT, _⟩ := RT.out t ht
  subst eT
  obtain ⟨bt', ot', eT, hbt, d0, d1, d2, d3, d4, r1, r2, r3⟩ := RT.out t ht
  injection eT with eT
  injection eT with h1 h2
  subst h1 h2
  generalize badP ps (tA ts t) m = bad at *
  generalize tA ts t = x at *
  obtain ⟨xnm, ⟨a1, c1, l1⟩, ⟨a2, c2, l2⟩, ⟨a3, c3, l3⟩, prio⟩ := x
  dsimp only at *
  obtain ⟨hz1, hz2, hz3⟩ := hzl
  rw [hmn]
  generalize hpl : ps.length = pl at *
  generalize ts.length = tl at *
  have HPL := Lib.hid hpl
  have HML := Lib.hid hmn
  clear hpl hmn
  have C1 : Hid (∀ W (p : Nat), Below w.heap.size w W → Calls Tryd.prog 46 #[.slice a1 l1.length c1, .int .i64 p] W (VPost W.heap.size W (.int .i64 (weightV l1 p)))) := fun W p hW => weight11_any a1 l1 c1 p W (r1.below hW (Nat.le_refl _)) hz1
  have C2 : Hid (∀ W (p : Nat), Below w.heap.size w W → Calls Tryd.prog 46 #[.slice a2 l2.length c2, .int .i64 p] W (VPost W.heap.size W (.int .i64 (weightV l2 p)))) := fun W p hW => weight11_any a2 l2 c2 p W (r2.below hW (Nat.le_refl _)) hz2
  have C3 : Hid (∀ W (p : Nat), Below w.heap.size w W → Calls Tryd.prog 46 #[.slice a3 l3.length c3, .int .i64 p] W (VPost W.heap.size W (.int .i64 (weightV l3 p)))) := fun W p hW => weight11_any a3 l3 c3 p W (r3.below hW (Nat.le_refl _)) hz3
  clear r1 r2 r3
  have B0 : Hid (Below w.heap.size w ((w.alloc (.cells #[.string nm, .slice PA pl pc, .slice (some ⟨bt, ot, none⟩) tl tc] 29)).alloc (.cells #[.string xnm, .slice a1 l1.length c1, .slice a2 l2.length c2, .slice a3 l3.length c3, .int .i64 prio] 48))) := ((Below.refl _ _).alloc (Nat.le_refl _) _).alloc (by simp) _
  go_enter Tryd.func45, Tryd.ntmps45
  go_wp2_with fail
  go_loopw [8] (fun q wr => ∃ k : Nat, k ≤ pl ∧ q = .int .i64 k ∧ Hid (Below (w.heap.size + 2) ((w.alloc (.cells #[.string nm, .slice PA pl pc, .slice (some ⟨bt, ot, none⟩) tl tc] 29)).alloc (.cells #[.string xnm, .slice a1 l1.length c1, .slice a2 l2.length c2, .slice a3 l3.length c3, .int .i64 prio] 48)) wr) ∧ Hid (∀ j, j < k → bad j = false)) (fun q _ => pl - (intOf q).toNat)
  case atStart => exact ⟨0, by omega, rfl, Below.refl _ _, fun j hj => absurd hj (by omega)⟩
  case round =>
    obtain ⟨k, hk, rfl, HB, HX⟩ := hrel
    have e1 : wr.cell? ⟨w.heap.size, 1, none⟩ = some (.slice PA pl pc) := by rw [HB.out.cell (by simp)]; simp
    have x1 : wr.cell? ⟨w.heap.size + 1, 1, none⟩ = some (.slice a1 l1.length c1) := by rw [HB.out.cell (by simp)]; simp
    have x2 : wr.cell? ⟨w.heap.size + 1, 2, none⟩ = some (.slice a2 l2.length c2) := by rw [HB.out.cell (by simp)]; simp
    have x3 : wr.cell? ⟨w.heap.size + 1, 3, none⟩ = some (.slice a3 l3.length c3) := by rw [HB.out.cell (by simp)]; simp
    have BA : Hid (Below w.heap.size w wr) := B0.out.trans (HB.out.mono (by omega))
    have hsz : w.heap.size + 2 ≤ wr.heap.size := by have := HB.out.size; simp at this; omega
    by_cases hlt : k < pl
    · obtain ⟨bp, op, eP, hbp, _, _, f3⟩ := (RP.out.below BA.out (Nat.le_refl _)) k (by rw [HPL.out]; exact hlt)
      subst eP
      obtain ⟨bm, om, eM, f4⟩ := at_of_reads (HM.out.below BA.out (Nat.le_refl _)) k (by rw [HML.out]; exact hlt)
      subst eM
      have HF : Hid (bad k = false → ∀ j, j < k + 1 → bad j = false) := upto_snoc HX.out
      have QNk := Lib.hid (QN.out k hlt)
      have BDk := Lib.hid (BD.out k)
      have hb1 := W1.out k
      have hb2 := W2.out k
      have hb3 := W3.out k
      have hbm := QB.out k
      have hbc := QK.out k hlt
      have C1k : Hid (∀ W, Below w.heap.size w W → _) := fun W hW => C1.out W k hW
      have C2k : Hid (∀ W, Below w.heap.size w W → _) := fun W hW => C2.out W k hW
      have C3k : Hid (∀ W, Below w.heap.size w W → _) := fun W hW => C3.out W k hW
      clear HX
      generalize weightV l1 k = w1 at *
      generalize weightV l2 k = w2 at *
      generalize weightV l3 k = w3 at *
      generalize at0 m k = z at *
      generalize (pA ps k).cap = cap at *
      generalize bad k = bd at *
      go_wp2_with fail
      refine (C3k.out _ BA.out).mono ?_
      rintro e wa ⟨rfl, K⟩
      have e1 := keepc e1 K
      have x1 := keepc x1 K
      have x2 := keepc x2 K
      have f3 := keepc f3 K
      have f4 := keepc f4 K
      have BAa := Lib.hid (BA.out.trans (K.mono BA.out.size))
      have HBa := Lib.hid (HB.out.trans (K.mono hsz))
      clear K C3k HB
      have v1 : IntKind.i64.wrap (z - w1) = z - w1 := by rw [IntKind.wrap_i64]; omega
      have v2 : IntKind.i64.wrap (z - w1 + w2) = z - w1 + w2 := by rw [IntKind.wrap_i64]; omega
      go_upto_region 6 with fail
      go_cut [10] (fun s10 wx => s10 = .int .i64 (z - w1 + w2) ∧ wx.cell? ⟨w.heap.size, 1, none⟩ = some (.slice (some ⟨bp, op, none⟩) pl pc) ∧ wx.cell? ⟨w.heap.size + 1, 1, none⟩ = some (.slice a1 l1.length c1) ∧ wx.cell? ⟨w.heap.size + 1, 2, none⟩ = some (.slice a2 l2.length c2) ∧ wx.cell? ⟨bp, op + k * 3 + 2, none⟩ = some (.int .i64 cap) ∧ wx.cell? ⟨bm, om + k, none⟩ = some (.int .i64 z) ∧ Hid (Below wa.heap.size wa wx))
      case first =>
        refine wp_region_held_drew (S := fun w' => w'.cell? ⟨w.heap.size, 1, none⟩ = some (.slice (some ⟨bp, op, none⟩) pl pc) ∧ w'.cell? ⟨w.heap.size + 1, 1, none⟩ = some (.slice a1 l1.length c1) ∧ w'.cell? ⟨w.heap.size + 1, 2, none⟩ = some (.slice a2 l2.length c2) ∧ w'.cell? ⟨bp, op + k * 3 + 2, none⟩ = some (.int .i64 cap) ∧ w'.cell? ⟨bm, om + k, none⟩ = some (.int .i64 z) ∧ Hid (Below wa.heap.size wa w')) (by kernel_rfl) ?_ (fun hHeld => ?_)
        · exact ⟨e1, x1, x2, f3, f4, (Below.refl _ _).drew⟩
        refine wpAnyH_take (oi := ⟨_, _, _, _, _, _⟩) (i := 0) (v := ?_) rfl (by kernel_rfl) (by kernel_rfl) (by kernel_rfl) (fun _ _ _ h => h) (Or.inl ⟨by rfl, ?ya1⟩) (by assumption) ?ra1
        case ya1 => (intro w hSw; (try dsimp only at hSw); go_simp; (try with_reducible rfl))
        try simp only [Act.put, List.setIfInBounds_toArray, List.set_cons_zero, List.set_cons_succ]
        refine wpAnyH_take (oi := ⟨_, _, _, _, _, _⟩) (i := 1) (v := ?_) rfl (by kernel_rfl) (by kernel_rfl) (by kernel_rfl) (fun _ _ _ h => h) (Or.inl ⟨by rfl, ?ya2⟩) (by assumption) ?ra2
        case ya2 => (intro w hSw; (try dsimp only at hSw); go_simp; (try with_reducible rfl))
        try simp only [Act.put, List.setIfInBounds_toArray, List.set_cons_zero, List.set_cons_succ]
        refine wpAnyH_take (oi := ⟨_, _, _, _, _, _⟩) (i := 2) (v := ?_) rfl (by kernel_rfl) (by kernel_rfl) (by kernel_rfl) (fun _ _ _ h => h) (Or.inl ⟨by rfl, ?ya3⟩) (by assumption) ?ra3
        case ya3 => (intro w hSw; (try dsimp only at hSw); go_simp; (try with_reducible rfl))
        try simp only [Act.put, List.setIfInBounds_toArray, List.set_cons_zero, List.set_cons_succ]
        refine wpAnyH_take (oi := ⟨_, _, _, _, _, _⟩) (i := 3) (v := ?_) rfl (by kernel_rfl) (by kernel_rfl) (by kernel_rfl) (fun _ _ _ h => h) (Or.inl ⟨by rfl, ?ya4⟩) (by assumption) ?ra4
        case ya4 => (intro w hSw; (try dsimp only at hSw); go_simp; (try with_reducible rfl))
        try simp only [Act.put, List.setIfInBounds_toArray, List.set_cons_zero, List.set_cons_succ]
        refine wpAnyH_take (oi := ⟨_, _, _, _, _, _⟩) (i := 4) (v := ?_) rfl (by kernel_rfl) (by kernel_rfl) (by kernel_rfl) (fun _ _ _ h => h) (Or.inl ⟨by rfl, ?ya5⟩) (by assumption) ?ra5
        case ya5 => (intro w hSw; (try dsimp only at hSw); go_simp; (try with_reducible rfl))
        try simp only [Act.put, List.setIfInBounds_toArray, List.set_cons_zero, List.set_cons_succ]
        refine wpAnyH_take (oi := ⟨_, _, _, _, _, _⟩) (i := 5) (v := ?_) rfl (by kernel_rfl) (by kernel_rfl) (by kernel_rfl) (fun _ _ _ h => h) (Or.inl ⟨by rfl, ?ya6⟩) (by assumption) ?ra6
        case ya6 => (intro w hSw; (try dsimp only at hSw); go_simp; (try with_reducible rfl))
        try simp only [Act.put, List.setIfInBounds_toArray, List.set_cons_zero, List.set_cons_succ]
        refine wpAnyH_take (oi := ⟨_, _, _, _, _, _⟩) (i := 6) (v := ?_) rfl (by kernel_rfl) (by kernel_rfl) (by kernel_rfl) (fun _ _ _ h => h) (Or.inl ⟨by rfl, ?ya7⟩) (by assumption) ?ra7
        case ya7 => (intro w hSw; (try dsimp only at hSw); go_simp; (try with_reducible rfl))
        try simp only [Act.put, List.setIfInBounds_toArray, List.set_cons_zero, List.set_cons_succ]
        refine wpAnyH_take (oi := ⟨_, _, _, _, _, _⟩) (i := 9) (v := ?_) rfl (by kernel_rfl) (by kernel_rfl) (by kernel_rfl) (fun _ _ _ h => h) (Or.inl ⟨by rfl, ?ya8⟩) (by assumption) ?ra8
        case ya8 => (intro w hSw; (try dsimp only at hSw); go_simp; (try with_reducible rfl))
        try simp only [Act.put, List.setIfInBounds_toArray, List.set_cons_zero, List.set_cons_succ]
        refine wpAnyH_take (oi := ⟨_, _, _, _, _, _⟩) (i := 10) (v := ?_) rfl (by kernel_rfl) (by kernel_rfl) (by kernel_rfl) (fun _ _ _ h => h) (Or.inl ⟨by rfl, ?ya9⟩) (by assumption) ?ra9
        case ya9 => (intro w hSw; (try dsimp only at hSw); go_simp; (try with_reducible rfl))
        try simp only [Act.put, List.setIfInBounds_toArray, List.set_cons_zero, List.set_cons_succ]
        refine wpAnyH_take (oi := ⟨_, _, _, _, _, _⟩) (i := 11) (v := ?_) rfl (by kernel_rfl) (by kernel_rfl) (by kernel_rfl) (fun _ _ _ h => h) (Or.inl ⟨by rfl, ?ya10⟩) (by assumption) ?ra10
        case ya10 => (intro w hSw; (try dsimp only at hSw); go_simp; (try with_reducible rfl))
        try simp only [Act.put, List.setIfInBounds_toArray, List.set_cons_zero, List.set_cons_succ]
        refine wpAnyH_ready (rs := [7]) (by kernel_rfl) (by simp) ?_
        refine AllReadyH.cons (o := ⟨_, _, _, _, _, _⟩) rfl (fun K hK => ?_) AllReadyH.nil
        go_simp
        go_at_call 46; refine (C1k.out _ (BAa.out.trans (hHeld.2.2.2.2.2.out.mono BAa.out.size))).mono ?_; rintro e w4 ⟨rfl, K⟩; (try go_wp2_with fail)
        refine hK.out _ _ ?_ (fun hHeld2 => ?_)
        · exact ⟨keepc hHeld.1 K, keepc hHeld.2.1 K, keepc hHeld.2.2.1 K, keepc hHeld.2.2.2.1 K, keepc hHeld.2.2.2.2.1 K, hHeld.2.2.2.2.2.out.trans (K.mono hHeld.2.2.2.2.2.out.size)⟩
        clear hK K hHeld
        have hHeld := hHeld2
        clear hHeld2
        try simp only [Act.put, List.setIfInBounds_toArray, List.set_cons_zero, List.set_cons_succ]
        refine wpAnyH_take (oi := ⟨_, _, _, _, _, _⟩) (i := 8) (v := ?_) rfl (by kernel_rfl) (by kernel_rfl) (by kernel_rfl) (fun _ _ _ h => h) (Or.inl ⟨by rfl, ?ya12⟩) (by assumption) ?ra12
        case ya12 => (intro w hSw; (try dsimp only at hSw); go_simp; (try with_reducible rfl))
        try simp only [Act.put, List.setIfInBounds_toArray, List.set_cons_zero, List.set_cons_succ]
        refine wpAnyH_ready (rs := [12]) (by kernel_rfl) (by simp) ?_
        refine AllReadyH.cons (o := ⟨_, _, _, _, _, _⟩) rfl (fun K hK => ?_) AllReadyH.nil
        go_simp
        go_at_call 46; refine (C2k.out _ (BAa.out.trans (hHeld.2.2.2.2.2.out.mono BAa.out.size))).mono ?_; rintro e w4 ⟨rfl, K⟩; (try go_wp2_with fail)
        refine hK.out _ _ ?_ (fun hHeld2 => ?_)
        · exact ⟨keepc hHeld.1 K, keepc hHeld.2.1 K, keepc hHeld.2.2.1 K, keepc hHeld.2.2.2.1 K, keepc hHeld.2.2.2.2.1 K, hHeld.2.2.2.2.2.out.trans (K.mono hHeld.2.2.2.2.2.out.size)⟩
        clear hK K hHeld
        have hHeld := hHeld2
        clear hHeld2
        try simp only [Act.put, List.setIfInBounds_toArray, List.set_cons_zero, List.set_cons_succ]
        refine wpAnyH_take (oi := ⟨_, _, _, _, _, _⟩) (i := 13) (v := ?_) rfl (by kernel_rfl) (by kernel_rfl) (by kernel_rfl) (fun _ _ _ h => h) (Or.inl ⟨by rfl, ?ya14⟩) (by assumption) ?ra14
        case ya14 => (intro w hSw; (try dsimp only at hSw); go_simp; (try with_reducible rfl))
        try simp only [Act.put, List.setIfInBounds_toArray, List.set_cons_zero, List.set_cons_succ]
        refine wpAnyH_take (oi := ⟨_, _, _, _, _, _⟩) (i := 14) (v := ?_) rfl (by kernel_rfl) (by kernel_rfl) (by kernel_rfl) (fun _ _ _ h => h) (Or.inl ⟨by rfl, ?ya15⟩) (by assumption) ?ra15
        case ya15 => (intro w hSw; (try dsimp only at hSw); go_simp; (try with_reducible rfl))
        try simp only [Act.put, List.setIfInBounds_toArray, List.set_cons_zero, List.set_cons_succ]
        refine wpAnyH_done (by kernel_rfl) ?_ _
        go_wp2_with fail
        go_meet
        exact ⟨rfl, hHeld⟩
      obtain ⟨v0, rfl⟩ : ∃ v, v = wc := ⟨_, rfl⟩
      obtain ⟨rfl, hHeld0⟩ := hcut
      clear v1 v2
      have aft : -99 ≤ z - w1 + w2 ∧ z - w1 + w2 ≤ 1048675 := by omega
      generalize hay : z - w1 + w2 = ay at *
      have HAY := Lib.hid hay
      clear hay
      by_cases qa : z < w1
      · have z1 : decide (z < w1) = true := by simpa using qa
        have E : Hid (bd = true) := by
          show _ = _
          rw [BDk.out]
          rw [decide_eq_true qa]; rfl
        have E2 := Lib.hid (QNk.out E.out)
        clear BDk QNk HF
        go_upto_region 7 with fail
        refine wp_region_held_drew (S := fun w' => w'.cell? ⟨w.heap.size, 1, none⟩ = some (.slice (some ⟨bp, op, none⟩) pl pc) ∧ w'.cell? ⟨w.heap.size + 1, 1, none⟩ = some (.slice a1 l1.length c1) ∧ w'.cell? ⟨w.heap.size + 1, 2, none⟩ = some (.slice a2 l2.length c2) ∧ w'.cell? ⟨bp, op + k * 3 + 2, none⟩ = some (.int .i64 cap) ∧ w'.cell? ⟨bm, om + k, none⟩ = some (.int .i64 z) ∧ Hid (Below wa.heap.size wa w')) (by kernel_rfl) ?_ (fun hHeld => ?_)
        · exact ⟨hHeld0.1, hHeld0.2.1, hHeld0.2.2.1, hHeld0.2.2.2.1, hHeld0.2.2.2.2.1, hHeld0.2.2.2.2.2.out.drew⟩
        refine wpAnyH_take (oi := ⟨_, _, _, _, _, _⟩) (i := 0) (v := ?_) rfl (by kernel_rfl) (by kernel_rfl) (by kernel_rfl) (fun _ _ _ h => h) (Or.inl ⟨by rfl, ?yb0⟩) (by assumption) ?rb0
        case yb0 => (intro w hSw; (try dsimp only at hSw); go_simp; (try with_reducible rfl))
        try simp only [Act.put, List.setIfInBounds_toArray, List.set_cons_zero, List.set_cons_succ]
        refine wpAnyH_take (oi := ⟨_, _, _, _, _, _⟩) (i := 1) (v := ?_) rfl (by kernel_rfl) (by kernel_rfl) (by kernel_rfl) (fun _ _ _ h => h) (Or.inl ⟨by rfl, ?yb1⟩) (by assumption) ?rb1
        case yb1 => (intro w hSw; (try dsimp only at hSw); go_simp; (try with_reducible rfl))
        try simp only [Act.put, List.setIfInBounds_toArray, List.set_cons_zero, List.set_cons_succ]
        refine wpAnyH_take (oi := ⟨_, _, _, _, _, _⟩) (i := 2) (v := ?_) rfl (by kernel_rfl) (by kernel_rfl) (by kernel_rfl) (fun _ _ _ h => h) (Or.inl ⟨by rfl, ?yb2⟩) (by assumption) ?rb2
        case yb2 => (intro w hSw; (try dsimp only at hSw); go_simp; (try with_reducible rfl))
        try simp only [Act.put, List.setIfInBounds_toArray, List.set_cons_zero, List.set_cons_succ]
        refine wpAnyH_take (oi := ⟨_, _, _, _, _, _⟩) (i := 3) (v := ?_) rfl (by kernel_rfl) (by kernel_rfl) (by kernel_rfl) (fun _ _ _ h => h) (Or.inl ⟨by rfl, ?yb3⟩) (by assumption) ?rb3
        case yb3 => (intro w hSw; (try dsimp only at hSw); go_simp; (try with_reducible rfl))
        try simp only [Act.put, List.setIfInBounds_toArray, List.set_cons_zero, List.set_cons_succ]
        refine wpAnyH_take (oi := ⟨_, _, _, _, _, _⟩) (i := 4) (v := ?_) rfl (by kernel_rfl) (by kernel_rfl) (by kernel_rfl) (fun _ _ _ h => h) (Or.inl ⟨by rfl, ?yb4⟩) (by assumption) ?rb4
        case yb4 => (intro w hSw; (try dsimp only at hSw); go_simp; (try with_reducible rfl))
        try simp only [Act.put, List.setIfInBounds_toArray, List.set_cons_zero, List.set_cons_succ]
        refine wpAnyH_take (oi := ⟨_, _, _, _, _, _⟩) (i := 5) (v := ?_) rfl (by kernel_rfl) (by kernel_rfl) (by kernel_rfl) (fun _ _ _ h => h) (Or.inl ⟨by rfl, ?yb5⟩) (by assumption) ?rb5
        case yb5 => (intro w hSw; (try dsimp only at hSw); go_simp; (try with_reducible rfl))
        try simp only [Act.put, List.setIfInBounds_toArray, List.set_cons_zero, List.set_cons_succ]
        refine wpAnyH_take (oi := ⟨_, _, _, _, _, _⟩) (i := 6) (v := ?_) rfl (by kernel_rfl) (by kernel_rfl) (by kernel_rfl) (fun _ _ _ h => h) (Or.inl ⟨by rfl, ?yb6⟩) (by assumption) ?rb6
        case yb6 => (intro w hSw; (try dsimp only at hSw); go_simp; (try with_reducible rfl))
        try simp only [Act.put, List.setIfInBounds_toArray, List.set_cons_zero, List.set_cons_succ]
        refine wpAnyH_ready (rs := [7]) (by kernel_rfl) (by simp) ?_
        refine AllReadyH.cons (o := ⟨_, _, _, _, _, _⟩) rfl (fun K hK => ?_) AllReadyH.nil
        go_simp
        go_at_call 46; refine (C1k.out _ (BAa.out.trans (hHeld.2.2.2.2.2.out.mono BAa.out.size))).mono ?_; rintro e w4 ⟨rfl, K⟩; (try go_wp2_with fail)
        refine hK.out _ _ ?_ (fun hHeld2 => ?_)
        · exact ⟨keepc hHeld.1 K, keepc hHeld.2.1 K, keepc hHeld.2.2.1 K, keepc hHeld.2.2.2.1 K, keepc hHeld.2.2.2.2.1 K, hHeld.2.2.2.2.2.out.trans (K.mono hHeld.2.2.2.2.2.out.size)⟩
        clear hK K hHeld
        have hHeld := hHeld2
        clear hHeld2
        try simp only [Act.put, List.setIfInBounds_toArray, List.set_cons_zero, List.set_cons_succ]
        refine wpAnyH_take (oi := ⟨_, _, _, _, _, _⟩) (i := 8) (v := ?_) rfl (by kernel_rfl) (by kernel_rfl) (by kernel_rfl) (fun _ _ _ h => h) (Or.inl ⟨by rfl, ?yb8⟩) (by assumption) ?rb8
        case yb8 => (intro w hSw; (try dsimp only at hSw); go_simp; (try with_reducible rfl))
        try simp only [Act.put, List.setIfInBounds_toArray, List.set_cons_zero, List.set_cons_succ]
        refine wpAnyH_take (oi := ⟨_, _, _, _, _, _⟩) (i := 9) (v := ?_) rfl (by kernel_rfl) (by kernel_rfl) (by kernel_rfl) (fun _ _ _ h => h) (Or.inl ⟨by rfl, ?yb9⟩) (by assumption) ?rb9
        case yb9 => (intro w hSw; (try dsimp only at hSw); go_simp; (try with_reducible rfl))
        try simp only [Act.put, List.setIfInBounds_toArray, List.set_cons_zero, List.set_cons_succ]
        refine wpAnyH_take (oi := ⟨_, _, _, _, _, _⟩) (i := 10) rfl (by kernel_rfl) (by kernel_rfl) (by kernel_rfl) (fun _ _ _ h => h) (Or.inr ⟨by rfl, rfl⟩) (by assumption) ?rb10
        try simp only [Act.put, List.setIfInBounds_toArray, List.set_cons_zero, List.set_cons_succ]
        refine wpAnyH_take (oi := ⟨_, _, _, _, _, _⟩) (i := 11) rfl (by kernel_rfl) (by kernel_rfl) (by kernel_rfl) (fun _ _ _ h => h) (Or.inr ⟨by rfl, rfl⟩) (by assumption) ?rb11
        try simp only [Act.put, List.setIfInBounds_toArray, List.set_cons_zero, List.set_cons_succ]
        refine wpAnyH_take (oi := ⟨_, _, _, _, _, _⟩) (i := 12) rfl (by kernel_rfl) (by kernel_rfl) (by kernel_rfl) (fun _ _ _ h => h) (Or.inr ⟨by rfl, rfl⟩) (by assumption) ?rb12
        try simp only [Act.put, List.setIfInBounds_toArray, List.set_cons_zero, List.set_cons_succ]
        refine wpAnyH_take (oi := ⟨_, _, _, _, _, _⟩) (i := 13) rfl (by kernel_rfl) (by kernel_rfl) (by kernel_rfl) (fun _ _ _ h => h) (Or.inr ⟨by rfl, rfl⟩) (by assumption) ?rb13
        try simp only [Act.put, List.setIfInBounds_toArray, List.set_cons_zero, List.set_cons_succ]
        refine wpAnyH_take (oi := ⟨_, _, _, _, _, _⟩) (i := 14) rfl (by kernel_rfl) (by kernel_rfl) (by kernel_rfl) (fun _ _ _ h => h) (Or.inr ⟨by rfl, rfl⟩) (by assumption) ?rb14
        try simp only [Act.put, List.setIfInBounds_toArray, List.set_cons_zero, List.set_cons_succ]
        refine wpAnyH_take (oi := ⟨_, _, _, _, _, _⟩) (i := 15) rfl (by kernel_rfl) (by kernel_rfl) (by kernel_rfl) (fun _ _ _ h => h) (Or.inr ⟨by rfl, rfl⟩) (by assumption) ?rb15
        try simp only [Act.put, List.setIfInBounds_toArray, List.set_cons_zero, List.set_cons_succ]
        refine wpAnyH_take (oi := ⟨_, _, _, _, _, _⟩) (i := 16) rfl (by kernel_rfl) (by kernel_rfl) (by kernel_rfl) (fun _ _ _ h => h) (Or.inr ⟨by rfl, rfl⟩) (by assumption) ?rb16
        try simp only [Act.put, List.setIfInBounds_toArray, List.set_cons_zero, List.set_cons_succ]
        refine wpAnyH_take (oi := ⟨_, _, _, _, _, _⟩) (i := 17) rfl (by kernel_rfl) (by kernel_rfl) (by kernel_rfl) (fun _ _ _ h => h) (Or.inr ⟨by rfl, rfl⟩) (by assumption) ?rb17
        try simp only [Act.put, List.setIfInBounds_toArray, List.set_cons_zero, List.set_cons_succ]
        refine wpAnyH_take (oi := ⟨_, _, _, _, _, _⟩) (i := 18) rfl (by kernel_rfl) (by kernel_rfl) (by kernel_rfl) (fun _ _ _ h => h) (Or.inr ⟨by rfl, rfl⟩) (by assumption) ?rb18
        try simp only [Act.put, List.setIfInBounds_toArray, List.set_cons_zero, List.set_cons_succ]
        refine wpAnyH_take (oi := ⟨_, _, _, _, _, _⟩) (i := 19) rfl (by kernel_rfl) (by kernel_rfl) (by kernel_rfl) (fun _ _ _ h => h) (Or.inr ⟨by rfl, rfl⟩) (by assumption) ?rb19
        try simp only [Act.put, List.setIfInBounds_toArray, List.set_cons_zero, List.set_cons_succ]
        refine wpAnyH_take (oi := ⟨_, _, _, _, _, _⟩) (i := 20) (v := ?_) rfl (by kernel_rfl) (by kernel_rfl) (by kernel_rfl) (fun _ _ _ h => h) (Or.inl ⟨by rfl, ?yb20⟩) (by assumption) ?rb20
        case yb20 => (intro w hSw; (try dsimp only at hSw); go_simp; (try with_reducible rfl))
        try simp only [Act.put, List.setIfInBounds_toArray, List.set_cons_zero, List.set_cons_succ]
        refine wpAnyH_take (oi := ⟨_, _, _, _, _, _⟩) (i := 21) (v := ?_) rfl (by kernel_rfl) (by kernel_rfl) (by kernel_rfl) (fun _ _ _ h => h) (Or.inl ⟨by rfl, ?yb21⟩) (by assumption) ?rb21
        case yb21 => (intro w hSw; (try dsimp only at hSw); go_simp; (try with_reducible rfl))
        try simp only [Act.put, List.setIfInBounds_toArray, List.set_cons_zero, List.set_cons_succ]
        refine wpAnyH_take (oi := ⟨_, _, _, _, _, _⟩) (i := 22) rfl (by kernel_rfl) (by kernel_rfl) (by kernel_rfl) (fun _ _ _ h => h) (Or.inr ⟨by rfl, rfl⟩) (by assumption) ?rb22
        try simp only [Act.put, List.setIfInBounds_toArray, List.set_cons_zero, List.set_cons_succ]
        refine wpAnyH_take (oi := ⟨_, _, _, _, _, _⟩) (i := 23) rfl (by kernel_rfl) (by kernel_rfl) (by kernel_rfl) (fun _ _ _ h => h) (Or.inr ⟨by rfl, rfl⟩) (by assumption) ?rb23
        try simp only [Act.put, List.setIfInBounds_toArray, List.set_cons_zero, List.set_cons_succ]
        refine wpAnyH_take (oi := ⟨_, _, _, _, _, _⟩) (i := 24) rfl (by kernel_rfl) (by kernel_rfl) (by kernel_rfl) (fun _ _ _ h => h) (Or.inr ⟨by rfl, rfl⟩) (by assumption) ?rb24
        try simp only [Act.put, List.setIfInBounds_toArray, List.set_cons_zero, List.set_cons_succ]
        refine wpAnyH_take (oi := ⟨_, _, _, _, _, _⟩) (i := 25) rfl (by kernel_rfl) (by kernel_rfl) (by kernel_rfl) (fun _ _ _ h => h) (Or.inr ⟨by rfl, rfl⟩) (by assumption) ?rb25
        try simp only [Act.put, List.setIfInBounds_toArray, List.set_cons_zero, List.set_cons_succ]
        refine wpAnyH_take (oi := ⟨_, _, _, _, _, _⟩) (i := 26) rfl (by kernel_rfl) (by kernel_rfl) (by kernel_rfl) (fun _ _ _ h => h) (Or.inr ⟨by rfl, rfl⟩) (by assumption) ?rb26
        try simp only [Act.put, List.setIfInBounds_toArray, List.set_cons_zero, List.set_cons_succ]
        refine wpAnyH_take (oi := ⟨_, _, _, _, _, _⟩) (i := 27) rfl (by kernel_rfl) (by kernel_rfl) (by kernel_rfl) (fun _ _ _ h => h) (Or.inr ⟨by rfl, rfl⟩) (by assumption) ?rb27
        try simp only [Act.put, List.setIfInBounds_toArray, List.set_cons_zero, List.set_cons_succ]
        refine wpAnyH_take (oi := ⟨_, _, _, _, _, _⟩) (i := 28) rfl (by kernel_rfl) (by kernel_rfl) (by kernel_rfl) (fun _ _ _ h => h) (Or.inr ⟨by rfl, rfl⟩) (by assumption) ?rb28
        try simp only [Act.put, List.setIfInBounds_toArray, List.set_cons_zero, List.set_cons_succ]
        refine wpAnyH_take (oi := ⟨_, _, _, _, _, _⟩) (i := 29) rfl (by kernel_rfl) (by kernel_rfl) (by kernel_rfl) (fun _ _ _ h => h) (Or.inr ⟨by rfl, rfl⟩) (by assumption) ?rb29
        try simp only [Act.put, List.setIfInBounds_toArray, List.set_cons_zero, List.set_cons_succ]
        refine wpAnyH_take (oi := ⟨_, _, _, _, _, _⟩) (i := 30) rfl (by kernel_rfl) (by kernel_rfl) (by kernel_rfl) (fun _ _ _ h => h) (Or.inr ⟨by rfl, rfl⟩) (by assumption) ?rb30
        try simp only [Act.put, List.setIfInBounds_toArray, List.set_cons_zero, List.set_cons_succ]
        refine wpAnyH_take (oi := ⟨_, _, _, _, _, _⟩) (i := 31) rfl (by kernel_rfl) (by kernel_rfl) (by kernel_rfl) (fun _ _ _ h => h) (Or.inr ⟨by rfl, rfl⟩) (by assumption) ?rb31
        try simp only [Act.put, List.setIfInBounds_toArray, List.set_cons_zero, List.set_cons_succ]
        refine wpAnyH_take (oi := ⟨_, _, _, _, _, _⟩) (i := 32) rfl (by kernel_rfl) (by kernel_rfl) (by kernel_rfl) (fun _ _ _ h => h) (Or.inr ⟨by rfl, rfl⟩) (by assumption) ?rb32
        try simp only [Act.put, List.setIfInBounds_toArray, List.set_cons_zero, List.set_cons_succ]
        refine wpAnyH_take (oi := ⟨_, _, _, _, _, _⟩) (i := 33) rfl (by kernel_rfl) (by kernel_rfl) (by kernel_rfl) (fun _ _ _ h => h) (Or.inr ⟨by rfl, rfl⟩) (by assumption) ?rb33
        try simp only [Act.put, List.setIfInBounds_toArray, List.set_cons_zero, List.set_cons_succ]
        refine wpAnyH_take (oi := ⟨_, _, _, _, _, _⟩) (i := 34) rfl (by kernel_rfl) (by kernel_rfl) (by kernel_rfl) (fun _ _ _ h => h) (Or.inr ⟨by rfl, rfl⟩) (by assumption) ?rb34
        try simp only [Act.put, List.setIfInBounds_toArray, List.set_cons_zero, List.set_cons_succ]
        refine wpAnyH_take (oi := ⟨_, _, _, _, _, _⟩) (i := 35) rfl (by kernel_rfl) (by kernel_rfl) (by kernel_rfl) (fun _ _ _ h => h) (Or.inr ⟨by rfl, rfl⟩) (by assumption) ?rb35
        try simp only [Act.put, List.setIfInBounds_toArray, List.set_cons_zero, List.set_cons_succ]
        refine wpAnyH_take (oi := ⟨_, _, _, _, _, _⟩) (i := 36) rfl (by kernel_rfl) (by kernel_rfl) (by kernel_rfl) (fun _ _ _ h => h) (Or.inr ⟨by rfl, rfl⟩) (by assumption) ?rb36
        try simp only [Act.put, List.setIfInBounds_toArray, List.set_cons_zero, List.set_cons_succ]
        refine wpAnyH_take (oi := ⟨_, _, _, _, _, _⟩) (i := 37) rfl (by kernel_rfl) (by kernel_rfl) (by kernel_rfl) (fun _ _ _ h => h) (Or.inr ⟨by rfl, rfl⟩) (by assumption) ?rb37
        try simp only [Act.put, List.setIfInBounds_toArray, List.set_cons_zero, List.set_cons_succ]
        refine wpAnyH_take (oi := ⟨_, _, _, _, _, _⟩) (i := 38) rfl (by kernel_rfl) (by kernel_rfl) (by kernel_rfl) (fun _ _ _ h => h) (Or.inr ⟨by rfl, rfl⟩) (by assumption) ?rb38
        try simp only [Act.put, List.setIfInBounds_toArray, List.set_cons_zero, List.set_cons_succ]
        refine wpAnyH_take (oi := ⟨_, _, _, _, _, _⟩) (i := 39) (v := ?_) rfl (by kernel_rfl) (by kernel_rfl) (by kernel_rfl) (fun _ _ _ h => h) (Or.inl ⟨by rfl, ?yb39⟩) (by assumption) ?rb39
        case yb39 => (intro w hSw; (try dsimp only at hSw); go_simp; (try with_reducible rfl))
        try simp only [Act.put, List.setIfInBounds_toArray, List.set_cons_zero, List.set_cons_succ]
        refine wpAnyH_done (by kernel_rfl) ?_ _
        have B9 := Lib.hid (BAa.out.trans (hHeld.2.2.2.2.2.out.mono BAa.out.size))
        have H9 := Lib.hid (HBa.out.trans (hHeld.2.2.2.2.2.out.mono (by have := HBa.out.size; simp at this; omega)))
        clear hHeld hHeld0 C1k C2k E
        go_wp2
        go_ret
        exact ⟨by rw [E2.out]; rfl, B9.out⟩
      · have z1 : decide (z < w1) = false := by simpa using qa
        by_cases qh : 0 < w3
        · have z2 : decide (0 < w3) = true := by simpa using qh
          by_cases qi : w3 ≤ z
          · have z3 : decide (w3 ≤ z) = true := by simpa using qi
            have E : Hid (bd = true) := by
              show _ = _
              rw [BDk.out]
              rw [decide_eq_true (p := 0 < w3 ∧ w3 ≤ z) ⟨qh, qi⟩]; simp
            have E2 := Lib.hid (QNk.out E.out)
            clear BDk QNk HF
            go_upto_region 7 with fail
            refine wp_region_held_drew (S := fun w' => w'.cell? ⟨w.heap.size, 1, none⟩ = some (.slice (some ⟨bp, op, none⟩) pl pc) ∧ w'.cell? ⟨w.heap.size + 1, 1, none⟩ = some (.slice a1 l1.length c1) ∧ w'.cell? ⟨w.heap.size + 1, 2, none⟩ = some (.slice a2 l2.length c2) ∧ w'.cell? ⟨bp, op + k * 3 + 2, none⟩ = some (.int .i64 cap) ∧ w'.cell? ⟨bm, om + k, none⟩ = some (.int .i64 z) ∧ Hid (Below wa.heap.size wa w')) (by kernel_rfl) ?_ (fun hHeld => ?_)
            · exact ⟨hHeld0.1, hHeld0.2.1, hHeld0.2.2.1, hHeld0.2.2.2.1, hHeld0.2.2.2.2.1, hHeld0.2.2.2.2.2.out.drew⟩
            refine wpAnyH_take (oi := ⟨_, _, _, _, _, _⟩) (i := 0) (v := ?_) rfl (by kernel_rfl) (by kernel_rfl) (by kernel_rfl) (fun _ _ _ h => h) (Or.inl ⟨by rfl, ?yc0⟩) (by assumption) ?rc0
            case yc0 => (intro w hSw; (try dsimp only at hSw); go_simp; (try with_reducible rfl))
            try simp only [Act.put, List.setIfInBounds_toArray, List.set_cons_zero, List.set_cons_succ]
            refine wpAnyH_take (oi := ⟨_, _, _, _, _, _⟩) (i := 1) (v := ?_) rfl (by kernel_rfl) (by kernel_rfl) (by kernel_rfl) (fun _ _ _ h => h) (Or.inl ⟨by rfl, ?yc1⟩) (by assumption) ?rc1
            case yc1 => (intro w hSw; (try dsimp only at hSw); go_simp; (try with_reducible rfl))
            try simp only [Act.put, List.setIfInBounds_toArray, List.set_cons_zero, List.set_cons_succ]
            refine wpAnyH_take (oi := ⟨_, _, _, _, _, _⟩) (i := 2) (v := ?_) rfl (by kernel_rfl) (by kernel_rfl) (by kernel_rfl) (fun _ _ _ h => h) (Or.inl ⟨by rfl, ?yc2⟩) (by assumption) ?rc2
            case yc2 => (intro w hSw; (try dsimp only at hSw); go_simp; (try with_reducible rfl))
            try simp only [Act.put, List.setIfInBounds_toArray, List.set_cons_zero, List.set_cons_succ]
            refine wpAnyH_take (oi := ⟨_, _, _, _, _, _⟩) (i := 3) (v := ?_) rfl (by kernel_rfl) (by kernel_rfl) (by kernel_rfl) (fun _ _ _ h => h) (Or.inl ⟨by rfl, ?yc3⟩) (by assumption) ?rc3
            case yc3 => (intro w hSw; (try dsimp only at hSw); go_simp; (try with_reducible rfl))
            try simp only [Act.put, List.setIfInBounds_toArray, List.set_cons_zero, List.set_cons_succ]
            refine wpAnyH_take (oi := ⟨_, _, _, _, _, _⟩) (i := 4) (v := ?_) rfl (by kernel_rfl) (by kernel_rfl) (by kernel_rfl) (fun _ _ _ h => h) (Or.inl ⟨by rfl, ?yc4⟩) (by assumption) ?rc4
            case yc4 => (intro w hSw; (try dsimp only at hSw); go_simp; (try with_reducible rfl))
            try simp only [Act.put, List.setIfInBounds_toArray, List.set_cons_zero, List.set_cons_succ]
            refine wpAnyH_take (oi := ⟨_, _, _, _, _, _⟩) (i := 5) (v := ?_) rfl (by kernel_rfl) (by kernel_rfl) (by kernel_rfl) (fun _ _ _ h => h) (Or.inl ⟨by rfl, ?yc5⟩) (by assumption) ?rc5
            case yc5 => (intro w hSw; (try dsimp only at hSw); go_simp; (try with_reducible rfl))
            try simp only [Act.put, List.setIfInBounds_toArray, List.set_cons_zero, List.set_cons_succ]
            refine wpAnyH_take (oi := ⟨_, _, _, _, _, _⟩) (i := 6) (v := ?_) rfl (by kernel_rfl) (by kernel_rfl) (by kernel_rfl) (fun _ _ _ h => h) (Or.inl ⟨by rfl, ?yc6⟩) (by assumption) ?rc6
            case yc6 => (intro w hSw; (try dsimp only at hSw); go_simp; (try with_reducible rfl))
            try simp only [Act.put, List.setIfInBounds_toArray, List.set_cons_zero, List.set_cons_succ]
            refine wpAnyH_ready (rs := [7]) (by kernel_rfl) (by simp) ?_
            refine AllReadyH.cons (o := ⟨_, _, _, _, _, _⟩) rfl (fun K hK => ?_) AllReadyH.nil
            go_simp
            go_at_call 46; refine (C1k.out _ (BAa.out.trans (hHeld.2.2.2.2.2.out.mono BAa.out.size))).mono ?_; rintro e w4 ⟨rfl, K⟩; (try go_wp2_with fail)
            refine hK.out _ _ ?_ (fun hHeld2 => ?_)
            · exact ⟨keepc hHeld.1 K, keepc hHeld.2.1 K, keepc hHeld.2.2.1 K, keepc hHeld.2.2.2.1 K, keepc hHeld.2.2.2.2.1 K, hHeld.2.2.2.2.2.out.trans (K.mono hHeld.2.2.2.2.2.out.size)⟩
            clear hK K hHeld
            have hHeld := hHeld2
            clear hHeld2
            try simp only [Act.put, List.setIfInBounds_toArray, List.set_cons_zero, List.set_cons_succ]
            refine wpAnyH_take (oi := ⟨_, _, _, _, _, _⟩) (i := 8) (v := ?_) rfl (by kernel_rfl) (by kernel_rfl) (by kernel_rfl) (fun _ _ _ h => h) (Or.inl ⟨by rfl, ?yc8⟩) (by assumption) ?rc8
            case yc8 => (intro w hSw; (try dsimp only at hSw); go_simp; (try with_reducible rfl))
            try simp only [Act.put, List.setIfInBounds_toArray, List.set_cons_zero, List.set_cons_succ]
            refine wpAnyH_take (oi := ⟨_, _, _, _, _, _⟩) (i := 9) (v := ?_) rfl (by kernel_rfl) (by kernel_rfl) (by kernel_rfl) (fun _ _ _ h => h) (Or.inl ⟨by rfl, ?yc9⟩) (by assumption) ?rc9
            case yc9 => (intro w hSw; (try dsimp only at hSw); go_simp; (try with_reducible rfl))
            try simp only [Act.put, List.setIfInBounds_toArray, List.set_cons_zero, List.set_cons_succ]
            refine wpAnyH_take (oi := ⟨_, _, _, _, _, _⟩) (i := 10) (v := ?_) rfl (by kernel_rfl) (by kernel_rfl) (by kernel_rfl) (fun _ _ _ h => h) (Or.inl ⟨by rfl, ?yc10⟩) (by assumption) ?rc10
            case yc10 => (intro w hSw; (try dsimp only at hSw); go_simp; (try with_reducible rfl))
            try simp only [Act.put, List.setIfInBounds_toArray, List.set_cons_zero, List.set_cons_succ]
            refine wpAnyH_take (oi := ⟨_, _, _, _, _, _⟩) (i := 11) (v := ?_) rfl (by kernel_rfl) (by kernel_rfl) (by kernel_rfl) (fun _ _ _ h => h) (Or.inl ⟨by rfl, ?yc11⟩) (by assumption) ?rc11
            case yc11 => (intro w hSw; (try dsimp only at hSw); go_simp; (try with_reducible rfl))
            try simp only [Act.put, List.setIfInBounds_toArray, List.set_cons_zero, List.set_cons_succ]
            refine wpAnyH_take (oi := ⟨_, _, _, _, _, _⟩) (i := 12) (v := ?_) rfl (by kernel_rfl) (by kernel_rfl) (by kernel_rfl) (fun _ _ _ h => h) (Or.inl ⟨by rfl, ?yc12⟩) (by assumption) ?rc12
            case yc12 => (intro w hSw; (try dsimp only at hSw); go_simp; (try with_reducible rfl))
            try simp only [Act.put, List.setIfInBounds_toArray, List.set_cons_zero, List.set_cons_succ]
            refine wpAnyH_take (oi := ⟨_, _, _, _, _, _⟩) (i := 13) (v := ?_) rfl (by kernel_rfl) (by kernel_rfl) (by kernel_rfl) (fun _ _ _ h => h) (Or.inl ⟨by rfl, ?yc13⟩) (by assumption) ?rc13
            case yc13 => (intro w hSw; (try dsimp only at hSw); go_simp; (try with_reducible rfl))
            try simp only [Act.put, List.setIfInBounds_toArray, List.set_cons_zero, List.set_cons_succ]
            refine wpAnyH_take (oi := ⟨_, _, _, _, _, _⟩) (i := 14) (v := ?_) rfl (by kernel_rfl) (by kernel_rfl) (by kernel_rfl) (fun _ _ _ h => h) (Or.inl ⟨by rfl, ?yc14⟩) (by assumption) ?rc14
            case yc14 => (intro w hSw; (try dsimp only at hSw); go_simp; (try with_reducible rfl))
            try simp only [Act.put, List.setIfInBounds_toArray, List.set_cons_zero, List.set_cons_succ]
            refine wpAnyH_take (oi := ⟨_, _, _, _, _, _⟩) (i := 15) (v := ?_) rfl (by kernel_rfl) (by kernel_rfl) (by kernel_rfl) (fun _ _ _ h => h) (Or.inl ⟨by rfl, ?yc15⟩) (by assumption) ?rc15
            case yc15 => (intro w hSw; (try dsimp only at hSw); go_simp; (try with_reducible rfl))
            try simp only [Act.put, List.setIfInBounds_toArray, List.set_cons_zero, List.set_cons_succ]
            refine wpAnyH_take (oi := ⟨_, _, _, _, _, _⟩) (i := 16) (v := ?_) rfl (by kernel_rfl) (by kernel_rfl) (by kernel_rfl) (fun _ _ _ h => h) (Or.inl ⟨by rfl, ?yc16⟩) (by assumption) ?rc16
            case yc16 => (intro w hSw; (try dsimp only at hSw); go_simp; (try with_reducible rfl))
            try simp only [Act.put, List.setIfInBounds_toArray, List.set_cons_zero, List.set_cons_succ]
            refine wpAnyH_take (oi := ⟨_, _, _, _, _, _⟩) (i := 17) (v := ?_) rfl (by kernel_rfl) (by kernel_rfl) (by kernel_rfl) (fun _ _ _ h => h) (Or.inl ⟨by rfl, ?yc17⟩) (by assumption) ?rc17
            case yc17 => (intro w hSw; (try dsimp only at hSw); go_simp; (try with_reducible rfl))
            try simp only [Act.put, List.setIfInBounds_toArray, List.set_cons_zero, List.set_cons_succ]
            refine wpAnyH_take (oi := ⟨_, _, _, _, _, _⟩) (i := 18) (v := ?_) rfl (by kernel_rfl) (by kernel_rfl) (by kernel_rfl) (fun _ _ _ h => h) (Or.inl ⟨by rfl, ?yc18⟩) (by assumption) ?rc18
            case yc18 => (intro w hSw; (try dsimp only at hSw); go_simp; (try with_reducible rfl))
            try simp only [Act.put, List.setIfInBounds_toArray, List.set_cons_zero, List.set_cons_succ]
            refine wpAnyH_take (oi := ⟨_, _, _, _, _, _⟩) (i := 19) (v := ?_) rfl (by kernel_rfl) (by kernel_rfl) (by kernel_rfl) (fun _ _ _ h => h) (Or.inl ⟨by rfl, ?yc19⟩) (by assumption) ?rc19
            case yc19 => (intro w hSw; (try dsimp only at hSw); go_simp; (try with_reducible rfl))
            try simp only [Act.put, List.setIfInBounds_toArray, List.set_cons_zero, List.set_cons_succ]
            refine wpAnyH_take (oi := ⟨_, _, _, _, _, _⟩) (i := 20) (v := ?_) rfl (by kernel_rfl) (by kernel_rfl) (by kernel_rfl) (fun _ _ _ h => h) (Or.inl ⟨by rfl, ?yc20⟩) (by assumption) ?rc20
            case yc20 => (intro w hSw; (try dsimp only at hSw); go_simp; (try with_reducible rfl))
            try simp only [Act.put, List.setIfInBounds_toArray, List.set_cons_zero, List.set_cons_succ]
            refine wpAnyH_take (oi := ⟨_, _, _, _, _, _⟩) (i := 21) (v := ?_) rfl (by kernel_rfl) (by kernel_rfl) (by kernel_rfl) (fun _ _ _ h => h) (Or.inl ⟨by rfl, ?yc21⟩) (by assumption) ?rc21
            case yc21 => (intro w hSw; (try dsimp only at hSw); go_simp; (try with_reducible rfl))
            try simp only [Act.put, List.setIfInBounds_toArray, List.set_cons_zero, List.set_cons_succ]
            refine wpAnyH_take (oi := ⟨_, _, _, _, _, _⟩) (i := 22) rfl (by kernel_rfl) (by kernel_rfl) (by kernel_rfl) (fun _ _ _ h => h) (Or.inr ⟨by rfl, rfl⟩) (by assumption) ?rc22
            try simp only [Act.put, List.setIfInBounds_toArray, List.set_cons_zero, List.set_cons_succ]
            refine wpAnyH_take (oi := ⟨_, _, _, _, _, _⟩) (i := 23) rfl (by kernel_rfl) (by kernel_rfl) (by kernel_rfl) (fun _ _ _ h => h) (Or.inr ⟨by rfl, rfl⟩) (by assumption) ?rc23
            try simp only [Act.put, List.setIfInBounds_toArray, List.set_cons_zero, List.set_cons_succ]
            refine wpAnyH_take (oi := ⟨_, _, _, _, _, _⟩) (i := 24) rfl (by kernel_rfl) (by kernel_rfl) (by kernel_rfl) (fun _ _ _ h => h) (Or.inr ⟨by rfl, rfl⟩) (by assumption) ?rc24
            try simp only [Act.put, List.setIfInBounds_toArray, List.set_cons_zero, List.set_cons_succ]
            refine wpAnyH_take (oi := ⟨_, _, _, _, _, _⟩) (i := 25) rfl (by kernel_rfl) (by kernel_rfl) (by kernel_rfl) (fun _ _ _ h => h) (Or.inr ⟨by rfl, rfl⟩) (by assumption) ?rc25
            try simp only [Act.put, List.setIfInBounds_toArray, List.set_cons_zero, List.set_cons_succ]
            refine wpAnyH_take (oi := ⟨_, _, _, _, _, _⟩) (i := 26) rfl (by kernel_rfl) (by kernel_rfl) (by kernel_rfl) (fun _ _ _ h => h) (Or.inr ⟨by rfl, rfl⟩) (by assumption) ?rc26
            try simp only [Act.put, List.setIfInBounds_toArray, List.set_cons_zero, List.set_cons_succ]
            refine wpAnyH_take (oi := ⟨_, _, _, _, _, _⟩) (i := 27) rfl (by kernel_rfl) (by kernel_rfl) (by kernel_rfl) (fun _ _ _ h => h) (Or.inr ⟨by rfl, rfl⟩) (by assumption) ?rc27
            try simp only [Act.put, List.setIfInBounds_toArray, List.set_cons_zero, List.set_cons_succ]
            refine wpAnyH_take (oi := ⟨_, _, _, _, _, _⟩) (i := 28) rfl (by kernel_rfl) (by kernel_rfl) (by kernel_rfl) (fun _ _ _ h => h) (Or.inr ⟨by rfl, rfl⟩) (by assumption) ?rc28
            try simp only [Act.put, List.setIfInBounds_toArray, List.set_cons_zero, List.set_cons_succ]
            refine wpAnyH_take (oi := ⟨_, _, _, _, _, _⟩) (i := 29) rfl (by kernel_rfl) (by kernel_rfl) (by kernel_rfl) (fun _ _ _ h => h) (Or.inr ⟨by rfl, rfl⟩) (by assumption) ?rc29
            try simp only [Act.put, List.setIfInBounds_toArray, List.set_cons_zero, List.set_cons_succ]
            refine wpAnyH_take (oi := ⟨_, _, _, _, _, _⟩) (i := 30) rfl (by kernel_rfl) (by kernel_rfl) (by kernel_rfl) (fun _ _ _ h => h) (Or.inr ⟨by rfl, rfl⟩) (by assumption) ?rc30
            try simp only [Act.put, List.setIfInBounds_toArray, List.set_cons_zero, List.set_cons_succ]
            refine wpAnyH_take (oi := ⟨_, _, _, _, _, _⟩) (i := 31) rfl (by kernel_rfl) (by kernel_rfl) (by kernel_rfl) (fun _ _ _ h => h) (Or.inr ⟨by rfl, rfl⟩) (by assumption) ?rc31
            try simp only [Act.put, List.setIfInBounds_toArray, List.set_cons_zero, List.set_cons_succ]
            refine wpAnyH_take (oi := ⟨_, _, _, _, _, _⟩) (i := 32) rfl (by kernel_rfl) (by kernel_rfl) (by kernel_rfl) (fun _ _ _ h => h) (Or.inr ⟨by rfl, rfl⟩) (by assumption) ?rc32
            try simp only [Act.put, List.setIfInBounds_toArray, List.set_cons_zero, List.set_cons_succ]
            refine wpAnyH_take (oi := ⟨_, _, _, _, _, _⟩) (i := 33) rfl (by kernel_rfl) (by kernel_rfl) (by kernel_rfl) (fun _ _ _ h => h) (Or.inr ⟨by rfl, rfl⟩) (by assumption) ?rc33
            try simp only [Act.put, List.setIfInBounds_toArray, List.set_cons_zero, List.set_cons_succ]
            refine wpAnyH_take (oi := ⟨_, _, _, _, _, _⟩) (i := 34) rfl (by kernel_rfl) (by kernel_rfl) (by kernel_rfl) (fun _ _ _ h => h) (Or.inr ⟨by rfl, rfl⟩) (by assumption) ?rc34
            try simp only [Act.put, List.setIfInBounds_toArray, List.set_cons_zero, List.set_cons_succ]
            refine wpAnyH_take (oi := ⟨_, _, _, _, _, _⟩) (i := 35) rfl (by kernel_rfl) (by kernel_rfl) (by kernel_rfl) (fun _ _ _ h => h) (Or.inr ⟨by rfl, rfl⟩) (by assumption) ?rc35
            try simp only [Act.put, List.setIfInBounds_toArray, List.set_cons_zero, List.set_cons_succ]
            refine wpAnyH_take (oi := ⟨_, _, _, _, _, _⟩) (i := 36) rfl (by kernel_rfl) (by kernel_rfl) (by kernel_rfl) (fun _ _ _ h => h) (Or.inr ⟨by rfl, rfl⟩) (by assumption) ?rc36
            try simp only [Act.put, List.setIfInBounds_toArray, List.set_cons_zero, List.set_cons_succ]
            refine wpAnyH_take (oi := ⟨_, _, _, _, _, _⟩) (i := 37) rfl (by kernel_rfl) (by kernel_rfl) (by kernel_rfl) (fun _ _ _ h => h) (Or.inr ⟨by rfl, rfl⟩) (by assumption) ?rc37
            try simp only [Act.put, List.setIfInBounds_toArray, List.set_cons_zero, List.set_cons_succ]
            refine wpAnyH_take (oi := ⟨_, _, _, _, _, _⟩) (i := 38) rfl (by kernel_rfl) (by kernel_rfl) (by kernel_rfl) (fun _ _ _ h => h) (Or.inr ⟨by rfl, rfl⟩) (by assumption) ?rc38
            try simp only [Act.put, List.setIfInBounds_toArray, List.set_cons_zero, List.set_cons_succ]
            refine wpAnyH_take (oi := ⟨_, _, _, _, _, _⟩) (i := 39) (v := ?_) rfl (by kernel_rfl) (by kernel_rfl) (by kernel_rfl) (fun _ _ _ h => h) (Or.inl ⟨by rfl, ?yc39⟩) (by assumption) ?rc39
            case yc39 => (intro w hSw; (try dsimp only at hSw); go_simp; (try with_reducible rfl))
            try simp only [Act.put, List.setIfInBounds_toArray, List.set_cons_zero, List.set_cons_succ]
            refine wpAnyH_done (by kernel_rfl) ?_ _
            have B9 := Lib.hid (BAa.out.trans (hHeld.2.2.2.2.2.out.mono BAa.out.size))
            have H9 := Lib.hid (HBa.out.trans (hHeld.2.2.2.2.2.out.mono (by have := HBa.out.size; simp at this; omega)))
            clear hHeld hHeld0 C1k C2k E
            go_wp2
            go_ret
            exact ⟨by rw [E2.out]; rfl, B9.out⟩
          · have z3 : decide (w3 ≤ z) = false := by simpa using qi
            by_cases qc : 0 < cap
            · have z4 : decide (0 < cap) = true := by simpa using qc
              by_cases qo : cap < ay
              · have z5 : decide (cap < ay) = true := by simpa using qo
                have E : Hid (bd = true) := by
                  show _ = _
                  rw [BDk.out]
                  rw [decide_eq_true (p := 0 < cap ∧ cap < _) ⟨qc, by first | exact qo | (rw [HAY.out]; exact qo)⟩]; simp
                have E2 := Lib.hid (QNk.out E.out)
                clear BDk QNk HF
                go_upto_region 7 with fail
                refine wp_region_held_drew (S := fun w' => w'.cell? ⟨w.heap.size, 1, none⟩ = some (.slice (some ⟨bp, op, none⟩) pl pc) ∧ w'.cell? ⟨w.heap.size + 1, 1, none⟩ = some (.slice a1 l1.length c1) ∧ w'.cell? ⟨w.heap.size + 1, 2, none⟩ = some (.slice a2 l2.length c2) ∧ w'.cell? ⟨bp, op + k * 3 + 2, none⟩ = some (.int .i64 cap) ∧ w'.cell? ⟨bm, om + k, none⟩ = some (.int .i64 z) ∧ Hid (Below wa.heap.size wa w')) (by kernel_rfl) ?_ (fun hHeld => ?_)
                · exact ⟨hHeld0.1, hHeld0.2.1, hHeld0.2.2.1, hHeld0.2.2.2.1, hHeld0.2.2.2.2.1, hHeld0.2.2.2.2.2.out.drew⟩
                refine wpAnyH_take (oi := ⟨_, _, _, _, _, _⟩) (i := 0) (v := ?_) rfl (by kernel_rfl) (by kernel_rfl) (by kernel_rfl) (fun _ _ _ h => h) (Or.inl ⟨by rfl, ?yd10⟩) (by assumption) ?rd10
                case yd10 => (intro w hSw; (try dsimp only at hSw); go_simp; (try with_reducible rfl))
                try simp only [Act.put, List.setIfInBounds_toArray, List.set_cons_zero, List.set_cons_succ]
                refine wpAnyH_take (oi := ⟨_, _, _, _, _, _⟩) (i := 1) (v := ?_) rfl (by kernel_rfl) (by kernel_rfl) (by kernel_rfl) (fun _ _ _ h => h) (Or.inl ⟨by rfl, ?yd11⟩) (by assumption) ?rd11
                case yd11 => (intro w hSw; (try dsimp only at hSw); go_simp; (try with_reducible rfl))
                try simp only [Act.put, List.setIfInBounds_toArray, List.set_cons_zero, List.set_cons_succ]
                refine wpAnyH_take (oi := ⟨_, _, _, _, _, _⟩) (i := 2) (v := ?_) rfl (by kernel_rfl) (by kernel_rfl) (by kernel_rfl) (fun _ _ _ h => h) (Or.inl ⟨by rfl, ?yd12⟩) (by assumption) ?rd12
                case yd12 => (intro w hSw; (try dsimp only at hSw); go_simp; (try with_reducible rfl))
                try simp only [Act.put, List.setIfInBounds_toArray, List.set_cons_zero, List.set_cons_succ]
                refine wpAnyH_take (oi := ⟨_, _, _, _, _, _⟩) (i := 3) (v := ?_) rfl (by kernel_rfl) (by kernel_rfl) (by kernel_rfl) (fun _ _ _ h => h) (Or.inl ⟨by rfl, ?yd13⟩) (by assumption) ?rd13
                case yd13 => (intro w hSw; (try dsimp only at hSw); go_simp; (try with_reducible rfl))
                try simp only [Act.put, List.setIfInBounds_toArray, List.set_cons_zero, List.set_cons_succ]
                refine wpAnyH_take (oi := ⟨_, _, _, _, _, _⟩) (i := 4) (v := ?_) rfl (by kernel_rfl) (by kernel_rfl) (by kernel_rfl) (fun _ _ _ h => h) (Or.inl ⟨by rfl, ?yd14⟩) (by assumption) ?rd14
                case yd14 => (intro w hSw; (try dsimp only at hSw); go_simp; (try with_reducible rfl))
                try simp only [Act.put, List.setIfInBounds_toArray, List.set_cons_zero, List.set_cons_succ]
                refine wpAnyH_take (oi := ⟨_, _, _, _, _, _⟩) (i := 5) (v := ?_) rfl (by kernel_rfl) (by kernel_rfl) (by kernel_rfl) (fun _ _ _ h => h) (Or.inl ⟨by rfl, ?yd15⟩) (by assumption) ?rd15
                case yd15 => (intro w hSw; (try dsimp only at hSw); go_simp; (try with_reducible rfl))
                try simp only [Act.put, List.setIfInBounds_toArray, List.set_cons_zero, List.set_cons_succ]
                refine wpAnyH_take (oi := ⟨_, _, _, _, _, _⟩) (i := 6) (v := ?_) rfl (by kernel_rfl) (by kernel_rfl) (by kernel_rfl) (fun _ _ _ h => h) (Or.inl ⟨by rfl, ?yd16⟩) (by assumption) ?rd16
                case yd16 => (intro w hSw; (try dsimp only at hSw); go_simp; (try with_reducible rfl))
                try simp only [Act.put, List.setIfInBounds_toArray, List.set_cons_zero, List.set_cons_succ]
                refine wpAnyH_ready (rs := [7]) (by kernel_rfl) (by simp) ?_
                refine AllReadyH.cons (o := ⟨_, _, _, _, _, _⟩) rfl (fun K hK => ?_) AllReadyH.nil
                go_simp
                go_at_call 46; refine (C1k.out _ (BAa.out.trans (hHeld.2.2.2.2.2.out.mono BAa.out.size))).mono ?_; rintro e w4 ⟨rfl, K⟩; (try go_wp2_with fail)
                refine hK.out _ _ ?_ (fun hHeld2 => ?_)
                · exact ⟨keepc hHeld.1 K, keepc hHeld.2.1 K, keepc hHeld.2.2.1 K, keepc hHeld.2.2.2.1 K, keepc hHeld.2.2.2.2.1 K, hHeld.2.2.2.2.2.out.trans (K.mono hHeld.2.2.2.2.2.out.size)⟩
                clear hK K hHeld
                have hHeld := hHeld2
                clear hHeld2
                try simp only [Act.put, List.setIfInBounds_toArray, List.set_cons_zero, List.set_cons_succ]
                refine wpAnyH_take (oi := ⟨_, _, _, _, _, _⟩) (i := 8) (v := ?_) rfl (by kernel_rfl) (by kernel_rfl) (by kernel_rfl) (fun _ _ _ h => h) (Or.inl ⟨by rfl, ?yd18⟩) (by assumption) ?rd18
                case yd18 => (intro w hSw; (try dsimp only at hSw); go_simp; (try with_reducible rfl))
                try simp only [Act.put, List.setIfInBounds_toArray, List.set_cons_zero, List.set_cons_succ]
                refine wpAnyH_take (oi := ⟨_, _, _, _, _, _⟩) (i := 9) (v := ?_) rfl (by kernel_rfl) (by kernel_rfl) (by kernel_rfl) (fun _ _ _ h => h) (Or.inl ⟨by rfl, ?yd19⟩) (by assumption) ?rd19
                case yd19 => (intro w hSw; (try dsimp only at hSw); go_simp; (try with_reducible rfl))
                try simp only [Act.put, List.setIfInBounds_toArray, List.set_cons_zero, List.set_cons_succ]
                refine wpAnyH_take (oi := ⟨_, _, _, _, _, _⟩) (i := 10) (v := ?_) rfl (by kernel_rfl) (by kernel_rfl) (by kernel_rfl) (fun _ _ _ h => h) (Or.inl ⟨by rfl, ?yd110⟩) (by assumption) ?rd110
                case yd110 => (intro w hSw; (try dsimp only at hSw); go_simp; (try with_reducible rfl))
                try simp only [Act.put, List.setIfInBounds_toArray, List.set_cons_zero, List.set_cons_succ]
                refine wpAnyH_take (oi := ⟨_, _, _, _, _, _⟩) (i := 11) (v := ?_) rfl (by kernel_rfl) (by kernel_rfl) (by kernel_rfl) (fun _ _ _ h => h) (Or.inl ⟨by rfl, ?yd111⟩) (by assumption) ?rd111
                case yd111 => (intro w hSw; (try dsimp only at hSw); go_simp; (try with_reducible rfl))
                try simp only [Act.put, List.setIfInBounds_toArray, List.set_cons_zero, List.set_cons_succ]
                refine wpAnyH_take (oi := ⟨_, _, _, _, _, _⟩) (i := 12) (v := ?_) rfl (by kernel_rfl) (by kernel_rfl) (by kernel_rfl) (fun _ _ _ h => h) (Or.inl ⟨by rfl, ?yd112⟩) (by assumption) ?rd112
                case yd112 => (intro w hSw; (try dsimp only at hSw); go_simp; (try with_reducible rfl))
                try simp only [Act.put, List.setIfInBounds_toArray, List.set_cons_zero, List.set_cons_succ]
                refine wpAnyH_take (oi := ⟨_, _, _, _, _, _⟩) (i := 13) (v := ?_) rfl (by kernel_rfl) (by kernel_rfl) (by kernel_rfl) (fun _ _ _ h => h) (Or.inl ⟨by rfl, ?yd113⟩) (by assumption) ?rd113
                case yd113 => (intro w hSw; (try dsimp only at hSw); go_simp; (try with_reducible rfl))
                try simp only [Act.put, List.setIfInBounds_toArray, List.set_cons_zero, List.set_cons_succ]
                refine wpAnyH_take (oi := ⟨_, _, _, _, _, _⟩) (i := 14) (v := ?_) rfl (by kernel_rfl) (by kernel_rfl) (by kernel_rfl) (fun _ _ _ h => h) (Or.inl ⟨by rfl, ?yd114⟩) (by assumption) ?rd114
                case yd114 => (intro w hSw; (try dsimp only at hSw); go_simp; (try with_reducible rfl))
                try simp only [Act.put, List.setIfInBounds_toArray, List.set_cons_zero, List.set_cons_succ]
                refine wpAnyH_take (oi := ⟨_, _, _, _, _, _⟩) (i := 15) (v := ?_) rfl (by kernel_rfl) (by kernel_rfl) (by kernel_rfl) (fun _ _ _ h => h) (Or.inl ⟨by rfl, ?yd115⟩) (by assumption) ?rd115
                case yd115 => (intro w hSw; (try dsimp only at hSw); go_simp; (try with_reducible rfl))
                try simp only [Act.put, List.setIfInBounds_toArray, List.set_cons_zero, List.set_cons_succ]
                refine wpAnyH_take (oi := ⟨_, _, _, _, _, _⟩) (i := 16) (v := ?_) rfl (by kernel_rfl) (by kernel_rfl) (by kernel_rfl) (fun _ _ _ h => h) (Or.inl ⟨by rfl, ?yd116⟩) (by assumption) ?rd116
                case yd116 => (intro w hSw; (try dsimp only at hSw); go_simp; (try with_reducible rfl))
                try simp only [Act.put, List.setIfInBounds_toArray, List.set_cons_zero, List.set_cons_succ]
                refine wpAnyH_take (oi := ⟨_, _, _, _, _, _⟩) (i := 17) (v := ?_) rfl (by kernel_rfl) (by kernel_rfl) (by kernel_rfl) (fun _ _ _ h => h) (Or.inl ⟨by rfl, ?yd117⟩) (by assumption) ?rd117
                case yd117 => (intro w hSw; (try dsimp only at hSw); go_simp; (try with_reducible rfl))
                try simp only [Act.put, List.setIfInBounds_toArray, List.set_cons_zero, List.set_cons_succ]
                refine wpAnyH_take (oi := ⟨_, _, _, _, _, _⟩) (i := 18) (v := ?_) rfl (by kernel_rfl) (by kernel_rfl) (by kernel_rfl) (fun _ _ _ h => h) (Or.inl ⟨by rfl, ?yd118⟩) (by assumption) ?rd118
                case yd118 => (intro w hSw; (try dsimp only at hSw); go_simp; (try with_reducible rfl))
                try simp only [Act.put, List.setIfInBounds_toArray, List.set_cons_zero, List.set_cons_succ]
                refine wpAnyH_take (oi := ⟨_, _, _, _, _, _⟩) (i := 19) (v := ?_) rfl (by kernel_rfl) (by kernel_rfl) (by kernel_rfl) (fun _ _ _ h => h) (Or.inl ⟨by rfl, ?yd119⟩) (by assumption) ?rd119
                case yd119 => (intro w hSw; (try dsimp only at hSw); go_simp; (try with_reducible rfl))
                try simp only [Act.put, List.setIfInBounds_toArray, List.set_cons_zero, List.set_cons_succ]
                refine wpAnyH_take (oi := ⟨_, _, _, _, _, _⟩) (i := 20) (v := ?_) rfl (by kernel_rfl) (by kernel_rfl) (by kernel_rfl) (fun _ _ _ h => h) (Or.inl ⟨by rfl, ?yd120⟩) (by assumption) ?rd120
                case yd120 => (intro w hSw; (try dsimp only at hSw); go_simp; (try with_reducible rfl))
                try simp only [Act.put, List.setIfInBounds_toArray, List.set_cons_zero, List.set_cons_succ]
                refine wpAnyH_take (oi := ⟨_, _, _, _, _, _⟩) (i := 21) (v := ?_) rfl (by kernel_rfl) (by kernel_rfl) (by kernel_rfl) (fun _ _ _ h => h) (Or.inl ⟨by rfl, ?yd121⟩) (by assumption) ?rd121
                case yd121 => (intro w hSw; (try dsimp only at hSw); go_simp; (try with_reducible rfl))
                try simp only [Act.put, List.setIfInBounds_toArray, List.set_cons_zero, List.set_cons_succ]
                refine wpAnyH_take (oi := ⟨_, _, _, _, _, _⟩) (i := 22) (v := ?_) rfl (by kernel_rfl) (by kernel_rfl) (by kernel_rfl) (fun _ _ _ h => h) (Or.inl ⟨by rfl, ?yd122⟩) (by assumption) ?rd122
                case yd122 => (intro w hSw; (try dsimp only at hSw); go_simp; (try with_reducible rfl))
                try simp only [Act.put, List.setIfInBounds_toArray, List.set_cons_zero, List.set_cons_succ]
                refine wpAnyH_take (oi := ⟨_, _, _, _, _, _⟩) (i := 23) (v := ?_) rfl (by kernel_rfl) (by kernel_rfl) (by kernel_rfl) (fun _ _ _ h => h) (Or.inl ⟨by rfl, ?yd123⟩) (by assumption) ?rd123
                case yd123 => (intro w hSw; (try dsimp only at hSw); go_simp; (try with_reducible rfl))
                try simp only [Act.put, List.setIfInBounds_toArray, List.set_cons_zero, List.set_cons_succ]
                refine wpAnyH_take (oi := ⟨_, _, _, _, _, _⟩) (i := 24) (v := ?_) rfl (by kernel_rfl) (by kernel_rfl) (by kernel_rfl) (fun _ _ _ h => h) (Or.inl ⟨by rfl, ?yd124⟩) (by assumption) ?rd124
                case yd124 => (intro w hSw; (try dsimp only at hSw); go_simp; (try with_reducible rfl))
                try simp only [Act.put, List.setIfInBounds_toArray, List.set_cons_zero, List.set_cons_succ]
                refine wpAnyH_take (oi := ⟨_, _, _, _, _, _⟩) (i := 25) (v := ?_) rfl (by kernel_rfl) (by kernel_rfl) (by kernel_rfl) (fun _ _ _ h => h) (Or.inl ⟨by rfl, ?yd125⟩) (by assumption) ?rd125
                case yd125 => (intro w hSw; (try dsimp only at hSw); go_simp; (try with_reducible rfl))
                try simp only [Act.put, List.setIfInBounds_toArray, List.set_cons_zero, List.set_cons_succ]
                refine wpAnyH_take (oi := ⟨_, _, _, _, _, _⟩) (i := 26) (v := ?_) rfl (by kernel_rfl) (by kernel_rfl) (by kernel_rfl) (fun _ _ _ h => h) (Or.inl ⟨by rfl, ?yd126⟩) (by assumption) ?rd126
                case yd126 => (intro w hSw; (try dsimp only at hSw); go_simp; (try with_reducible rfl))
                try simp only [Act.put, List.setIfInBounds_toArray, List.set_cons_zero, List.set_cons_succ]
                refine wpAnyH_take (oi := ⟨_, _, _, _, _, _⟩) (i := 27) (v := ?_) rfl (by kernel_rfl) (by kernel_rfl) (by kernel_rfl) (fun _ _ _ h => h) (Or.inl ⟨by rfl, ?yd127⟩) (by assumption) ?rd127
                case yd127 => (intro w hSw; (try dsimp only at hSw); go_simp; (try with_reducible rfl))
                try simp only [Act.put, List.setIfInBounds_toArray, List.set_cons_zero, List.set_cons_succ]
                refine wpAnyH_take (oi := ⟨_, _, _, _, _, _⟩) (i := 28) (v := ?_) rfl (by kernel_rfl) (by kernel_rfl) (by kernel_rfl) (fun _ _ _ h => h) (Or.inl ⟨by rfl, ?yd128⟩) (by assumption) ?rd128
                case yd128 => (intro w hSw; (try dsimp only at hSw); go_simp; (try with_reducible rfl))
                try simp only [Act.put, List.setIfInBounds_toArray, List.set_cons_zero, List.set_cons_succ]
                refine wpAnyH_take (oi := ⟨_, _, _, _, _, _⟩) (i := 29) (v := ?_) rfl (by kernel_rfl) (by kernel_rfl) (by kernel_rfl) (fun _ _ _ h => h) (Or.inl ⟨by rfl, ?yd129⟩) (by assumption) ?rd129
                case yd129 => (intro w hSw; (try dsimp only at hSw); go_simp; (try with_reducible rfl))
                try simp only [Act.put, List.setIfInBounds_toArray, List.set_cons_zero, List.set_cons_succ]
                refine wpAnyH_take (oi := ⟨_, _, _, _, _, _⟩) (i := 30) (v := ?_) rfl (by kernel_rfl) (by kernel_rfl) (by kernel_rfl) (fun _ _ _ h => h) (Or.inl ⟨by rfl, ?yd130⟩) (by assumption) ?rd130
                case yd130 => (intro w hSw; (try dsimp only at hSw); go_simp; (try with_reducible rfl))
                try simp only [Act.put, List.setIfInBounds_toArray, List.set_cons_zero, List.set_cons_succ]
                refine wpAnyH_take (oi := ⟨_, _, _, _, _, _⟩) (i := 31) (v := ?_) rfl (by kernel_rfl) (by kernel_rfl) (by kernel_rfl) (fun _ _ _ h => h) (Or.inl ⟨by rfl, ?yd131⟩) (by assumption) ?rd131
                case yd131 => (intro w hSw; (try dsimp only at hSw); go_simp; (try with_reducible rfl))
                try simp only [Act.put, List.setIfInBounds_toArray, List.set_cons_zero, List.set_cons_succ]
                refine wpAnyH_take (oi := ⟨_, _, _, _, _, _⟩) (i := 32) (v := ?_) rfl (by kernel_rfl) (by kernel_rfl) (by kernel_rfl) (fun _ _ _ h => h) (Or.inl ⟨by rfl, ?yd132⟩) (by assumption) ?rd132
                case yd132 => (intro w hSw; (try dsimp only at hSw); go_simp; (try with_reducible rfl))
                try simp only [Act.put, List.setIfInBounds_toArray, List.set_cons_zero, List.set_cons_succ]
                refine wpAnyH_take (oi := ⟨_, _, _, _, _, _⟩) (i := 33) (v := ?_) rfl (by kernel_rfl) (by kernel_rfl) (by kernel_rfl) (fun _ _ _ h => h) (Or.inl ⟨by rfl, ?yd133⟩) (by assumption) ?rd133
                case yd133 => (intro w hSw; (try dsimp only at hSw); go_simp; (try with_reducible rfl))
                try simp only [Act.put, List.setIfInBounds_toArray, List.set_cons_zero, List.set_cons_succ]
                refine wpAnyH_take (oi := ⟨_, _, _, _, _, _⟩) (i := 34) (v := ?_) rfl (by kernel_rfl) (by kernel_rfl) (by kernel_rfl) (fun _ _ _ h => h) (Or.inl ⟨by rfl, ?yd134⟩) (by assumption) ?rd134
                case yd134 => (intro w hSw; (try dsimp only at hSw); go_simp; (try with_reducible rfl))
                try simp only [Act.put, List.setIfInBounds_toArray, List.set_cons_zero, List.set_cons_succ]
                refine wpAnyH_take (oi := ⟨_, _, _, _, _, _⟩) (i := 35) (v := ?_) rfl (by kernel_rfl) (by kernel_rfl) (by kernel_rfl) (fun _ _ _ h => h) (Or.inl ⟨by rfl, ?yd135⟩) (by assumption) ?rd135
                case yd135 => (intro w hSw; (try dsimp only at hSw); go_simp; (try with_reducible rfl))
                try simp only [Act.put, List.setIfInBounds_toArray, List.set_cons_zero, List.set_cons_succ]
                refine wpAnyH_take (oi := ⟨_, _, _, _, _, _⟩) (i := 36) (v := ?_) rfl (by kernel_rfl) (by kernel_rfl) (by kernel_rfl) (fun _ _ _ h => h) (Or.inl ⟨by rfl, ?yd136⟩) (by assumption) ?rd136
                case yd136 => (intro w hSw; (try dsimp only at hSw); go_simp; (try with_reducible rfl))
                try simp only [Act.put, List.setIfInBounds_toArray, List.set_cons_zero, List.set_cons_succ]
                refine wpAnyH_take (oi := ⟨_, _, _, _, _, _⟩) (i := 37) (v := ?_) rfl (by kernel_rfl) (by kernel_rfl) (by kernel_rfl) (fun _ _ _ h => h) (Or.inl ⟨by rfl, ?yd137⟩) (by assumption) ?rd137
                case yd137 => (intro w hSw; (try dsimp only at hSw); go_simp; (try with_reducible rfl))
                try simp only [Act.put, List.setIfInBounds_toArray, List.set_cons_zero, List.set_cons_succ]
                refine wpAnyH_take (oi := ⟨_, _, _, _, _, _⟩) (i := 38) (v := ?_) rfl (by kernel_rfl) (by kernel_rfl) (by kernel_rfl) (fun _ _ _ h => h) (Or.inl ⟨by rfl, ?yd138⟩) (by assumption) ?rd138
                case yd138 => (intro w hSw; (try dsimp only at hSw); go_simp; (try with_reducible rfl))
                try simp only [Act.put, List.setIfInBounds_toArray, List.set_cons_zero, List.set_cons_succ]
                refine wpAnyH_take (oi := ⟨_, _, _, _, _, _⟩) (i := 39) (v := ?_) rfl (by kernel_rfl) (by kernel_rfl) (by kernel_rfl) (fun _ _ _ h => h) (Or.inl ⟨by rfl, ?yd139⟩) (by assumption) ?rd139
                case yd139 => (intro w hSw; (try dsimp only at hSw); go_simp; (try with_reducible rfl))
                try simp only [Act.put, List.setIfInBounds_toArray, List.set_cons_zero, List.set_cons_succ]
                refine wpAnyH_done (by kernel_rfl) ?_ _
                have B9 := Lib.hid (BAa.out.trans (hHeld.2.2.2.2.2.out.mono BAa.out.size))
                have H9 := Lib.hid (HBa.out.trans (hHeld.2.2.2.2.2.out.mono (by have := HBa.out.size; simp at this; omega)))
                clear hHeld hHeld0 C1k C2k E
                go_wp2
                go_ret
                exact ⟨by rw [E2.out]; rfl, B9.out⟩
              · have z5 : decide (cap < ay) = false := by simpa using qo
                have E : Hid (bd = false) := by
                  show _ = _
                  rw [BDk.out]
                  rw [decide_eq_false qa, decide_eq_false (p := 0 < w3 ∧ w3 ≤ z) (by omega), decide_eq_false (p := 0 < cap ∧ cap < _) (by omega)]; rfl
                have G := Lib.hid (HF.out E.out)
                clear BDk QNk HF
                go_upto_region 7 with fail
                refine wp_region_held_drew (S := fun w' => w'.cell? ⟨w.heap.size, 1, none⟩ = some (.slice (some ⟨bp, op, none⟩) pl pc) ∧ w'.cell? ⟨w.heap.size + 1, 1, none⟩ = some (.slice a1 l1.length c1) ∧ w'.cell? ⟨w.heap.size + 1, 2, none⟩ = some (.slice a2 l2.length c2) ∧ w'.cell? ⟨bp, op + k * 3 + 2, none⟩ = some (.int .i64 cap) ∧ w'.cell? ⟨bm, om + k, none⟩ = some (.int .i64 z) ∧ Hid (Below wa.heap.size wa w')) (by kernel_rfl) ?_ (fun hHeld => ?_)
                · exact ⟨hHeld0.1, hHeld0.2.1, hHeld0.2.2.1, hHeld0.2.2.2.1, hHeld0.2.2.2.2.1, hHeld0.2.2.2.2.2.out.drew⟩
                refine wpAnyH_take (oi := ⟨_, _, _, _, _, _⟩) (i := 0) (v := ?_) rfl (by kernel_rfl) (by kernel_rfl) (by kernel_rfl) (fun _ _ _ h => h) (Or.inl ⟨by rfl, ?yd20⟩) (by assumption) ?rd20
                case yd20 => (intro w hSw; (try dsimp only at hSw); go_simp; (try with_reducible rfl))
                try simp only [Act.put, List.setIfInBounds_toArray, List.set_cons_zero, List.set_cons_succ]
                refine wpAnyH_take (oi := ⟨_, _, _, _, _, _⟩) (i := 1) (v := ?_) rfl (by kernel_rfl) (by kernel_rfl) (by kernel_rfl) (fun _ _ _ h => h) (Or.inl ⟨by rfl, ?yd21⟩) (by assumption) ?rd21
                case yd21 => (intro w hSw; (try dsimp only at hSw); go_simp; (try with_reducible rfl))
                try simp only [Act.put, List.setIfInBounds_toArray, List.set_cons_zero, List.set_cons_succ]
                refine wpAnyH_take (oi := ⟨_, _, _, _, _, _⟩) (i := 2) (v := ?_) rfl (by kernel_rfl) (by kernel_rfl) (by kernel_rfl) (fun _ _ _ h => h) (Or.inl ⟨by rfl, ?yd22⟩) (by assumption) ?rd22
                case yd22 => (intro w hSw; (try dsimp only at hSw); go_simp; (try with_reducible rfl))
                try simp only [Act.put, List.setIfInBounds_toArray, List.set_cons_zero, List.set_cons_succ]
                refine wpAnyH_take (oi := ⟨_, _, _, _, _, _⟩) (i := 3) (v := ?_) rfl (by kernel_rfl) (by kernel_rfl) (by kernel_rfl) (fun _ _ _ h => h) (Or.inl ⟨by rfl, ?yd23⟩) (by assumption) ?rd23
                case yd23 => (intro w hSw; (try dsimp only at hSw); go_simp; (try with_reducible rfl))
                try simp only [Act.put, List.setIfInBounds_toArray, List.set_cons_zero, List.set_cons_succ]
                refine wpAnyH_take (oi := ⟨_, _, _, _, _, _⟩) (i := 4) (v := ?_) rfl (by kernel_rfl) (by kernel_rfl) (by kernel_rfl) (fun _ _ _ h => h) (Or.inl ⟨by rfl, ?yd24⟩) (by assumption) ?rd24
                case yd24 => (intro w hSw; (try dsimp only at hSw); go_simp; (try with_reducible rfl))
                try simp only [Act.put, List.setIfInBounds_toArray, List.set_cons_zero, List.set_cons_succ]
                refine wpAnyH_take (oi := ⟨_, _, _, _, _, _⟩) (i := 5) (v := ?_) rfl (by kernel_rfl) (by kernel_rfl) (by kernel_rfl) (fun _ _ _ h => h) (Or.inl ⟨by rfl, ?yd25⟩) (by assumption) ?rd25
                case yd25 => (intro w hSw; (try dsimp only at hSw); go_simp; (try with_reducible rfl))
                try simp only [Act.put, List.setIfInBounds_toArray, List.set_cons_zero, List.set_cons_succ]
                refine wpAnyH_take (oi := ⟨_, _, _, _, _, _⟩) (i := 6) (v := ?_) rfl (by kernel_rfl) (by kernel_rfl) (by kernel_rfl) (fun _ _ _ h => h) (Or.inl ⟨by rfl, ?yd26⟩) (by assumption) ?rd26
                case yd26 => (intro w hSw; (try dsimp only at hSw); go_simp; (try with_reducible rfl))
                try simp only [Act.put, List.setIfInBounds_toArray, List.set_cons_zero, List.set_cons_succ]
                refine wpAnyH_ready (rs := [7]) (by kernel_rfl) (by simp) ?_
                refine AllReadyH.cons (o := ⟨_, _, _, _, _, _⟩) rfl (fun K hK => ?_) AllReadyH.nil
                go_simp
                go_at_call 46; refine (C1k.out _ (BAa.out.trans (hHeld.2.2.2.2.2.out.mono BAa.out.size))).mono ?_; rintro e w4 ⟨rfl, K⟩; (try go_wp2_with fail)
                refine hK.out _ _ ?_ (fun hHeld2 => ?_)
                · exact ⟨keepc hHeld.1 K, keepc hHeld.2.1 K, keepc hHeld.2.2.1 K, keepc hHeld.2.2.2.1 K, keepc hHeld.2.2.2.2.1 K, hHeld.2.2.2.2.2.out.trans (K.mono hHeld.2.2.2.2.2.out.size)⟩
                clear hK K hHeld
                have hHeld := hHeld2
                clear hHeld2
                try simp only [Act.put, List.setIfInBounds_toArray, List.set_cons_zero, List.set_cons_succ]
                refine wpAnyH_take (oi := ⟨_, _, _, _, _, _⟩) (i := 8) (v := ?_) rfl (by kernel_rfl) (by kernel_rfl) (by kernel_rfl) (fun _ _ _ h => h) (Or.inl ⟨by rfl, ?yd28⟩) (by assumption) ?rd28
                case yd28 => (intro w hSw; (try dsimp only at hSw); go_simp; (try with_reducible rfl))
                try simp only [Act.put, List.setIfInBounds_toArray, List.set_cons_zero, List.set_cons_succ]
                refine wpAnyH_take (oi := ⟨_, _, _, _, _, _⟩) (i := 9) (v := ?_) rfl (by kernel_rfl) (by kernel_rfl) (by kernel_rfl) (fun _ _ _ h => h) (Or.inl ⟨by rfl, ?yd29⟩) (by assumption) ?rd29
                case yd29 => (intro w hSw; (try dsimp only at hSw); go_simp; (try with_reducible rfl))
                try simp only [Act.put, List.setIfInBounds_toArray, List.set_cons_zero, List.set_cons_succ]
                refine wpAnyH_take (oi := ⟨_, _, _, _, _, _⟩) (i := 10) (v := ?_) rfl (by kernel_rfl) (by kernel_rfl) (by kernel_rfl) (fun _ _ _ h => h) (Or.inl ⟨by rfl, ?yd210⟩) (by assumption) ?rd210
                case yd210 => (intro w hSw; (try dsimp only at hSw); go_simp; (try with_reducible rfl))
                try simp only [Act.put, List.setIfInBounds_toArray, List.set_cons_zero, List.set_cons_succ]
                refine wpAnyH_take (oi := ⟨_, _, _, _, _, _⟩) (i := 11) (v := ?_) rfl (by kernel_rfl) (by kernel_rfl) (by kernel_rfl) (fun _ _ _ h => h) (Or.inl ⟨by rfl, ?yd211⟩) (by assumption) ?rd211
                case yd211 => (intro w hSw; (try dsimp only at hSw); go_simp; (try with_reducible rfl))
                try simp only [Act.put, List.setIfInBounds_toArray, List.set_cons_zero, List.set_cons_succ]
                refine wpAnyH_take (oi := ⟨_, _, _, _, _, _⟩) (i := 12) (v := ?_) rfl (by kernel_rfl) (by kernel_rfl) (by kernel_rfl) (fun _ _ _ h => h) (Or.inl ⟨by rfl, ?yd212⟩) (by assumption) ?rd212
                case yd212 => (intro w hSw; (try dsimp only at hSw); go_simp; (try with_reducible rfl))
                try simp only [Act.put, List.setIfInBounds_toArray, List.set_cons_zero, List.set_cons_succ]
                refine wpAnyH_take (oi := ⟨_, _, _, _, _, _⟩) (i := 13) (v := ?_) rfl (by kernel_rfl) (by kernel_rfl) (by kernel_rfl) (fun _ _ _ h => h) (Or.inl ⟨by rfl, ?yd213⟩) (by assumption) ?rd213
                case yd213 => (intro w hSw; (try dsimp only at hSw); go_simp; (try with_reducible rfl))
                try simp only [Act.put, List.setIfInBounds_toArray, List.set_cons_zero, List.set_cons_succ]
                refine wpAnyH_take (oi := ⟨_, _, _, _, _, _⟩) (i := 14) (v := ?_) rfl (by kernel_rfl) (by kernel_rfl) (by kernel_rfl) (fun _ _ _ h => h) (Or.inl ⟨by rfl, ?yd214⟩) (by assumption) ?rd214
                case yd214 => (intro w hSw; (try dsimp only at hSw); go_simp; (try with_reducible rfl))
                try simp only [Act.put, List.setIfInBounds_toArray, List.set_cons_zero, List.set_cons_succ]
                refine wpAnyH_take (oi := ⟨_, _, _, _, _, _⟩) (i := 15) (v := ?_) rfl (by kernel_rfl) (by kernel_rfl) (by kernel_rfl) (fun _ _ _ h => h) (Or.inl ⟨by rfl, ?yd215⟩) (by assumption) ?rd215
                case yd215 => (intro w hSw; (try dsimp only at hSw); go_simp; (try with_reducible rfl))
                try simp only [Act.put, List.setIfInBounds_toArray, List.set_cons_zero, List.set_cons_succ]
                refine wpAnyH_take (oi := ⟨_, _, _, _, _, _⟩) (i := 16) (v := ?_) rfl (by kernel_rfl) (by kernel_rfl) (by kernel_rfl) (fun _ _ _ h => h) (Or.inl ⟨by rfl, ?yd216⟩) (by assumption) ?rd216
                case yd216 => (intro w hSw; (try dsimp only at hSw); go_simp; (try with_reducible rfl))
                try simp only [Act.put, List.setIfInBounds_toArray, List.set_cons_zero, List.set_cons_succ]
                refine wpAnyH_take (oi := ⟨_, _, _, _, _, _⟩) (i := 17) (v := ?_) rfl (by kernel_rfl) (by kernel_rfl) (by kernel_rfl) (fun _ _ _ h => h) (Or.inl ⟨by rfl, ?yd217⟩) (by assumption) ?rd217
                case yd217 => (intro w hSw; (try dsimp only at hSw); go_simp; (try with_reducible rfl))
                try simp only [Act.put, List.setIfInBounds_toArray, List.set_cons_zero, List.set_cons_succ]
                refine wpAnyH_take (oi := ⟨_, _, _, _, _, _⟩) (i := 18) (v := ?_) rfl (by kernel_rfl) (by kernel_rfl) (by kernel_rfl) (fun _ _ _ h => h) (Or.inl ⟨by rfl, ?yd218⟩) (by assumption) ?rd218
                case yd218 => (intro w hSw; (try dsimp only at hSw); go_simp; (try with_reducible rfl))
                try simp only [Act.put, List.setIfInBounds_toArray, List.set_cons_zero, List.set_cons_succ]
                refine wpAnyH_take (oi := ⟨_, _, _, _, _, _⟩) (i := 19) (v := ?_) rfl (by kernel_rfl) (by kernel_rfl) (by kernel_rfl) (fun _ _ _ h => h) (Or.inl ⟨by rfl, ?yd219⟩) (by assumption) ?rd219
                case yd219 => (intro w hSw; (try dsimp only at hSw); go_simp; (try with_reducible rfl))
                try simp only [Act.put, List.setIfInBounds_toArray, List.set_cons_zero, List.set_cons_succ]
                refine wpAnyH_take (oi := ⟨_, _, _, _, _, _⟩) (i := 20) (v := ?_) rfl (by kernel_rfl) (by kernel_rfl) (by kernel_rfl) (fun _ _ _ h => h) (Or.inl ⟨by rfl, ?yd220⟩) (by assumption) ?rd220
                case yd220 => (intro w hSw; (try dsimp only at hSw); go_simp; (try with_reducible rfl))
                try simp only [Act.put, List.setIfInBounds_toArray, List.set_cons_zero, List.set_cons_succ]
                refine wpAnyH_take (oi := ⟨_, _, _, _, _, _⟩) (i := 21) (v := ?_) rfl (by kernel_rfl) (by kernel_rfl) (by kernel_rfl) (fun _ _ _ h => h) (Or.inl ⟨by rfl, ?yd221⟩) (by assumption) ?rd221
                case yd221 => (intro w hSw; (try dsimp only at hSw); go_simp; (try with_reducible rfl))
                try simp only [Act.put, List.setIfInBounds_toArray, List.set_cons_zero, List.set_cons_succ]
                refine wpAnyH_take (oi := ⟨_, _, _, _, _, _⟩) (i := 22) (v := ?_) rfl (by kernel_rfl) (by kernel_rfl) (by kernel_rfl) (fun _ _ _ h => h) (Or.inl ⟨by rfl, ?yd222⟩) (by assumption) ?rd222
                case yd222 => (intro w hSw; (try dsimp only at hSw); go_simp; (try with_reducible rfl))
                try simp only [Act.put, List.setIfInBounds_toArray, List.set_cons_zero, List.set_cons_succ]
                refine wpAnyH_take (oi := ⟨_, _, _, _, _, _⟩) (i := 23) (v := ?_) rfl (by kernel_rfl) (by kernel_rfl) (by kernel_rfl) (fun _ _ _ h => h) (Or.inl ⟨by rfl, ?yd223⟩) (by assumption) ?rd223
                case yd223 => (intro w hSw; (try dsimp only at hSw); go_simp; (try with_reducible rfl))
                try simp only [Act.put, List.setIfInBounds_toArray, List.set_cons_zero, List.set_cons_succ]
                refine wpAnyH_take (oi := ⟨_, _, _, _, _, _⟩) (i := 24) (v := ?_) rfl (by kernel_rfl) (by kernel_rfl) (by kernel_rfl) (fun _ _ _ h => h) (Or.inl ⟨by rfl, ?yd224⟩) (by assumption) ?rd224
                case yd224 => (intro w hSw; (try dsimp only at hSw); go_simp; (try with_reducible rfl))
                try simp only [Act.put, List.setIfInBounds_toArray, List.set_cons_zero, List.set_cons_succ]
                refine wpAnyH_take (oi := ⟨_, _, _, _, _, _⟩) (i := 25) (v := ?_) rfl (by kernel_rfl) (by kernel_rfl) (by kernel_rfl) (fun _ _ _ h => h) (Or.inl ⟨by rfl, ?yd225⟩) (by assumption) ?rd225
                case yd225 => (intro w hSw; (try dsimp only at hSw); go_simp; (try with_reducible rfl))
                try simp only [Act.put, List.setIfInBounds_toArray, List.set_cons_zero, List.set_cons_succ]
                refine wpAnyH_take (oi := ⟨_, _, _, _, _, _⟩) (i := 26) (v := ?_) rfl (by kernel_rfl) (by kernel_rfl) (by kernel_rfl) (fun _ _ _ h => h) (Or.inl ⟨by rfl, ?yd226⟩) (by assumption) ?rd226
                case yd226 => (intro w hSw; (try dsimp only at hSw); go_simp; (try with_reducible rfl))
                try simp only [Act.put, List.setIfInBounds_toArray, List.set_cons_zero, List.set_cons_succ]
                refine wpAnyH_take (oi := ⟨_, _, _, _, _, _⟩) (i := 27) (v := ?_) rfl (by kernel_rfl) (by kernel_rfl) (by kernel_rfl) (fun _ _ _ h => h) (Or.inl ⟨by rfl, ?yd227⟩) (by assumption) ?rd227
                case yd227 => (intro w hSw; (try dsimp only at hSw); go_simp; (try with_reducible rfl))
                try simp only [Act.put, List.setIfInBounds_toArray, List.set_cons_zero, List.set_cons_succ]
                refine wpAnyH_take (oi := ⟨_, _, _, _, _, _⟩) (i := 28) (v := ?_) rfl (by kernel_rfl) (by kernel_rfl) (by kernel_rfl) (fun _ _ _ h => h) (Or.inl ⟨by rfl, ?yd228⟩) (by assumption) ?rd228
                case yd228 => (intro w hSw; (try dsimp only at hSw); go_simp; (try with_reducible rfl))
                try simp only [Act.put, List.setIfInBounds_toArray, List.set_cons_zero, List.set_cons_succ]
                refine wpAnyH_take (oi := ⟨_, _, _, _, _, _⟩) (i := 29) (v := ?_) rfl (by kernel_rfl) (by kernel_rfl) (by kernel_rfl) (fun _ _ _ h => h) (Or.inl ⟨by rfl, ?yd229⟩) (by assumption) ?rd229
                case yd229 => (intro w hSw; (try dsimp only at hSw); go_simp; (try with_reducible rfl))
                try simp only [Act.put, List.setIfInBounds_toArray, List.set_cons_zero, List.set_cons_succ]
                refine wpAnyH_take (oi := ⟨_, _, _, _, _, _⟩) (i := 30) (v := ?_) rfl (by kernel_rfl) (by kernel_rfl) (by kernel_rfl) (fun _ _ _ h => h) (Or.inl ⟨by rfl, ?yd230⟩) (by assumption) ?rd230
                case yd230 => (intro w hSw; (try dsimp only at hSw); go_simp; (try with_reducible rfl))
                try simp only [Act.put, List.setIfInBounds_toArray, List.set_cons_zero, List.set_cons_succ]
                refine wpAnyH_take (oi := ⟨_, _, _, _, _, _⟩) (i := 31) (v := ?_) rfl (by kernel_rfl) (by kernel_rfl) (by kernel_rfl) (fun _ _ _ h => h) (Or.inl ⟨by rfl, ?yd231⟩) (by assumption) ?rd231
                case yd231 => (intro w hSw; (try dsimp only at hSw); go_simp; (try with_reducible rfl))
                try simp only [Act.put, List.setIfInBounds_toArray, List.set_cons_zero, List.set_cons_succ]
                refine wpAnyH_take (oi := ⟨_, _, _, _, _, _⟩) (i := 32) (v := ?_) rfl (by kernel_rfl) (by kernel_rfl) (by kernel_rfl) (fun _ _ _ h => h) (Or.inl ⟨by rfl, ?yd232⟩) (by assumption) ?rd232
                case yd232 => (intro w hSw; (try dsimp only at hSw); go_simp; (try with_reducible rfl))
                try simp only [Act.put, List.setIfInBounds_toArray, List.set_cons_zero, List.set_cons_succ]
                refine wpAnyH_take (oi := ⟨_, _, _, _, _, _⟩) (i := 33) (v := ?_) rfl (by kernel_rfl) (by kernel_rfl) (by kernel_rfl) (fun _ _ _ h => h) (Or.inl ⟨by rfl, ?yd233⟩) (by assumption) ?rd233
                case yd233 => (intro w hSw; (try dsimp only at hSw); go_simp; (try with_reducible rfl))
                try simp only [Act.put, List.setIfInBounds_toArray, List.set_cons_zero, List.set_cons_succ]
                refine wpAnyH_take (oi := ⟨_, _, _, _, _, _⟩) (i := 34) (v := ?_) rfl (by kernel_rfl) (by kernel_rfl) (by kernel_rfl) (fun _ _ _ h => h) (Or.inl ⟨by rfl, ?yd234⟩) (by assumption) ?rd234
                case yd234 => (intro w hSw; (try dsimp only at hSw); go_simp; (try with_reducible rfl))
                try simp only [Act.put, List.setIfInBounds_toArray, List.set_cons_zero, List.set_cons_succ]
                refine wpAnyH_take (oi := ⟨_, _, _, _, _, _⟩) (i := 35) (v := ?_) rfl (by kernel_rfl) (by kernel_rfl) (by kernel_rfl) (fun _ _ _ h => h) (Or.inl ⟨by rfl, ?yd235⟩) (by assumption) ?rd235
                case yd235 => (intro w hSw; (try dsimp only at hSw); go_simp; (try with_reducible rfl))
                try simp only [Act.put, List.setIfInBounds_toArray, List.set_cons_zero, List.set_cons_succ]
                refine wpAnyH_take (oi := ⟨_, _, _, _, _, _⟩) (i := 36) (v := ?_) rfl (by kernel_rfl) (by kernel_rfl) (by kernel_rfl) (fun _ _ _ h => h) (Or.inl ⟨by rfl, ?yd236⟩) (by assumption) ?rd236
                case yd236 => (intro w hSw; (try dsimp only at hSw); go_simp; (try with_reducible rfl))
                try simp only [Act.put, List.setIfInBounds_toArray, List.set_cons_zero, List.set_cons_succ]
                refine wpAnyH_take (oi := ⟨_, _, _, _, _, _⟩) (i := 37) (v := ?_) rfl (by kernel_rfl) (by kernel_rfl) (by kernel_rfl) (fun _ _ _ h => h) (Or.inl ⟨by rfl, ?yd237⟩) (by assumption) ?rd237
                case yd237 => (intro w hSw; (try dsimp only at hSw); go_simp; (try with_reducible rfl))
                try simp only [Act.put, List.setIfInBounds_toArray, List.set_cons_zero, List.set_cons_succ]
                refine wpAnyH_take (oi := ⟨_, _, _, _, _, _⟩) (i := 38) (v := ?_) rfl (by kernel_rfl) (by kernel_rfl) (by kernel_rfl) (fun _ _ _ h => h) (Or.inl ⟨by rfl, ?yd238⟩) (by assumption) ?rd238
                case yd238 => (intro w hSw; (try dsimp only at hSw); go_simp; (try with_reducible rfl))
                try simp only [Act.put, List.setIfInBounds_toArray, List.set_cons_zero, List.set_cons_succ]
                refine wpAnyH_take (oi := ⟨_, _, _, _, _, _⟩) (i := 39) (v := ?_) rfl (by kernel_rfl) (by kernel_rfl) (by kernel_rfl) (fun _ _ _ h => h) (Or.inl ⟨by rfl, ?yd239⟩) (by assumption) ?rd239
                case yd239 => (intro w hSw; (try dsimp only at hSw); go_simp; (try with_reducible rfl))
                try simp only [Act.put, List.setIfInBounds_toArray, List.set_cons_zero, List.set_cons_succ]
                refine wpAnyH_done (by kernel_rfl) ?_ _
                have B9 := Lib.hid (BAa.out.trans (hHeld.2.2.2.2.2.out.mono BAa.out.size))
                have H9 := Lib.hid (HBa.out.trans (hHeld.2.2.2.2.2.out.mono (by have := HBa.out.size; simp at this; omega)))
                clear hHeld hHeld0 C1k C2k E
                go_wp2
                go_roundw
                case rel => exact ⟨k + 1, by omega, by go_num, H9, G⟩
                case measure => simp [intOf]; omega
            · have z4 : decide (0 < cap) = false := by simpa using qc
              have E : Hid (bd = false) := by
                show _ = _
                rw [BDk.out]
                rw [decide_eq_false qa, decide_eq_false (p := 0 < w3 ∧ w3 ≤ z) (by omega), decide_eq_false (p := 0 < cap ∧ cap < _) (by omega)]; rfl
              have G := Lib.hid (HF.out E.out)
              clear BDk QNk HF
              go_upto_region 7 with fail
              refine wp_region_held_drew (S := fun w' => w'.cell? ⟨w.heap.size, 1, none⟩ = some (.slice (some ⟨bp, op, none⟩) pl pc) ∧ w'.cell? ⟨w.heap.size + 1, 1, none⟩ = some (.slice a1 l1.length c1) ∧ w'.cell? ⟨w.heap.size + 1, 2, none⟩ = some (.slice a2 l2.length c2) ∧ w'.cell? ⟨bp, op + k * 3 + 2, none⟩ = some (.int .i64 cap) ∧ w'.cell? ⟨bm, om + k, none⟩ = some (.int .i64 z) ∧ Hid (Below wa.heap.size wa w')) (by kernel_rfl) ?_ (fun hHeld => ?_)
              · exact ⟨hHeld0.1, hHeld0.2.1, hHeld0.2.2.1, hHeld0.2.2.2.1, hHeld0.2.2.2.2.1, hHeld0.2.2.2.2.2.out.drew⟩
              refine wpAnyH_take (oi := ⟨_, _, _, _, _, _⟩) (i := 0) (v := ?_) rfl (by kernel_rfl) (by kernel_rfl) (by kernel_rfl) (fun _ _ _ h => h) (Or.inl ⟨by rfl, ?yd30⟩) (by assumption) ?rd30
              case yd30 => (intro w hSw; (try dsimp only at hSw); go_simp; (try with_reducible rfl))
              try simp only [Act.put, List.setIfInBounds_toArray, List.set_cons_zero, List.set_cons_succ]
              refine wpAnyH_take (oi := ⟨_, _, _, _, _, _⟩) (i := 1) (v := ?_) rfl (by kernel_rfl) (by kernel_rfl) (by kernel_rfl) (fun _ _ _ h => h) (Or.inl ⟨by rfl, ?yd31⟩) (by assumption) ?rd31
              case yd31 => (intro w hSw; (try dsimp only at hSw); go_simp; (try with_reducible rfl))
              try simp only [Act.put, List.setIfInBounds_toArray, List.set_cons_zero, List.set_cons_succ]
              refine wpAnyH_take (oi := ⟨_, _, _, _, _, _⟩) (i := 2) (v := ?_) rfl (by kernel_rfl) (by kernel_rfl) (by kernel_rfl) (fun _ _ _ h => h) (Or.inl ⟨by rfl, ?yd32⟩) (by assumption) ?rd32
              case yd32 => (intro w hSw; (try dsimp only at hSw); go_simp; (try with_reducible rfl))
              try simp only [Act.put, List.setIfInBounds_toArray, List.set_cons_zero, List.set_cons_succ]
              refine wpAnyH_take (oi := ⟨_, _, _, _, _, _⟩) (i := 3) (v := ?_) rfl (by kernel_rfl) (by kernel_rfl) (by kernel_rfl) (fun _ _ _ h => h) (Or.inl ⟨by rfl, ?yd33⟩) (by assumption) ?rd33
              case yd33 => (intro w hSw; (try dsimp only at hSw); go_simp; (try with_reducible rfl))
              try simp only [Act.put, List.setIfInBounds_toArray, List.set_cons_zero, List.set_cons_succ]
              refine wpAnyH_take (oi := ⟨_, _, _, _, _, _⟩) (i := 4) (v := ?_) rfl (by kernel_rfl) (by kernel_rfl) (by kernel_rfl) (fun _ _ _ h => h) (Or.inl ⟨by rfl, ?yd34⟩) (by assumption) ?rd34
              case yd34 => (intro w hSw; (try dsimp only at hSw); go_simp; (try with_reducible rfl))
              try simp only [Act.put, List.setIfInBounds_toArray, List.set_cons_zero, List.set_cons_succ]
              refine wpAnyH_take (oi := ⟨_, _, _, _, _, _⟩) (i := 5) (v := ?_) rfl (by kernel_rfl) (by kernel_rfl) (by kernel_rfl) (fun _ _ _ h => h) (Or.inl ⟨by rfl, ?yd35⟩) (by assumption) ?rd35
              case yd35 => (intro w hSw; (try dsimp only at hSw); go_simp; (try with_reducible rfl))
              try simp only [Act.put, List.setIfInBounds_toArray, List.set_cons_zero, List.set_cons_succ]
              refine wpAnyH_take (oi := ⟨_, _, _, _, _, _⟩) (i := 6) (v := ?_) rfl (by kernel_rfl) (by kernel_rfl) (by kernel_rfl) (fun _ _ _ h => h) (Or.inl ⟨by rfl, ?yd36⟩) (by assumption) ?rd36
              case yd36 => (intro w hSw; (try dsimp only at hSw); go_simp; (try with_reducible rfl))
              try simp only [Act.put, List.setIfInBounds_toArray, List.set_cons_zero, List.set_cons_succ]
              refine wpAnyH_ready (rs := [7]) (by kernel_rfl) (by simp) ?_
              refine AllReadyH.cons (o := ⟨_, _, _, _, _, _⟩) rfl (fun K hK => ?_) AllReadyH.nil
              go_simp
              go_at_call 46; refine (C1k.out _ (BAa.out.trans (hHeld.2.2.2.2.2.out.mono BAa.out.size))).mono ?_; rintro e w4 ⟨rfl, K⟩; (try go_wp2_with fail)
              refine hK.out _ _ ?_ (fun hHeld2 => ?_)
              · exact ⟨keepc hHeld.1 K, keepc hHeld.2.1 K, keepc hHeld.2.2.1 K, keepc hHeld.2.2.2.1 K, keepc hHeld.2.2.2.2.1 K, hHeld.2.2.2.2.2.out.trans (K.mono hHeld.2.2.2.2.2.out.size)⟩
              clear hK K hHeld
              have hHeld := hHeld2
              clear hHeld2
              try simp only [Act.put, List.setIfInBounds_toArray, List.set_cons_zero, List.set_cons_succ]
              refine wpAnyH_take (oi := ⟨_, _, _, _, _, _⟩) (i := 8) (v := ?_) rfl (by kernel_rfl) (by kernel_rfl) (by kernel_rfl) (fun _ _ _ h => h) (Or.inl ⟨by rfl, ?yd38⟩) (by assumption) ?rd38
              case yd38 => (intro w hSw; (try dsimp only at hSw); go_simp; (try with_reducible rfl))
              try simp only [Act.put, List.setIfInBounds_toArray, List.set_cons_zero, List.set_cons_succ]
              refine wpAnyH_take (oi := ⟨_, _, _, _, _, _⟩) (i := 9) (v := ?_) rfl (by kernel_rfl) (by kernel_rfl) (by kernel_rfl) (fun _ _ _ h => h) (Or.inl ⟨by rfl, ?yd39⟩) (by assumption) ?rd39
              case yd39 => (intro w hSw; (try dsimp only at hSw); go_simp; (try with_reducible rfl))
              try simp only [Act.put, List.setIfInBounds_toArray, List.set_cons_zero, List.set_cons_succ]
              refine wpAnyH_take (oi := ⟨_, _, _, _, _, _⟩) (i := 10) (v := ?_) rfl (by kernel_rfl) (by kernel_rfl) (by kernel_rfl) (fun _ _ _ h => h) (Or.inl ⟨by rfl, ?yd310⟩) (by assumption) ?rd310
              case yd310 => (intro w hSw; (try dsimp only at hSw); go_simp; (try with_reducible rfl))
              try simp only [Act.put, List.setIfInBounds_toArray, List.set_cons_zero, List.set_cons_succ]
              refine wpAnyH_take (oi := ⟨_, _, _, _, _, _⟩) (i := 11) (v := ?_) rfl (by kernel_rfl) (by kernel_rfl) (by kernel_rfl) (fun _ _ _ h => h) (Or.inl ⟨by rfl, ?yd311⟩) (by assumption) ?rd311
              case yd311 => (intro w hSw; (try dsimp only at hSw); go_simp; (try with_reducible rfl))
              try simp only [Act.put, List.setIfInBounds_toArray, List.set_cons_zero, List.set_cons_succ]
              refine wpAnyH_take (oi := ⟨_, _, _, _, _, _⟩) (i := 12) (v := ?_) rfl (by kernel_rfl) (by kernel_rfl) (by kernel_rfl) (fun _ _ _ h => h) (Or.inl ⟨by rfl, ?yd312⟩) (by assumption) ?rd312
              case yd312 => (intro w hSw; (try dsimp only at hSw); go_simp; (try with_reducible rfl))
              try simp only [Act.put, List.setIfInBounds_toArray, List.set_cons_zero, List.set_cons_succ]
              refine wpAnyH_take (oi := ⟨_, _, _, _, _, _⟩) (i := 13) (v := ?_) rfl (by kernel_rfl) (by kernel_rfl) (by kernel_rfl) (fun _ _ _ h => h) (Or.inl ⟨by rfl, ?yd313⟩) (by assumption) ?rd313
              case yd313 => (intro w hSw; (try dsimp only at hSw); go_simp; (try with_reducible rfl))
              try simp only [Act.put, List.setIfInBounds_toArray, List.set_cons_zero, List.set_cons_succ]
              refine wpAnyH_take (oi := ⟨_, _, _, _, _, _⟩) (i := 14) (v := ?_) rfl (by kernel_rfl) (by kernel_rfl) (by kernel_rfl) (fun _ _ _ h => h) (Or.inl ⟨by rfl, ?yd314⟩) (by assumption) ?rd314
              case yd314 => (intro w hSw; (try dsimp only at hSw); go_simp; (try with_reducible rfl))
              try simp only [Act.put, List.setIfInBounds_toArray, List.set_cons_zero, List.set_cons_succ]
              refine wpAnyH_take (oi := ⟨_, _, _, _, _, _⟩) (i := 15) (v := ?_) rfl (by kernel_rfl) (by kernel_rfl) (by kernel_rfl) (fun _ _ _ h => h) (Or.inl ⟨by rfl, ?yd315⟩) (by assumption) ?rd315
              case yd315 => (intro w hSw; (try dsimp only at hSw); go_simp; (try with_reducible rfl))
              try simp only [Act.put, List.setIfInBounds_toArray, List.set_cons_zero, List.set_cons_succ]
              refine wpAnyH_take (oi := ⟨_, _, _, _, _, _⟩) (i := 16) (v := ?_) rfl (by kernel_rfl) (by kernel_rfl) (by kernel_rfl) (fun _ _ _ h => h) (Or.inl ⟨by rfl, ?yd316⟩) (by assumption) ?rd316
              case yd316 => (intro w hSw; (try dsimp only at hSw); go_simp; (try with_reducible rfl))
              try simp only [Act.put, List.setIfInBounds_toArray, List.set_cons_zero, List.set_cons_succ]
              refine wpAnyH_take (oi := ⟨_, _, _, _, _, _⟩) (i := 17) (v := ?_) rfl (by kernel_rfl) (by kernel_rfl) (by kernel_rfl) (fun _ _ _ h => h) (Or.inl ⟨by rfl, ?yd317⟩) (by assumption) ?rd317
              case yd317 => (intro w hSw; (try dsimp only at hSw); go_simp; (try with_reducible rfl))
              try simp only [Act.put, List.setIfInBounds_toArray, List.set_cons_zero, List.set_cons_succ]
              refine wpAnyH_take (oi := ⟨_, _, _, _, _, _⟩) (i := 18) (v := ?_) rfl (by kernel_rfl) (by kernel_rfl) (by kernel_rfl) (fun _ _ _ h => h) (Or.inl ⟨by rfl, ?yd318⟩) (by assumption) ?rd318
              case yd318 => (intro w hSw; (try dsimp only at hSw); go_simp; (try with_reducible rfl))
              try simp only [Act.put, List.setIfInBounds_toArray, List.set_cons_zero, List.set_cons_succ]
              refine wpAnyH_take (oi := ⟨_, _, _, _, _, _⟩) (i := 19) (v := ?_) rfl (by kernel_rfl) (by kernel_rfl) (by kernel_rfl) (fun _ _ _ h => h) (Or.inl ⟨by rfl, ?yd319⟩) (by assumption) ?rd319
              case yd319 => (intro w hSw; (try dsimp only at hSw); go_simp; (try with_reducible rfl))
              try simp only [Act.put, List.setIfInBounds_toArray, List.set_cons_zero, List.set_cons_succ]
              refine wpAnyH_take (oi := ⟨_, _, _, _, _, _⟩) (i := 20) (v := ?_) rfl (by kernel_rfl) (by kernel_rfl) (by kernel_rfl) (fun _ _ _ h => h) (Or.inl ⟨by rfl, ?yd320⟩) (by assumption) ?rd320
              case yd320 => (intro w hSw; (try dsimp only at hSw); go_simp; (try with_reducible rfl))
              try simp only [Act.put, List.setIfInBounds_toArray, List.set_cons_zero, List.set_cons_succ]
              refine wpAnyH_take (oi := ⟨_, _, _, _, _, _⟩) (i := 21) (v := ?_) rfl (by kernel_rfl) (by kernel_rfl) (by kernel_rfl) (fun _ _ _ h => h) (Or.inl ⟨by rfl, ?yd321⟩) (by assumption) ?rd321
              case yd321 => (intro w hSw; (try dsimp only at hSw); go_simp; (try with_reducible rfl))
              try simp only [Act.put, List.setIfInBounds_toArray, List.set_cons_zero, List.set_cons_succ]
              refine wpAnyH_take (oi := ⟨_, _, _, _, _, _⟩) (i := 22) (v := ?_) rfl (by kernel_rfl) (by kernel_rfl) (by kernel_rfl) (fun _ _ _ h => h) (Or.inl ⟨by rfl, ?yd322⟩) (by assumption) ?rd322
              case yd322 => (intro w hSw; (try dsimp only at hSw); go_simp; (try with_reducible rfl))
              try simp only [Act.put, List.setIfInBounds_toArray, List.set_cons_zero, List.set_cons_succ]
              refine wpAnyH_take (oi := ⟨_, _, _, _, _, _⟩) (i := 23) (v := ?_) rfl (by kernel_rfl) (by kernel_rfl) (by kernel_rfl) (fun _ _ _ h => h) (Or.inl ⟨by rfl, ?yd323⟩) (by assumption) ?rd323
              case yd323 => (intro w hSw; (try dsimp only at hSw); go_simp; (try with_reducible rfl))
              try simp only [Act.put, List.setIfInBounds_toArray, List.set_cons_zero, List.set_cons_succ]
              refine wpAnyH_take (oi := ⟨_, _, _, _, _, _⟩) (i := 24) (v := ?_) rfl (by kernel_rfl) (by kernel_rfl) (by kernel_rfl) (fun _ _ _ h => h) (Or.inl ⟨by rfl, ?yd324⟩) (by assumption) ?rd324
              case yd324 => (intro w hSw; (try dsimp only at hSw); go_simp; (try with_reducible rfl))
              try simp only [Act.put, List.setIfInBounds_toArray, List.set_cons_zero, List.set_cons_succ]
              refine wpAnyH_take (oi := ⟨_, _, _, _, _, _⟩) (i := 25) (v := ?_) rfl (by kernel_rfl) (by kernel_rfl) (by kernel_rfl) (fun _ _ _ h => h) (Or.inl ⟨by rfl, ?yd325⟩) (by assumption) ?rd325
              case yd325 => (intro w hSw; (try dsimp only at hSw); go_simp; (try with_reducible rfl))
              try simp only [Act.put, List.setIfInBounds_toArray, List.set_cons_zero, List.set_cons_succ]
              refine wpAnyH_take (oi := ⟨_, _, _, _, _, _⟩) (i := 26) (v := ?_) rfl (by kernel_rfl) (by kernel_rfl) (by kernel_rfl) (fun _ _ _ h => h) (Or.inl ⟨by rfl, ?yd326⟩) (by assumption) ?rd326
              case yd326 => (intro w hSw; (try dsimp only at hSw); go_simp; (try with_reducible rfl))
              try simp only [Act.put, List.setIfInBounds_toArray, List.set_cons_zero, List.set_cons_succ]
              refine wpAnyH_take (oi := ⟨_, _, _, _, _, _⟩) (i := 27) (v := ?_) rfl (by kernel_rfl) (by kernel_rfl) (by kernel_rfl) (fun _ _ _ h => h) (Or.inl ⟨by rfl, ?yd327⟩) (by assumption) ?rd327
              case yd327 => (intro w hSw; (try dsimp only at hSw); go_simp; (try with_reducible rfl))
              try simp only [Act.put, List.setIfInBounds_toArray, List.set_cons_zero, List.set_cons_succ]
              refine wpAnyH_take (oi := ⟨_, _, _, _, _, _⟩) (i := 28) (v := ?_) rfl (by kernel_rfl) (by kernel_rfl) (by kernel_rfl) (fun _ _ _ h => h) (Or.inl ⟨by rfl, ?yd328⟩) (by assumption) ?rd328
              case yd328 => (intro w hSw; (try dsimp only at hSw); go_simp; (try with_reducible rfl))
              try simp only [Act.put, List.setIfInBounds_toArray, List.set_cons_zero, List.set_cons_succ]
              refine wpAnyH_take (oi := ⟨_, _, _, _, _, _⟩) (i := 29) (v := ?_) rfl (by kernel_rfl) (by kernel_rfl) (by kernel_rfl) (fun _ _ _ h => h) (Or.inl ⟨by rfl, ?yd329⟩) (by assumption) ?rd329
              case yd329 => (intro w hSw; (try dsimp only at hSw); go_simp; (try with_reducible rfl))
              try simp only [Act.put, List.setIfInBounds_toArray, List.set_cons_zero, List.set_cons_succ]
              refine wpAnyH_take (oi := ⟨_, _, _, _, _, _⟩) (i := 30) rfl (by kernel_rfl) (by kernel_rfl) (by kernel_rfl) (fun _ _ _ h => h) (Or.inr ⟨by rfl, rfl⟩) (by assumption) ?rd330
              try simp only [Act.put, List.setIfInBounds_toArray, List.set_cons_zero, List.set_cons_succ]
              refine wpAnyH_take (oi := ⟨_, _, _, _, _, _⟩) (i := 31) rfl (by kernel_rfl) (by kernel_rfl) (by kernel_rfl) (fun _ _ _ h => h) (Or.inr ⟨by rfl, rfl⟩) (by assumption) ?rd331
              try simp only [Act.put, List.setIfInBounds_toArray, List.set_cons_zero, List.set_cons_succ]
              refine wpAnyH_take (oi := ⟨_, _, _, _, _, _⟩) (i := 32) rfl (by kernel_rfl) (by kernel_rfl) (by kernel_rfl) (fun _ _ _ h => h) (Or.inr ⟨by rfl, rfl⟩) (by assumption) ?rd332
              try simp only [Act.put, List.setIfInBounds_toArray, List.set_cons_zero, List.set_cons_succ]
              refine wpAnyH_take (oi := ⟨_, _, _, _, _, _⟩) (i := 33) rfl (by kernel_rfl) (by kernel_rfl) (by kernel_rfl) (fun _ _ _ h => h) (Or.inr ⟨by rfl, rfl⟩) (by assumption) ?rd333
              try simp only [Act.put, List.setIfInBounds_toArray, List.set_cons_zero, List.set_cons_succ]
              refine wpAnyH_take (oi := ⟨_, _, _, _, _, _⟩) (i := 34) rfl (by kernel_rfl) (by kernel_rfl) (by kernel_rfl) (fun _ _ _ h => h) (Or.inr ⟨by rfl, rfl⟩) (by assumption) ?rd334
              try simp only [Act.put, List.setIfInBounds_toArray, List.set_cons_zero, List.set_cons_succ]
              refine wpAnyH_take (oi := ⟨_, _, _, _, _, _⟩) (i := 35) rfl (by kernel_rfl) (by kernel_rfl) (by kernel_rfl) (fun _ _ _ h => h) (Or.inr ⟨by rfl, rfl⟩) (by assumption) ?rd335
              try simp only [Act.put, List.setIfInBounds_toArray, List.set_cons_zero, List.set_cons_succ]
              refine wpAnyH_take (oi := ⟨_, _, _, _, _, _⟩) (i := 36) rfl (by kernel_rfl) (by kernel_rfl) (by kernel_rfl) (fun _ _ _ h => h) (Or.inr ⟨by rfl, rfl⟩) (by assumption) ?rd336
              try simp only [Act.put, List.setIfInBounds_toArray, List.set_cons_zero, List.set_cons_succ]
              refine wpAnyH_take (oi := ⟨_, _, _, _, _, _⟩) (i := 37) rfl (by kernel_rfl) (by kernel_rfl) (by kernel_rfl) (fun _ _ _ h => h) (Or.inr ⟨by rfl, rfl⟩) (by assumption) ?rd337
              try simp only [Act.put, List.setIfInBounds_toArray, List.set_cons_zero, List.set_cons_succ]
              refine wpAnyH_take (oi := ⟨_, _, _, _, _, _⟩) (i := 38) (v := ?_) rfl (by kernel_rfl) (by kernel_rfl) (by kernel_rfl) (fun _ _ _ h => h) (Or.inl ⟨by rfl, ?yd338⟩) (by assumption) ?rd338
              case yd338 => (intro w hSw; (try dsimp only at hSw); go_simp; (try with_reducible rfl))
              try simp only [Act.put, List.setIfInBounds_toArray, List.set_cons_zero, List.set_cons_succ]
              refine wpAnyH_take (oi := ⟨_, _, _, _, _, _⟩) (i := 39) (v := ?_) rfl (by kernel_rfl) (by kernel_rfl) (by kernel_rfl) (fun _ _ _ h => h) (Or.inl ⟨by rfl, ?yd339⟩) (by assumption) ?rd339
              case yd339 => (intro w hSw; (try dsimp only at hSw); go_simp; (try with_reducible rfl))
              try simp only [Act.put, List.setIfInBounds_toArray, List.set_cons_zero, List.set_cons_succ]
              refine wpAnyH_done (by kernel_rfl) ?_ _
              have B9 := Lib.hid (BAa.out.trans (hHeld.2.2.2.2.2.out.mono BAa.out.size))
              have H9 := Lib.hid (HBa.out.trans (hHeld.2.2.2.2.2.out.mono (by have := HBa.out.size; simp at this; omega)))
              clear hHeld hHeld0 C1k C2k E
              go_wp2
              go_roundw
              case rel => exact ⟨k + 1, by omega, by go_num, H9, G⟩
              case measure => simp [intOf]; omega
        · have z2 : decide (0 < w3) = false := by simpa using qh
          by_cases qc : 0 < cap
          · have z4 : decide (0 < cap) = true := by simpa using qc
            by_cases qo : cap < ay
            · have z5 : decide (cap < ay) = true := by simpa using qo
              have E : Hid (bd = true) := by
                show _ = _
                rw [BDk.out]
                rw [decide_eq_true (p := 0 < cap ∧ cap < _) ⟨qc, by first | exact qo | (rw [HAY.out]; exact qo)⟩]; simp
              have E2 := Lib.hid (QNk.out E.out)
              clear BDk QNk HF
              go_upto_region 7 with fail
              refine wp_region_held_drew (S := fun w' => w'.cell? ⟨w.heap.size, 1, none⟩ = some (.slice (some ⟨bp, op, none⟩) pl pc) ∧ w'.cell? ⟨w.heap.size + 1, 1, none⟩ = some (.slice a1 l1.length c1) ∧ w'.cell? ⟨w.heap.size + 1, 2, none⟩ = some (.slice a2 l2.length c2) ∧ w'.cell? ⟨bp, op + k * 3 + 2, none⟩ = some (.int .i64 cap) ∧ w'.cell? ⟨bm, om + k, none⟩ = some (.int .i64 z) ∧ Hid (Below wa.heap.size wa w')) (by kernel_rfl) ?_ (fun hHeld => ?_)
              · exact ⟨hHeld0.1, hHeld0.2.1, hHeld0.2.2.1, hHeld0.2.2.2.1, hHeld0.2.2.2.2.1, hHeld0.2.2.2.2.2.out.drew⟩
              refine wpAnyH_take (oi := ⟨_, _, _, _, _, _⟩) (i := 0) (v := ?_) rfl (by kernel_rfl) (by kernel_rfl) (by kernel_rfl) (fun _ _ _ h => h) (Or.inl ⟨by rfl, ?ye10⟩) (by assumption) ?re10
              case ye10 => (intro w hSw; (try dsimp only at hSw); go_simp; (try with_reducible rfl))
              try simp only [Act.put, List.setIfInBounds_toArray, List.set_cons_zero, List.set_cons_succ]
              refine wpAnyH_take (oi := ⟨_, _, _, _, _, _⟩) (i := 1) (v := ?_) rfl (by kernel_rfl) (by kernel_rfl) (by kernel_rfl) (fun _ _ _ h => h) (Or.inl ⟨by rfl, ?ye11⟩) (by assumption) ?re11
              case ye11 => (intro w hSw; (try dsimp only at hSw); go_simp; (try with_reducible rfl))
              try simp only [Act.put, List.setIfInBounds_toArray, List.set_cons_zero, List.set_cons_succ]
              refine wpAnyH_take (oi := ⟨_, _, _, _, _, _⟩) (i := 2) (v := ?_) rfl (by kernel_rfl) (by kernel_rfl) (by kernel_rfl) (fun _ _ _ h => h) (Or.inl ⟨by rfl, ?ye12⟩) (by assumption) ?re12
              case ye12 => (intro w hSw; (try dsimp only at hSw); go_simp; (try with_reducible rfl))
              try simp only [Act.put, List.setIfInBounds_toArray, List.set_cons_zero, List.set_cons_succ]
              refine wpAnyH_take (oi := ⟨_, _, _, _, _, _⟩) (i := 3) (v := ?_) rfl (by kernel_rfl) (by kernel_rfl) (by kernel_rfl) (fun _ _ _ h => h) (Or.inl ⟨by rfl, ?ye13⟩) (by assumption) ?re13
              case ye13 => (intro w hSw; (try dsimp only at hSw); go_simp; (try with_reducible rfl))
              try simp only [Act.put, List.setIfInBounds_toArray, List.set_cons_zero, List.set_cons_succ]
              refine wpAnyH_take (oi := ⟨_, _, _, _, _, _⟩) (i := 4) (v := ?_) rfl (by kernel_rfl) (by kernel_rfl) (by kernel_rfl) (fun _ _ _ h => h) (Or.inl ⟨by rfl, ?ye14⟩) (by assumption) ?re14
              case ye14 => (intro w hSw; (try dsimp only at hSw); go_simp; (try with_reducible rfl))
              try simp only [Act.put, List.setIfInBounds_toArray, List.set_cons_zero, List.set_cons_succ]
              refine wpAnyH_take (oi := ⟨_, _, _, _, _, _⟩) (i := 5) (v := ?_) rfl (by kernel_rfl) (by kernel_rfl) (by kernel_rfl) (fun _ _ _ h => h) (Or.inl ⟨by rfl, ?ye15⟩) (by assumption) ?re15
              case ye15 => (intro w hSw; (try dsimp only at hSw); go_simp; (try with_reducible rfl))
              try simp only [Act.put, List.setIfInBounds_toArray, List.set_cons_zero, List.set_cons_succ]
              refine wpAnyH_take (oi := ⟨_, _, _, _, _, _⟩) (i := 6) (v := ?_) rfl (by kernel_rfl) (by kernel_rfl) (by kernel_rfl) (fun _ _ _ h => h) (Or.inl ⟨by rfl, ?ye16⟩) (by assumption) ?re16
              case ye16 => (intro w hSw; (try dsimp only at hSw); go_simp; (try with_reducible rfl))
              try simp only [Act.put, List.setIfInBounds_toArray, List.set_cons_zero, List.set_cons_succ]
              refine wpAnyH_ready (rs := [7]) (by kernel_rfl) (by simp) ?_
              refine AllReadyH.cons (o := ⟨_, _, _, _, _, _⟩) rfl (fun K hK => ?_) AllReadyH.nil
              go_simp
              go_at_call 46; refine (C1k.out _ (BAa.out.trans (hHeld.2.2.2.2.2.out.mono BAa.out.size))).mono ?_; rintro e w4 ⟨rfl, K⟩; (try go_wp2_with fail)
              refine hK.out _ _ ?_ (fun hHeld2 => ?_)
              · exact ⟨keepc hHeld.1 K, keepc hHeld.2.1 K, keepc hHeld.2.2.1 K, keepc hHeld.2.2.2.1 K, keepc hHeld.2.2.2.2.1 K, hHeld.2.2.2.2.2.out.trans (K.mono hHeld.2.2.2.2.2.out.size)⟩
              clear hK K hHeld
              have hHeld := hHeld2
              clear hHeld2
              try simp only [Act.put, List.setIfInBounds_toArray, List.set_cons_zero, List.set_cons_succ]
              refine wpAnyH_take (oi := ⟨_, _, _, _, _, _⟩) (i := 8) (v := ?_) rfl (by kernel_rfl) (by kernel_rfl) (by kernel_rfl) (fun _ _ _ h => h) (Or.inl ⟨by rfl, ?ye18⟩) (by assumption) ?re18
              case ye18 => (intro w hSw; (try dsimp only at hSw); go_simp; (try with_reducible rfl))
              try simp only [Act.put, List.setIfInBounds_toArray, List.set_cons_zero, List.set_cons_succ]
              refine wpAnyH_take (oi := ⟨_, _, _, _, _, _⟩) (i := 9) (v := ?_) rfl (by kernel_rfl) (by kernel_rfl) (by kernel_rfl) (fun _ _ _ h => h) (Or.inl ⟨by rfl, ?ye19⟩) (by assumption) ?re19
              case ye19 => (intro w hSw; (try dsimp only at hSw); go_simp; (try with_reducible rfl))
              try simp only [Act.put, List.setIfInBounds_toArray, List.set_cons_zero, List.set_cons_succ]
              refine wpAnyH_take (oi := ⟨_, _, _, _, _, _⟩) (i := 10) (v := ?_) rfl (by kernel_rfl) (by kernel_rfl) (by kernel_rfl) (fun _ _ _ h => h) (Or.inl ⟨by rfl, ?ye110⟩) (by assumption) ?re110
              case ye110 => (intro w hSw; (try dsimp only at hSw); go_simp; (try with_reducible rfl))
              try simp only [Act.put, List.setIfInBounds_toArray, List.set_cons_zero, List.set_cons_succ]
              refine wpAnyH_take (oi := ⟨_, _, _, _, _, _⟩) (i := 11) (v := ?_) rfl (by kernel_rfl) (by kernel_rfl) (by kernel_rfl) (fun _ _ _ h => h) (Or.inl ⟨by rfl, ?ye111⟩) (by assumption) ?re111
              case ye111 => (intro w hSw; (try dsimp only at hSw); go_simp; (try with_reducible rfl))
              try simp only [Act.put, List.setIfInBounds_toArray, List.set_cons_zero, List.set_cons_succ]
              refine wpAnyH_take (oi := ⟨_, _, _, _, _, _⟩) (i := 12) (v := ?_) rfl (by kernel_rfl) (by kernel_rfl) (by kernel_rfl) (fun _ _ _ h => h) (Or.inl ⟨by rfl, ?ye112⟩) (by assumption) ?re112
              case ye112 => (intro w hSw; (try dsimp only at hSw); go_simp; (try with_reducible rfl))
              try simp only [Act.put, List.setIfInBounds_toArray, List.set_cons_zero, List.set_cons_succ]
              refine wpAnyH_take (oi := ⟨_, _, _, _, _, _⟩) (i := 13) rfl (by kernel_rfl) (by kernel_rfl) (by kernel_rfl) (fun _ _ _ h => h) (Or.inr ⟨by rfl, rfl⟩) (by assumption) ?re113
              try simp only [Act.put, List.setIfInBounds_toArray, List.set_cons_zero, List.set_cons_succ]
              refine wpAnyH_take (oi := ⟨_, _, _, _, _, _⟩) (i := 14) rfl (by kernel_rfl) (by kernel_rfl) (by kernel_rfl) (fun _ _ _ h => h) (Or.inr ⟨by rfl, rfl⟩) (by assumption) ?re114
              try simp only [Act.put, List.setIfInBounds_toArray, List.set_cons_zero, List.set_cons_succ]
              refine wpAnyH_take (oi := ⟨_, _, _, _, _, _⟩) (i := 15) rfl (by kernel_rfl) (by kernel_rfl) (by kernel_rfl) (fun _ _ _ h => h) (Or.inr ⟨by rfl, rfl⟩) (by assumption) ?re115
              try simp only [Act.put, List.setIfInBounds_toArray, List.set_cons_zero, List.set_cons_succ]
              refine wpAnyH_take (oi := ⟨_, _, _, _, _, _⟩) (i := 16) rfl (by kernel_rfl) (by kernel_rfl) (by kernel_rfl) (fun _ _ _ h => h) (Or.inr ⟨by rfl, rfl⟩) (by assumption) ?re116
              try simp only [Act.put, List.setIfInBounds_toArray, List.set_cons_zero, List.set_cons_succ]
              refine wpAnyH_take (oi := ⟨_, _, _, _, _, _⟩) (i := 17) rfl (by kernel_rfl) (by kernel_rfl) (by kernel_rfl) (fun _ _ _ h => h) (Or.inr ⟨by rfl, rfl⟩) (by assumption) ?re117
              try simp only [Act.put, List.setIfInBounds_toArray, List.set_cons_zero, List.set_cons_succ]
              refine wpAnyH_take (oi := ⟨_, _, _, _, _, _⟩) (i := 18) rfl (by kernel_rfl) (by kernel_rfl) (by kernel_rfl) (fun _ _ _ h => h) (Or.inr ⟨by rfl, rfl⟩) (by assumption) ?re118
              try simp only [Act.put, List.setIfInBounds_toArray, List.set_cons_zero, List.set_cons_succ]
              refine wpAnyH_take (oi := ⟨_, _, _, _, _, _⟩) (i := 19) (v := ?_) rfl (by kernel_rfl) (by kernel_rfl) (by kernel_rfl) (fun _ _ _ h => h) (Or.inl ⟨by rfl, ?ye119⟩) (by assumption) ?re119
              case ye119 => (intro w hSw; (try dsimp only at hSw); go_simp; (try with_reducible rfl))
              try simp only [Act.put, List.setIfInBounds_toArray, List.set_cons_zero, List.set_cons_succ]
              refine wpAnyH_take (oi := ⟨_, _, _, _, _, _⟩) (i := 20) (v := ?_) rfl (by kernel_rfl) (by kernel_rfl) (by kernel_rfl) (fun _ _ _ h => h) (Or.inl ⟨by rfl, ?ye120⟩) (by assumption) ?re120
              case ye120 => (intro w hSw; (try dsimp only at hSw); go_simp; (try with_reducible rfl))
              try simp only [Act.put, List.setIfInBounds_toArray, List.set_cons_zero, List.set_cons_succ]
              refine wpAnyH_take (oi := ⟨_, _, _, _, _, _⟩) (i := 21) (v := ?_) rfl (by kernel_rfl) (by kernel_rfl) (by kernel_rfl) (fun _ _ _ h => h) (Or.inl ⟨by rfl, ?ye121⟩) (by assumption) ?re121
              case ye121 => (intro w hSw; (try dsimp only at hSw); go_simp; (try with_reducible rfl))
              try simp only [Act.put, List.setIfInBounds_toArray, List.set_cons_zero, List.set_cons_succ]
              refine wpAnyH_take (oi := ⟨_, _, _, _, _, _⟩) (i := 22) (v := ?_) rfl (by kernel_rfl) (by kernel_rfl) (by kernel_rfl) (fun _ _ _ h => h) (Or.inl ⟨by rfl, ?ye122⟩) (by assumption) ?re122
              case ye122 => (intro w hSw; (try dsimp only at hSw); go_simp; (try with_reducible rfl))
              try simp only [Act.put, List.setIfInBounds_toArray, List.set_cons_zero, List.set_cons_succ]
              refine wpAnyH_take (oi := ⟨_, _, _, _, _, _⟩) (i := 23) (v := ?_) rfl (by kernel_rfl) (by kernel_rfl) (by kernel_rfl) (fun _ _ _ h => h) (Or.inl ⟨by rfl, ?ye123⟩) (by assumption) ?re123
              case ye123 => (intro w hSw; (try dsimp only at hSw); go_simp; (try with_reducible rfl))
              try simp only [Act.put, List.setIfInBounds_toArray, List.set_cons_zero, List.set_cons_succ]
              refine wpAnyH_take (oi := ⟨_, _, _, _, _, _⟩) (i := 24) (v := ?_) rfl (by kernel_rfl) (by kernel_rfl) (by kernel_rfl) (fun _ _ _ h => h) (Or.inl ⟨by rfl, ?ye124⟩) (by assumption) ?re124
              case ye124 => (intro w hSw; (try dsimp only at hSw); go_simp; (try with_reducible rfl))
              try simp only [Act.put, List.setIfInBounds_toArray, List.set_cons_zero, List.set_cons_succ]
              refine wpAnyH_take (oi := ⟨_, _, _, _, _, _⟩) (i := 25) (v := ?_) rfl (by kernel_rfl) (by kernel_rfl) (by kernel_rfl) (fun _ _ _ h => h) (Or.inl ⟨by rfl, ?ye125⟩) (by assumption) ?re125
              case ye125 => (intro w hSw; (try dsimp only at hSw); go_simp; (try with_reducible rfl))
              try simp only [Act.put, List.setIfInBounds_toArray, List.set_cons_zero, List.set_cons_succ]
              refine wpAnyH_take (oi := ⟨_, _, _, _, _, _⟩) (i := 26) (v := ?_) rfl (by kernel_rfl) (by kernel_rfl) (by kernel_rfl) (fun _ _ _ h => h) (Or.inl ⟨by rfl, ?ye126⟩) (by assumption) ?re126
              case ye126 => (intro w hSw; (try dsimp only at hSw); go_simp; (try with_reducible rfl))
              try simp only [Act.put, List.setIfInBounds_toArray, List.set_cons_zero, List.set_cons_succ]
              refine wpAnyH_take (oi := ⟨_, _, _, _, _, _⟩) (i := 27) (v := ?_) rfl (by kernel_rfl) (by kernel_rfl) (by kernel_rfl) (fun _ _ _ h => h) (Or.inl ⟨by rfl, ?ye127⟩) (by assumption) ?re127
              case ye127 => (intro w hSw; (try dsimp only at hSw); go_simp; (try with_reducible rfl))
              try simp only [Act.put, List.setIfInBounds_toArray, List.set_cons_zero, List.set_cons_succ]
              refine wpAnyH_take (oi := ⟨_, _, _, _, _, _⟩) (i := 28) (v := ?_) rfl (by kernel_rfl) (by kernel_rfl) (by kernel_rfl) (fun _ _ _ h => h) (Or.inl ⟨by rfl, ?ye128⟩) (by assumption) ?re128
              case ye128 => (intro w hSw; (try dsimp only at hSw); go_simp; (try with_reducible rfl))
              try simp only [Act.put, List.setIfInBounds_toArray, List.set_cons_zero, List.set_cons_succ]
              refine wpAnyH_take (oi := ⟨_, _, _, _, _, _⟩) (i := 29) (v := ?_) rfl (by kernel_rfl) (by kernel_rfl) (by kernel_rfl) (fun _ _ _ h => h) (Or.inl ⟨by rfl, ?ye129⟩) (by assumption) ?re129
              case ye129 => (intro w hSw; (try dsimp only at hSw); go_simp; (try with_reducible rfl))
              try simp only [Act.put, List.setIfInBounds_toArray, List.set_cons_zero, List.set_cons_succ]
              refine wpAnyH_take (oi := ⟨_, _, _, _, _, _⟩) (i := 30) (v := ?_) rfl (by kernel_rfl) (by kernel_rfl) (by kernel_rfl) (fun _ _ _ h => h) (Or.inl ⟨by rfl, ?ye130⟩) (by assumption) ?re130
              case ye130 => (intro w hSw; (try dsimp only at hSw); go_simp; (try with_reducible rfl))
              try simp only [Act.put, List.setIfInBounds_toArray, List.set_cons_zero, List.set_cons_succ]
              refine wpAnyH_take (oi := ⟨_, _, _, _, _, _⟩) (i := 31) (v := ?_) rfl (by kernel_rfl) (by kernel_rfl) (by kernel_rfl) (fun _ _ _ h => h) (Or.inl ⟨by rfl, ?ye131⟩) (by assumption) ?re131
              case ye131 => (intro w hSw; (try dsimp only at hSw); go_simp; (try with_reducible rfl))
              try simp only [Act.put, List.setIfInBounds_toArray, List.set_cons_zero, List.set_cons_succ]
              refine wpAnyH_take (oi := ⟨_, _, _, _, _, _⟩) (i := 32) (v := ?_) rfl (by kernel_rfl) (by kernel_rfl) (by kernel_rfl) (fun _ _ _ h => h) (Or.inl ⟨by rfl, ?ye132⟩) (by assumption) ?re132
              case ye132 => (intro w hSw; (try dsimp only at hSw); go_simp; (try with_reducible rfl))
              try simp only [Act.put, List.setIfInBounds_toArray, List.set_cons_zero, List.set_cons_succ]
              refine wpAnyH_take (oi := ⟨_, _, _, _, _, _⟩) (i := 33) (v := ?_) rfl (by kernel_rfl) (by kernel_rfl) (by kernel_rfl) (fun _ _ _ h => h) (Or.inl ⟨by rfl, ?ye133⟩) (by assumption) ?re133
              case ye133 => (intro w hSw; (try dsimp only at hSw); go_simp; (try with_reducible rfl))
              try simp only [Act.put, List.setIfInBounds_toArray, List.set_cons_zero, List.set_cons_succ]
              refine wpAnyH_take (oi := ⟨_, _, _, _, _, _⟩) (i := 34) (v := ?_) rfl (by kernel_rfl) (by kernel_rfl) (by kernel_rfl) (fun _ _ _ h => h) (Or.inl ⟨by rfl, ?ye134⟩) (by assumption) ?re134
              case ye134 => (intro w hSw; (try dsimp only at hSw); go_simp; (try with_reducible rfl))
              try simp only [Act.put, List.setIfInBounds_toArray, List.set_cons_zero, List.set_cons_succ]
              refine wpAnyH_take (oi := ⟨_, _, _, _, _, _⟩) (i := 35) (v := ?_) rfl (by kernel_rfl) (by kernel_rfl) (by kernel_rfl) (fun _ _ _ h => h) (Or.inl ⟨by rfl, ?ye135⟩) (by assumption) ?re135
              case ye135 => (intro w hSw; (try dsimp only at hSw); go_simp; (try with_reducible rfl))
              try simp only [Act.put, List.setIfInBounds_toArray, List.set_cons_zero, List.set_cons_succ]
              refine wpAnyH_take (oi := ⟨_, _, _, _, _, _⟩) (i := 36) (v := ?_) rfl (by kernel_rfl) (by kernel_rfl) (by kernel_rfl) (fun _ _ _ h => h) (Or.inl ⟨by rfl, ?ye136⟩) (by assumption) ?re136
              case ye136 => (intro w hSw; (try dsimp only at hSw); go_simp; (try with_reducible rfl))
              try simp only [Act.put, List.setIfInBounds_toArray, List.set_cons_zero, List.set_cons_succ]
              refine wpAnyH_take (oi := ⟨_, _, _, _, _, _⟩) (i := 37) (v := ?_) rfl (by kernel_rfl) (by kernel_rfl) (by kernel_rfl) (fun _ _ _ h => h) (Or.inl ⟨by rfl, ?ye137⟩) (by assumption) ?re137
              case ye137 => (intro w hSw; (try dsimp only at hSw); go_simp; (try with_reducible rfl))
              try simp only [Act.put, List.setIfInBounds_toArray, List.set_cons_zero, List.set_cons_succ]
              refine wpAnyH_take (oi := ⟨_, _, _, _, _, _⟩) (i := 38) (v := ?_) rfl (by kernel_rfl) (by kernel_rfl) (by kernel_rfl) (fun _ _ _ h => h) (Or.inl ⟨by rfl, ?ye138⟩) (by assumption) ?re138
              case ye138 => (intro w hSw; (try dsimp only at hSw); go_simp; (try with_reducible rfl))
              try simp only [Act.put, List.setIfInBounds_toArray, List.set_cons_zero, List.set_cons_succ]
              refine wpAnyH_take (oi := ⟨_, _, _, _, _, _⟩) (i := 39) (v := ?_) rfl (by kernel_rfl) (by kernel_rfl) (by kernel_rfl) (fun _ _ _ h => h) (Or.inl ⟨by rfl, ?ye139⟩) (by assumption) ?re139
              case ye139 => (intro w hSw; (try dsimp only at hSw); go_simp; (try with_reducible rfl))
              try simp only [Act.put, List.setIfInBounds_toArray, List.set_cons_zero, List.set_cons_succ]
              refine wpAnyH_done (by kernel_rfl) ?_ _
              have B9 := Lib.hid (BAa.out.trans (hHeld.2.2.2.2.2.out.mono BAa.out.size))
              have H9 := Lib.hid (HBa.out.trans (hHeld.2.2.2.2.2.out.mono (by have := HBa.out.size; simp at this; omega)))
              clear hHeld hHeld0 C1k C2k E
              go_wp2
              go_ret
              exact ⟨by rw [E2.out]; rfl, B9.out⟩
            · have z5 : decide (cap < ay) = false := by simpa using qo
              have E : Hid (bd = false) := by
                show _ = _
                rw [BDk.out]
                rw [decide_eq_false qa, decide_eq_false (p := 0 < w3 ∧ w3 ≤ z) (by omega), decide_eq_false (p := 0 < cap ∧ cap < _) (by omega)]; rfl
              have G := Lib.hid (HF.out E.out)
              clear BDk QNk HF
              go_upto_region 7 with fail
              refine wp_region_held_drew (S := fun w' => w'.cell? ⟨w.heap.size, 1, none⟩ = some (.slice (some ⟨bp, op, none⟩) pl pc) ∧ w'.cell? ⟨w.heap.size + 1, 1, none⟩ = some (.slice a1 l1.length c1) ∧ w'.cell? ⟨w.heap.size + 1, 2, none⟩ = some (.slice a2 l2.length c2) ∧ w'.cell? ⟨bp, op + k * 3 + 2, none⟩ = some (.int .i64 cap) ∧ w'.cell? ⟨bm, om + k, none⟩ = some (.int .i64 z) ∧ Hid (Below wa.heap.size wa w')) (by kernel_rfl) ?_ (fun hHeld => ?_)
              · exact ⟨hHeld0.1, hHeld0.2.1, hHeld0.2.2.1, hHeld0.2.2.2.1, hHeld0.2.2.2.2.1, hHeld0.2.2.2.2.2.out.drew⟩
              refine wpAnyH_take (oi := ⟨_, _, _, _, _, _⟩) (i := 0) (v := ?_) rfl (by kernel_rfl) (by kernel_rfl) (by kernel_rfl) (fun _ _ _ h => h) (Or.inl ⟨by rfl, ?ye20⟩) (by assumption) ?re20
              case ye20 => (intro w hSw; (try dsimp only at hSw); go_simp; (try with_reducible rfl))
              try simp only [Act.put, List.setIfInBounds_toArray, List.set_cons_zero, List.set_cons_succ]
              refine wpAnyH_take (oi := ⟨_, _, _, _, _, _⟩) (i := 1) (v := ?_) rfl (by kernel_rfl) (by kernel_rfl) (by kernel_rfl) (fun _ _ _ h => h) (Or.inl ⟨by rfl, ?ye21⟩) (by assumption) ?re21
              case ye21 => (intro w hSw; (try dsimp only at hSw); go_simp; (try with_reducible rfl))
              try simp only [Act.put, List.setIfInBounds_toArray, List.set_cons_zero, List.set_cons_succ]
              refine wpAnyH_take (oi := ⟨_, _, _, _, _, _⟩) (i := 2) (v := ?_) rfl (by kernel_rfl) (by kernel_rfl) (by kernel_rfl) (fun _ _ _ h => h) (Or.inl ⟨by rfl, ?ye22⟩) (by assumption) ?re22
              case ye22 => (intro w hSw; (try dsimp only at hSw); go_simp; (try with_reducible rfl))
              try simp only [Act.put, List.setIfInBounds_toArray, List.set_cons_zero, List.set_cons_succ]
              refine wpAnyH_take (oi := ⟨_, _, _, _, _, _⟩) (i := 3) (v := ?_) rfl (by kernel_rfl) (by kernel_rfl) (by kernel_rfl) (fun _ _ _ h => h) (Or.inl ⟨by rfl, ?ye23⟩) (by assumption) ?re23
              case ye23 => (intro w hSw; (try dsimp only at hSw); go_simp; (try with_reducible rfl))
              try simp only [Act.put, List.setIfInBounds_toArray, List.set_cons_zero, List.set_cons_succ]
              refine wpAnyH_take (oi := ⟨_, _, _, _, _, _⟩) (i := 4) (v := ?_) rfl (by kernel_rfl) (by kernel_rfl) (by kernel_rfl) (fun _ _ _ h => h) (Or.inl ⟨by rfl, ?ye24⟩) (by assumption) ?re24
              case ye24 => (intro w hSw; (try dsimp only at hSw); go_simp; (try with_reducible rfl))
              try simp only [Act.put, List.setIfInBounds_toArray, List.set_cons_zero, List.set_cons_succ]
              refine wpAnyH_take (oi := ⟨_, _, _, _, _, _⟩) (i := 5) (v := ?_) rfl (by kernel_rfl) (by kernel_rfl) (by kernel_rfl) (fun _ _ _ h => h) (Or.inl ⟨by rfl, ?ye25⟩) (by assumption) ?re25
              case ye25 => (intro w hSw; (try dsimp only at hSw); go_simp; (try with_reducible rfl))
              try simp only [Act.put, List.setIfInBounds_toArray, List.set_cons_zero, List.set_cons_succ]
              refine wpAnyH_take (oi := ⟨_, _, _, _, _, _⟩) (i := 6) (v := ?_) rfl (by kernel_rfl) (by kernel_rfl) (by kernel_rfl) (fun _ _ _ h => h) (Or.inl ⟨by rfl, ?ye26⟩) (by assumption) ?re26
              case ye26 => (intro w hSw; (try dsimp only at hSw); go_simp; (try with_reducible rfl))
              try simp only [Act.put, List.setIfInBounds_toArray, List.set_cons_zero, List.set_cons_succ]
              refine wpAnyH_ready (rs := [7]) (by kernel_rfl) (by simp) ?_
              refine AllReadyH.cons (o := ⟨_, _, _, _, _, _⟩) rfl (fun K hK => ?_) AllReadyH.nil
              go_simp
              go_at_call 46; refine (C1k.out _ (BAa.out.trans (hHeld.2.2.2.2.2.out.mono BAa.out.size))).mono ?_; rintro e w4 ⟨rfl, K⟩; (try go_wp2_with fail)
              refine hK.out _ _ ?_ (fun hHeld2 => ?_)
              · exact ⟨keepc hHeld.1 K, keepc hHeld.2.1 K, keepc hHeld.2.2.1 K, keepc hHeld.2.2.2.1 K, keepc hHeld.2.2.2.2.1 K, hHeld.2.2.2.2.2.out.trans (K.mono hHeld.2.2.2.2.2.out.size)⟩
              clear hK K hHeld
              have hHeld := hHeld2
              clear hHeld2
              try simp only [Act.put, List.setIfInBounds_toArray, List.set_cons_zero, List.set_cons_succ]
              refine wpAnyH_take (oi := ⟨_, _, _, _, _, _⟩) (i := 8) (v := ?_) rfl (by kernel_rfl) (by kernel_rfl) (by kernel_rfl) (fun _ _ _ h => h) (Or.inl ⟨by rfl, ?ye28⟩) (by assumption) ?re28
              case ye28 => (intro w hSw; (try dsimp only at hSw); go_simp; (try with_reducible rfl))
              try simp only [Act.put, List.setIfInBounds_toArray, List.set_cons_zero, List.set_cons_succ]
              refine wpAnyH_take (oi := ⟨_, _, _, _, _, _⟩) (i := 9) (v := ?_) rfl (by kernel_rfl) (by kernel_rfl) (by kernel_rfl) (fun _ _ _ h => h) (Or.inl ⟨by rfl, ?ye29⟩) (by assumption) ?re29
              case ye29 => (intro w hSw; (try dsimp only at hSw); go_simp; (try with_reducible rfl))
              try simp only [Act.put, List.setIfInBounds_toArray, List.set_cons_zero, List.set_cons_succ]
              refine wpAnyH_take (oi := ⟨_, _, _, _, _, _⟩) (i := 10) (v := ?_) rfl (by kernel_rfl) (by kernel_rfl) (by kernel_rfl) (fun _ _ _ h => h) (Or.inl ⟨by rfl, ?ye210⟩) (by assumption) ?re210
              case ye210 => (intro w hSw; (try dsimp only at hSw); go_simp; (try with_reducible rfl))
              try simp only [Act.put, List.setIfInBounds_toArray, List.set_cons_zero, List.set_cons_succ]
              refine wpAnyH_take (oi := ⟨_, _, _, _, _, _⟩) (i := 11) (v := ?_) rfl (by kernel_rfl) (by kernel_rfl) (by kernel_rfl) (fun _ _ _ h => h) (Or.inl ⟨by rfl, ?ye211⟩) (by assumption) ?re211
              case ye211 => (intro w hSw; (try dsimp only at hSw); go_simp; (try with_reducible rfl))
              try simp only [Act.put, List.setIfInBounds_toArray, List.set_cons_zero, List.set_cons_succ]
              refine wpAnyH_take (oi := ⟨_, _, _, _, _, _⟩) (i := 12) (v := ?_) rfl (by kernel_rfl) (by kernel_rfl) (by kernel_rfl) (fun _ _ _ h => h) (Or.inl ⟨by rfl, ?ye212⟩) (by assumption) ?re212
              case ye212 => (intro w hSw; (try dsimp only at hSw); go_simp; (try with_reducible rfl))
              try simp only [Act.put, List.setIfInBounds_toArray, List.set_cons_zero, List.set_cons_succ]
              refine wpAnyH_take (oi := ⟨_, _, _, _, _, _⟩) (i := 13) rfl (by kernel_rfl) (by kernel_rfl) (by kernel_rfl) (fun _ _ _ h => h) (Or.inr ⟨by rfl, rfl⟩) (by assumption) ?re213
              try simp only [Act.put, List.setIfInBounds_toArray, List.set_cons_zero, List.set_cons_succ]
              refine wpAnyH_take (oi := ⟨_, _, _, _, _, _⟩) (i := 14) rfl (by kernel_rfl) (by kernel_rfl) (by kernel_rfl) (fun _ _ _ h => h) (Or.inr ⟨by rfl, rfl⟩) (by assumption) ?re214
              try simp only [Act.put, List.setIfInBounds_toArray, List.set_cons_zero, List.set_cons_succ]
              refine wpAnyH_take (oi := ⟨_, _, _, _, _, _⟩) (i := 15) rfl (by kernel_rfl) (by kernel_rfl) (by kernel_rfl) (fun _ _ _ h => h) (Or.inr ⟨by rfl, rfl⟩) (by assumption) ?re215
              try simp only [Act.put, List.setIfInBounds_toArray, List.set_cons_zero, List.set_cons_succ]
              refine wpAnyH_take (oi := ⟨_, _, _, _, _, _⟩) (i := 16) rfl (by kernel_rfl) (by kernel_rfl) (by kernel_rfl) (fun _ _ _ h => h) (Or.inr ⟨by rfl, rfl⟩) (by assumption) ?re216
              try simp only [Act.put, List.setIfInBounds_toArray, List.set_cons_zero, List.set_cons_succ]
              refine wpAnyH_take (oi := ⟨_, _, _, _, _, _⟩) (i := 17) rfl (by kernel_rfl) (by kernel_rfl) (by kernel_rfl) (fun _ _ _ h => h) (Or.inr ⟨by rfl, rfl⟩) (by assumption) ?re217
              try simp only [Act.put, List.setIfInBounds_toArray, List.set_cons_zero, List.set_cons_succ]
              refine wpAnyH_take (oi := ⟨_, _, _, _, _, _⟩) (i := 18) rfl (by kernel_rfl) (by kernel_rfl) (by kernel_rfl) (fun _ _ _ h => h) (Or.inr ⟨by rfl, rfl⟩) (by assumption) ?re218
              try simp only [Act.put, List.setIfInBounds_toArray, List.set_cons_zero, List.set_cons_succ]
              refine wpAnyH_take (oi := ⟨_, _, _, _, _, _⟩) (i := 19) (v := ?_) rfl (by kernel_rfl) (by kernel_rfl) (by kernel_rfl) (fun _ _ _ h => h) (Or.inl ⟨by rfl, ?ye219⟩) (by assumption) ?re219
              case ye219 => (intro w hSw; (try dsimp only at hSw); go_simp; (try with_reducible rfl))
              try simp only [Act.put, List.setIfInBounds_toArray, List.set_cons_zero, List.set_cons_succ]
              refine wpAnyH_take (oi := ⟨_, _, _, _, _, _⟩) (i := 20) (v := ?_) rfl (by kernel_rfl) (by kernel_rfl) (by kernel_rfl) (fun _ _ _ h => h) (Or.inl ⟨by rfl, ?ye220⟩) (by assumption) ?re220
              case ye220 => (intro w hSw; (try dsimp only at hSw); go_simp; (try with_reducible rfl))
              try simp only [Act.put, List.setIfInBounds_toArray, List.set_cons_zero, List.set_cons_succ]
              refine wpAnyH_take (oi := ⟨_, _, _, _, _, _⟩) (i := 21) (v := ?_) rfl (by kernel_rfl) (by kernel_rfl) (by kernel_rfl) (fun _ _ _ h => h) (Or.inl ⟨by rfl, ?ye221⟩) (by assumption) ?re221
              case ye221 => (intro w hSw; (try dsimp only at hSw); go_simp; (try with_reducible rfl))
              try simp only [Act.put, List.setIfInBounds_toArray, List.set_cons_zero, List.set_cons_succ]
              refine wpAnyH_take (oi := ⟨_, _, _, _, _, _⟩) (i := 22) (v := ?_) rfl (by kernel_rfl) (by kernel_rfl) (by kernel_rfl) (fun _ _ _ h => h) (Or.inl ⟨by rfl, ?ye222⟩) (by assumption) ?re222
              case ye222 => (intro w hSw; (try dsimp only at hSw); go_simp; (try with_reducible rfl))
              try simp only [Act.put, List.setIfInBounds_toArray, List.set_cons_zero, List.set_cons_succ]
              refine wpAnyH_take (oi := ⟨_, _, _, _, _, _⟩) (i := 23) (v := ?_) rfl (by kernel_rfl) (by kernel_rfl) (by kernel_rfl) (fun _ _ _ h => h) (Or.inl ⟨by rfl, ?ye223⟩) (by assumption) ?re223
              case ye223 => (intro w hSw; (try dsimp only at hSw); go_simp; (try with_reducible rfl))
              try simp only [Act.put, List.setIfInBounds_toArray, List.set_cons_zero, List.set_cons_succ]
              refine wpAnyH_take (oi := ⟨_, _, _, _, _, _⟩) (i := 24) (v := ?_) rfl (by kernel_rfl) (by kernel_rfl) (by kernel_rfl) (fun _ _ _ h => h) (Or.inl ⟨by rfl, ?ye224⟩) (by assumption) ?re224
              case ye224 => (intro w hSw; (try dsimp only at hSw); go_simp; (try with_reducible rfl))
              try simp only [Act.put, List.setIfInBounds_toArray, List.set_cons_zero, List.set_cons_succ]
              refine wpAnyH_take (oi := ⟨_, _, _, _, _, _⟩) (i := 25) (v := ?_) rfl (by kernel_rfl) (by kernel_rfl) (by kernel_rfl) (fun _ _ _ h => h) (Or.inl ⟨by rfl, ?ye225⟩) (by assumption) ?re225
              case ye225 => (intro w hSw; (try dsimp only at hSw); go_simp; (try with_reducible rfl))
              try simp only [Act.put, List.setIfInBounds_toArray, List.set_cons_zero, List.set_cons_succ]
              refine wpAnyH_take (oi := ⟨_, _, _, _, _, _⟩) (i := 26) (v := ?_) rfl (by kernel_rfl) (by kernel_rfl) (by kernel_rfl) (fun _ _ _ h => h) (Or.inl ⟨by rfl, ?ye226⟩) (by assumption) ?re226
              case ye226 => (intro w hSw; (try dsimp only at hSw); go_simp; (try with_reducible rfl))
              try simp only [Act.put, List.setIfInBounds_toArray, List.set_cons_zero, List.set_cons_succ]
              refine wpAnyH_take (oi := ⟨_, _, _, _, _, _⟩) (i := 27) (v := ?_) rfl (by kernel_rfl) (by kernel_rfl) (by kernel_rfl) (fun _ _ _ h => h) (Or.inl ⟨by rfl, ?ye227⟩) (by assumption) ?re227
              case ye227 => (intro w hSw; (try dsimp only at hSw); go_simp; (try with_reducible rfl))
              try simp only [Act.put, List.setIfInBounds_toArray, List.set_cons_zero, List.set_cons_succ]
              refine wpAnyH_take (oi := ⟨_, _, _, _, _, _⟩) (i := 28) (v := ?_) rfl (by kernel_rfl) (by kernel_rfl) (by kernel_rfl) (fun _ _ _ h => h) (Or.inl ⟨by rfl, ?ye228⟩) (by assumption) ?re228
              case ye228 => (intro w hSw; (try dsimp only at hSw); go_simp; (try with_reducible rfl))
              try simp only [Act.put, List.setIfInBounds_toArray, List.set_cons_zero, List.set_cons_succ]
              refine wpAnyH_take (oi := ⟨_, _, _, _, _, _⟩) (i := 29) (v := ?_) rfl (by kernel_rfl) (by kernel_rfl) (by kernel_rfl) (fun _ _ _ h => h) (Or.inl ⟨by rfl, ?ye229⟩) (by assumption) ?re229
              case ye229 => (intro w hSw; (try dsimp only at hSw); go_simp; (try with_reducible rfl))
              try simp only [Act.put, List.setIfInBounds_toArray, List.set_cons_zero, List.set_cons_succ]
              refine wpAnyH_take (oi := ⟨_, _, _, _, _, _⟩) (i := 30) (v := ?_) rfl (by kernel_rfl) (by kernel_rfl) (by kernel_rfl) (fun _ _ _ h => h) (Or.inl ⟨by rfl, ?ye230⟩) (by assumption) ?re230
              case ye230 => (intro w hSw; (try dsimp only at hSw); go_simp; (try with_reducible rfl))
              try simp only [Act.put, List.setIfInBounds_toArray, List.set_cons_zero, List.set_cons_succ]
              refine wpAnyH_take (oi := ⟨_, _, _, _, _, _⟩) (i := 31) (v := ?_) rfl (by kernel_rfl) (by kernel_rfl) (by kernel_rfl) (fun _ _ _ h => h) (Or.inl ⟨by rfl, ?ye231⟩) (by assumption) ?re231
              case ye231 => (intro w hSw; (try dsimp only at hSw); go_simp; (try with_reducible rfl))
              try simp only [Act.put, List.setIfInBounds_toArray, List.set_cons_zero, List.set_cons_succ]
              refine wpAnyH_take (oi := ⟨_, _, _, _, _, _⟩) (i := 32) (v := ?_) rfl (by kernel_rfl) (by kernel_rfl) (by kernel_rfl) (fun _ _ _ h => h) (Or.inl ⟨by rfl, ?ye232⟩) (by assumption) ?re232
              case ye232 => (intro w hSw; (try dsimp only at hSw); go_simp; (try with_reducible rfl))
              try simp only [Act.put, List.setIfInBounds_toArray, List.set_cons_zero, List.set_cons_succ]
              refine wpAnyH_take (oi := ⟨_, _, _, _, _, _⟩) (i := 33) (v := ?_) rfl (by kernel_rfl) (by kernel_rfl) (by kernel_rfl) (fun _ _ _ h => h) (Or.inl ⟨by rfl, ?ye233⟩) (by assumption) ?re233
              case ye233 => (intro w hSw; (try dsimp only at hSw); go_simp; (try with_reducible rfl))
              try simp only [Act.put, List.setIfInBounds_toArray, List.set_cons_zero, List.set_cons_succ]
              refine wpAnyH_take (oi := ⟨_, _, _, _, _, _⟩) (i := 34) (v := ?_) rfl (by kernel_rfl) (by kernel_rfl) (by kernel_rfl) (fun _ _ _ h => h) (Or.inl ⟨by rfl, ?ye234⟩) (by assumption) ?re234
              case ye234 => (intro w hSw; (try dsimp only at hSw); go_simp; (try with_reducible rfl))
              try simp only [Act.put, List.setIfInBounds_toArray, List.set_cons_zero, List.set_cons_succ]
              refine wpAnyH_take (oi := ⟨_, _, _, _, _, _⟩) (i := 35) (v := ?_) rfl (by kernel_rfl) (by kernel_rfl) (by kernel_rfl) (fun _ _ _ h => h) (Or.inl ⟨by rfl, ?ye235⟩) (by assumption) ?re235
              case ye235 => (intro w hSw; (try dsimp only at hSw); go_simp; (try with_reducible rfl))
              try simp only [Act.put, List.setIfInBounds_toArray, List.set_cons_zero, List.set_cons_succ]
              refine wpAnyH_take (oi := ⟨_, _, _, _, _, _⟩) (i := 36) (v := ?_) rfl (by kernel_rfl) (by kernel_rfl) (by kernel_rfl) (fun _ _ _ h => h) (Or.inl ⟨by rfl, ?ye236⟩) (by assumption) ?re236
              case ye236 => (intro w hSw; (try dsimp only at hSw); go_simp; (try with_reducible rfl))
              try simp only [Act.put, List.setIfInBounds_toArray, List.set_cons_zero, List.set_cons_succ]
              refine wpAnyH_take (oi := ⟨_, _, _, _, _, _⟩) (i := 37) (v := ?_) rfl (by kernel_rfl) (by kernel_rfl) (by kernel_rfl) (fun _ _ _ h => h) (Or.inl ⟨by rfl, ?ye237⟩) (by assumption) ?re237
              case ye237 => (intro w hSw; (try dsimp only at hSw); go_simp; (try with_reducible rfl))
              try simp only [Act.put, List.setIfInBounds_toArray, List.set_cons_zero, List.set_cons_succ]
              refine wpAnyH_take (oi := ⟨_, _, _, _, _, _⟩) (i := 38) (v := ?_) rfl (by kernel_rfl) (by kernel_rfl) (by kernel_rfl) (fun _ _ _ h => h) (Or.inl ⟨by rfl, ?ye238⟩) (by assumption) ?re238
              case ye238 => (intro w hSw; (try dsimp only at hSw); go_simp; (try with_reducible rfl))
              try simp only [Act.put, List.setIfInBounds_toArray, List.set_cons_zero, List.set_cons_succ]
              refine wpAnyH_take (oi := ⟨_, _, _, _, _, _⟩) (i := 39) (v := ?_) rfl (by kernel_rfl) (by kernel_rfl) (by kernel_rfl) (fun _ _ _ h => h) (Or.inl ⟨by rfl, ?ye239⟩) (by assumption) ?re239
              case ye239 => (intro w hSw; (try dsimp only at hSw); go_simp; (try with_reducible rfl))
              try simp only [Act.put, List.setIfInBounds_toArray, List.set_cons_zero, List.set_cons_succ]
              refine wpAnyH_done (by kernel_rfl) ?_ _
              have B9 := Lib.hid (BAa.out.trans (hHeld.2.2.2.2.2.out.mono BAa.out.size))
              have H9 := Lib.hid (HBa.out.trans (hHeld.2.2.2.2.2.out.mono (by have := HBa.out.size; simp at this; omega)))
              clear hHeld hHeld0 C1k C2k E
              go_wp2
              go_roundw
              case rel => exact ⟨k + 1, by omega, by go_num, H9, G⟩
              case measure => simp [intOf]; omega
          · have z4 : decide (0 < cap) = false := by simpa using qc
            have E : Hid (bd = false) := by
              show _ = _
              rw [BDk.out]
              rw [decide_eq_false qa, decide_eq_false (p := 0 < w3 ∧ w3 ≤ z) (by omega), decide_eq_false (p := 0 < cap ∧ cap < _) (by omega)]; rfl
            have G := Lib.hid (HF.out E.out)
            clear BDk QNk HF
            go_upto_region 7 with fail
            refine wp_region_held_drew (S := fun w' => w'.cell? ⟨w.heap.size, 1, none⟩ = some (.slice (some ⟨bp, op, none⟩) pl pc) ∧ w'.cell? ⟨w.heap.size + 1, 1, none⟩ = some (.slice a1 l1.length c1) ∧ w'.cell? ⟨w.heap.size + 1, 2, none⟩ = some (.slice a2 l2.length c2) ∧ w'.cell? ⟨bp, op + k * 3 + 2, none⟩ = some (.int .i64 cap) ∧ w'.cell? ⟨bm, om + k, none⟩ = some (.int .i64 z) ∧ Hid (Below wa.heap.size wa w')) (by kernel_rfl) ?_ (fun hHeld => ?_)
            · exact ⟨hHeld0.1, hHeld0.2.1, hHeld0.2.2.1, hHeld0.2.2.2.1, hHeld0.2.2.2.2.1, hHeld0.2.2.2.2.2.out.drew⟩
            refine wpAnyH_take (oi := ⟨_, _, _, _, _, _⟩) (i := 0) (v := ?_) rfl (by kernel_rfl) (by kernel_rfl) (by kernel_rfl) (fun _ _ _ h => h) (Or.inl ⟨by rfl, ?ye30⟩) (by assumption) ?re30
            case ye30 => (intro w hSw; (try dsimp only at hSw); go_simp; (try with_reducible rfl))
            try simp only [Act.put, List.setIfInBounds_toArray, List.set_cons_zero, List.set_cons_succ]
            refine wpAnyH_take (oi := ⟨_, _, _, _, _, _⟩) (i := 1) (v := ?_) rfl (by kernel_rfl) (by kernel_rfl) (by kernel_rfl) (fun _ _ _ h => h) (Or.inl ⟨by rfl, ?ye31⟩) (by assumption) ?re31
            case ye31 => (intro w hSw; (try dsimp only at hSw); go_simp; (try with_reducible rfl))
            try simp only [Act.put, List.setIfInBounds_toArray, List.set_cons_zero, List.set_cons_succ]
            refine wpAnyH_take (oi := ⟨_, _, _, _, _, _⟩) (i := 2) (v := ?_) rfl (by kernel_rfl) (by kernel_rfl) (by kernel_rfl) (fun _ _ _ h => h) (Or.inl ⟨by rfl, ?ye32⟩) (by assumption) ?re32
            case ye32 => (intro w hSw; (try dsimp only at hSw); go_simp; (try with_reducible rfl))
            try simp only [Act.put, List.setIfInBounds_toArray, List.set_cons_zero, List.set_cons_succ]
            refine wpAnyH_take (oi := ⟨_, _, _, _, _, _⟩) (i := 3) (v := ?_) rfl (by kernel_rfl) (by kernel_rfl) (by kernel_rfl) (fun _ _ _ h => h) (Or.inl ⟨by rfl, ?ye33⟩) (by assumption) ?re33
            case ye33 => (intro w hSw; (try dsimp only at hSw); go_simp; (try with_reducible rfl))
            try simp only [Act.put, List.setIfInBounds_toArray, List.set_cons_zero, List.set_cons_succ]
            refine wpAnyH_take (oi := ⟨_, _, _, _, _, _⟩) (i := 4) (v := ?_) rfl (by kernel_rfl) (by kernel_rfl) (by kernel_rfl) (fun _ _ _ h => h) (Or.inl ⟨by rfl, ?ye34⟩) (by assumption) ?re34
            case ye34 => (intro w hSw; (try dsimp only at hSw); go_simp; (try with_reducible rfl))
            try simp only [Act.put, List.setIfInBounds_toArray, List.set_cons_zero, List.set_cons_succ]
            refine wpAnyH_take (oi := ⟨_, _, _, _, _, _⟩) (i := 5) (v := ?_) rfl (by kernel_rfl) (by kernel_rfl) (by kernel_rfl) (fun _ _ _ h => h) (Or.inl ⟨by rfl, ?ye35⟩) (by assumption) ?re35
            case ye35 => (intro w hSw; (try dsimp only at hSw); go_simp; (try with_reducible rfl))
            try simp only [Act.put, List.setIfInBounds_toArray, List.set_cons_zero, List.set_cons_succ]
            refine wpAnyH_take (oi := ⟨_, _, _, _, _, _⟩) (i := 6) (v := ?_) rfl (by kernel_rfl) (by kernel_rfl) (by kernel_rfl) (fun _ _ _ h => h) (Or.inl ⟨by rfl, ?ye36⟩) (by assumption) ?re36
            case ye36 => (intro w hSw; (try dsimp only at hSw); go_simp; (try with_reducible rfl))
            try simp only [Act.put, List.setIfInBounds_toArray, List.set_cons_zero, List.set_cons_succ]
            refine wpAnyH_ready (rs := [7]) (by kernel_rfl) (by simp) ?_
            refine AllReadyH.cons (o := ⟨_, _, _, _, _, _⟩) rfl (fun K hK => ?_) AllReadyH.nil
            go_simp
            go_at_call 46; refine (C1k.out _ (BAa.out.trans (hHeld.2.2.2.2.2.out.mono BAa.out.size))).mono ?_; rintro e w4 ⟨rfl, K⟩; (try go_wp2_with fail)
            refine hK.out _ _ ?_ (fun hHeld2 => ?_)
            · exact ⟨keepc hHeld.1 K, keepc hHeld.2.1 K, keepc hHeld.2.2.1 K, keepc hHeld.2.2.2.1 K, keepc hHeld.2.2.2.2.1 K, hHeld.2.2.2.2.2.out.trans (K.mono hHeld.2.2.2.2.2.out.size)⟩
            clear hK K hHeld
            have hHeld := hHeld2
            clear hHeld2
            try simp only [Act.put, List.setIfInBounds_toArray, List.set_cons_zero, List.set_cons_succ]
            refine wpAnyH_take (oi := ⟨_, _, _, _, _, _⟩) (i := 8) (v := ?_) rfl (by kernel_rfl) (by kernel_rfl) (by kernel_rfl) (fun _ _ _ h => h) (Or.inl ⟨by rfl, ?ye38⟩) (by assumption) ?re38
            case ye38 => (intro w hSw; (try dsimp only at hSw); go_simp; (try with_reducible rfl))
            try simp only [Act.put, List.setIfInBounds_toArray, List.set_cons_zero, List.set_cons_succ]
            refine wpAnyH_take (oi := ⟨_, _, _, _, _, _⟩) (i := 9) (v := ?_) rfl (by kernel_rfl) (by kernel_rfl) (by kernel_rfl) (fun _ _ _ h => h) (Or.inl ⟨by rfl, ?ye39⟩) (by assumption) ?re39
            case ye39 => (intro w hSw; (try dsimp only at hSw); go_simp; (try with_reducible rfl))
            try simp only [Act.put, List.setIfInBounds_toArray, List.set_cons_zero, List.set_cons_succ]
            refine wpAnyH_take (oi := ⟨_, _, _, _, _, _⟩) (i := 10) (v := ?_) rfl (by kernel_rfl) (by kernel_rfl) (by kernel_rfl) (fun _ _ _ h => h) (Or.inl ⟨by rfl, ?ye310⟩) (by assumption) ?re310
            case ye310 => (intro w hSw; (try dsimp only at hSw); go_simp; (try with_reducible rfl))
            try simp only [Act.put, List.setIfInBounds_toArray, List.set_cons_zero, List.set_cons_succ]
            refine wpAnyH_take (oi := ⟨_, _, _, _, _, _⟩) (i := 11) (v := ?_) rfl (by kernel_rfl) (by kernel_rfl) (by kernel_rfl) (fun _ _ _ h => h) (Or.inl ⟨by rfl, ?ye311⟩) (by assumption) ?re311
            case ye311 => (intro w hSw; (try dsimp only at hSw); go_simp; (try with_reducible rfl))
            try simp only [Act.put, List.setIfInBounds_toArray, List.set_cons_zero, List.set_cons_succ]
            refine wpAnyH_take (oi := ⟨_, _, _, _, _, _⟩) (i := 12) (v := ?_) rfl (by kernel_rfl) (by kernel_rfl) (by kernel_rfl) (fun _ _ _ h => h) (Or.inl ⟨by rfl, ?ye312⟩) (by assumption) ?re312
            case ye312 => (intro w hSw; (try dsimp only at hSw); go_simp; (try with_reducible rfl))
            try simp only [Act.put, List.setIfInBounds_toArray, List.set_cons_zero, List.set_cons_succ]
            refine wpAnyH_take (oi := ⟨_, _, _, _, _, _⟩) (i := 13) rfl (by kernel_rfl) (by kernel_rfl) (by kernel_rfl) (fun _ _ _ h => h) (Or.inr ⟨by rfl, rfl⟩) (by assumption) ?re313
            try simp only [Act.put, List.setIfInBounds_toArray, List.set_cons_zero, List.set_cons_succ]
            refine wpAnyH_take (oi := ⟨_, _, _, _, _, _⟩) (i := 14) rfl (by kernel_rfl) (by kernel_rfl) (by kernel_rfl) (fun _ _ _ h => h) (Or.inr ⟨by rfl, rfl⟩) (by assumption) ?re314
            try simp only [Act.put, List.setIfInBounds_toArray, List.set_cons_zero, List.set_cons_succ]
            refine wpAnyH_take (oi := ⟨_, _, _, _, _, _⟩) (i := 15) rfl (by kernel_rfl) (by kernel_rfl) (by kernel_rfl) (fun _ _ _ h => h) (Or.inr ⟨by rfl, rfl⟩) (by assumption) ?re315
            try simp only [Act.put, List.setIfInBounds_toArray, List.set_cons_zero, List.set_cons_succ]
            refine wpAnyH_take (oi := ⟨_, _, _, _, _, _⟩) (i := 16) rfl (by kernel_rfl) (by kernel_rfl) (by kernel_rfl) (fun _ _ _ h => h) (Or.inr ⟨by rfl, rfl⟩) (by assumption) ?re316
            try simp only [Act.put, List.setIfInBounds_toArray, List.set_cons_zero, List.set_cons_succ]
            refine wpAnyH_take (oi := ⟨_, _, _, _, _, _⟩) (i := 17) rfl (by kernel_rfl) (by kernel_rfl) (by kernel_rfl) (fun _ _ _ h => h) (Or.inr ⟨by rfl, rfl⟩) (by assumption) ?re317
            try simp only [Act.put, List.setIfInBounds_toArray, List.set_cons_zero, List.set_cons_succ]
            refine wpAnyH_take (oi := ⟨_, _, _, _, _, _⟩) (i := 18) rfl (by kernel_rfl) (by kernel_rfl) (by kernel_rfl) (fun _ _ _ h => h) (Or.inr ⟨by rfl, rfl⟩) (by assumption) ?re318
            try simp only [Act.put, List.setIfInBounds_toArray, List.set_cons_zero, List.set_cons_succ]
            refine wpAnyH_take (oi := ⟨_, _, _, _, _, _⟩) (i := 19) (v := ?_) rfl (by kernel_rfl) (by kernel_rfl) (by kernel_rfl) (fun _ _ _ h => h) (Or.inl ⟨by rfl, ?ye319⟩) (by assumption) ?re319
            case ye319 => (intro w hSw; (try dsimp only at hSw); go_simp; (try with_reducible rfl))
            try simp only [Act.put, List.setIfInBounds_toArray, List.set_cons_zero, List.set_cons_succ]
            refine wpAnyH_take (oi := ⟨_, _, _, _, _, _⟩) (i := 20) (v := ?_) rfl (by kernel_rfl) (by kernel_rfl) (by kernel_rfl) (fun _ _ _ h => h) (Or.inl ⟨by rfl, ?ye320⟩) (by assumption) ?re320
            case ye320 => (intro w hSw; (try dsimp only at hSw); go_simp; (try with_reducible rfl))
            try simp only [Act.put, List.setIfInBounds_toArray, List.set_cons_zero, List.set_cons_succ]
            refine wpAnyH_take (oi := ⟨_, _, _, _, _, _⟩) (i := 21) (v := ?_) rfl (by kernel_rfl) (by kernel_rfl) (by kernel_rfl) (fun _ _ _ h => h) (Or.inl ⟨by rfl, ?ye321⟩) (by assumption) ?re321
            case ye321 => (intro w hSw; (try dsimp only at hSw); go_simp; (try with_reducible rfl))
            try simp only [Act.put, List.setIfInBounds_toArray, List.set_cons_zero, List.set_cons_succ]
            refine wpAnyH_take (oi := ⟨_, _, _, _, _, _⟩) (i := 22) (v := ?_) rfl (by kernel_rfl) (by kernel_rfl) (by kernel_rfl) (fun _ _ _ h => h) (Or.inl ⟨by rfl, ?ye322⟩) (by assumption) ?re322
            case ye322 => (intro w hSw; (try dsimp only at hSw); go_simp; (try with_reducible rfl))
            try simp only [Act.put, List.setIfInBounds_toArray, List.set_cons_zero, List.set_cons_succ]
            refine wpAnyH_take (oi := ⟨_, _, _, _, _, _⟩) (i := 23) (v := ?_) rfl (by kernel_rfl) (by kernel_rfl) (by kernel_rfl) (fun _ _ _ h => h) (Or.inl ⟨by rfl, ?ye323⟩) (by assumption) ?re323
            case ye323 => (intro w hSw; (try dsimp only at hSw); go_simp; (try with_reducible rfl))
            try simp only [Act.put, List.setIfInBounds_toArray, List.set_cons_zero, List.set_cons_succ]
            refine wpAnyH_take (oi := ⟨_, _, _, _, _, _⟩) (i := 24) (v := ?_) rfl (by kernel_rfl) (by kernel_rfl) (by kernel_rfl) (fun _ _ _ h => h) (Or.inl ⟨by rfl, ?ye324⟩) (by assumption) ?re324
            case ye324 => (intro w hSw; (try dsimp only at hSw); go_simp; (try with_reducible rfl))
            try simp only [Act.put, List.setIfInBounds_toArray, List.set_cons_zero, List.set_cons_succ]
            refine wpAnyH_take (oi := ⟨_, _, _, _, _, _⟩) (i := 25) (v := ?_) rfl (by kernel_rfl) (by kernel_rfl) (by kernel_rfl) (fun _ _ _ h => h) (Or.inl ⟨by rfl, ?ye325⟩) (by assumption) ?re325
            case ye325 => (intro w hSw; (try dsimp only at hSw); go_simp; (try with_reducible rfl))
            try simp only [Act.put, List.setIfInBounds_toArray, List.set_cons_zero, List.set_cons_succ]
            refine wpAnyH_take (oi := ⟨_, _, _, _, _, _⟩) (i := 26) (v := ?_) rfl (by kernel_rfl) (by kernel_rfl) (by kernel_rfl) (fun _ _ _ h => h) (Or.inl ⟨by rfl, ?ye326⟩) (by assumption) ?re326
            case ye326 => (intro w hSw; (try dsimp only at hSw); go_simp; (try with_reducible rfl))
            try simp only [Act.put, List.setIfInBounds_toArray, List.set_cons_zero, List.set_cons_succ]
            refine wpAnyH_take (oi := ⟨_, _, _, _, _, _⟩) (i := 27) (v := ?_) rfl (by kernel_rfl) (by kernel_rfl) (by kernel_rfl) (fun _ _ _ h => h) (Or.inl ⟨by rfl, ?ye327⟩) (by assumption) ?re327
            case ye327 => (intro w hSw; (try dsimp only at hSw); go_simp; (try with_reducible rfl))
            try simp only [Act.put, List.setIfInBounds_toArray, List.set_cons_zero, List.set_cons_succ]
            refine wpAnyH_take (oi := ⟨_, _, _, _, _, _⟩) (i := 28) (v := ?_) rfl (by kernel_rfl) (by kernel_rfl) (by kernel_rfl) (fun _ _ _ h => h) (Or.inl ⟨by rfl, ?ye328⟩) (by assumption) ?re328
            case ye328 => (intro w hSw; (try dsimp only at hSw); go_simp; (try with_reducible rfl))
            try simp only [Act.put, List.setIfInBounds_toArray, List.set_cons_zero, List.set_cons_succ]
            refine wpAnyH_take (oi := ⟨_, _, _, _, _, _⟩) (i := 29) (v := ?_) rfl (by kernel_rfl) (by kernel_rfl) (by kernel_rfl) (fun _ _ _ h => h) (Or.inl ⟨by rfl, ?ye329⟩) (by assumption) ?re329
            case ye329 => (intro w hSw; (try dsimp only at hSw); go_simp; (try with_reducible rfl))
            try simp only [Act.put, List.setIfInBounds_toArray, List.set_cons_zero, List.set_cons_succ]
            refine wpAnyH_take (oi := ⟨_, _, _, _, _, _⟩) (i := 30) rfl (by kernel_rfl) (by kernel_rfl) (by kernel_rfl) (fun _ _ _ h => h) (Or.inr ⟨by rfl, rfl⟩) (by assumption) ?re330
            try simp only [Act.put, List.setIfInBounds_toArray, List.set_cons_zero, List.set_cons_succ]
            refine wpAnyH_take (oi := ⟨_, _, _, _, _, _⟩) (i := 31) rfl (by kernel_rfl) (by kernel_rfl) (by kernel_rfl) (fun _ _ _ h => h) (Or.inr ⟨by rfl, rfl⟩) (by assumption) ?re331
            try simp only [Act.put, List.setIfInBounds_toArray, List.set_cons_zero, List.set_cons_succ]
            refine wpAnyH_take (oi := ⟨_, _, _, _, _, _⟩) (i := 32) rfl (by kernel_rfl) (by kernel_rfl) (by kernel_rfl) (fun _ _ _ h => h) (Or.inr ⟨by rfl, rfl⟩) (by assumption) ?re332
            try simp only [Act.put, List.setIfInBounds_toArray, List.set_cons_zero, List.set_cons_succ]
            refine wpAnyH_take (oi := ⟨_, _, _, _, _, _⟩) (i := 33) rfl (by kernel_rfl) (by kernel_rfl) (by kernel_rfl) (fun _ _ _ h => h) (Or.inr ⟨by rfl, rfl⟩) (by assumption) ?re333
            try simp only [Act.put, List.setIfInBounds_toArray, List.set_cons_zero, List.set_cons_succ]
            refine wpAnyH_take (oi := ⟨_, _, _, _, _, _⟩) (i := 34) rfl (by kernel_rfl) (by kernel_rfl) (by kernel_rfl) (fun _ _ _ h => h) (Or.inr ⟨by rfl, rfl⟩) (by assumption) ?re334
            try simp only [Act.put, List.setIfInBounds_toArray, List.set_cons_zero, List.set_cons_succ]
            refine wpAnyH_take (oi := ⟨_, _, _, _, _, _⟩) (i := 35) rfl (by kernel_rfl) (by kernel_rfl) (by kernel_rfl) (fun _ _ _ h => h) (Or.inr ⟨by rfl, rfl⟩) (by assumption) ?re335
            try simp only [Act.put, List.setIfInBounds_toArray, List.set_cons_zero, List.set_cons_succ]
            refine wpAnyH_take (oi := ⟨_, _, _, _, _, _⟩) (i := 36) rfl (by kernel_rfl) (by kernel_rfl) (by kernel_rfl) (fun _ _ _ h => h) (Or.inr ⟨by rfl, rfl⟩) (by assumption) ?re336
            try simp only [Act.put, List.setIfInBounds_toArray, List.set_cons_zero, List.set_cons_succ]
            refine wpAnyH_take (oi := ⟨_, _, _, _, _, _⟩) (i := 37) rfl (by kernel_rfl) (by kernel_rfl) (by kernel_rfl) (fun _ _ _ h => h) (Or.inr ⟨by rfl, rfl⟩) (by assumption) ?re337
            try simp only [Act.put, List.setIfInBounds_toArray, List.set_cons_zero, List.set_cons_succ]
            refine wpAnyH_take (oi := ⟨_, _, _, _, _, _⟩) (i := 38) (v := ?_) rfl (by kernel_rfl) (by kernel_rfl) (by kernel_rfl) (fun _ _ _ h => h) (Or.inl ⟨by rfl, ?ye338⟩) (by assumption) ?re338
            case ye338 => (intro w hSw; (try dsimp only at hSw); go_simp; (try with_reducible rfl))
            try simp only [Act.put, List.setIfInBounds_toArray, List.set_cons_zero, List.set_cons_succ]
            refine wpAnyH_take (oi := ⟨_, _, _, _, _, _⟩) (i := 39) (v := ?_) rfl (by kernel_rfl) (by kernel_rfl) (by kernel_rfl) (fun _ _ _ h => h) (Or.inl ⟨by rfl, ?ye339⟩) (by assumption) ?re339
            case ye339 => (intro w hSw; (try dsimp only at hSw); go_simp; (try with_reducible rfl))
            try simp only [Act.put, List.setIfInBounds_toArray, List.set_cons_zero, List.set_cons_succ]
            refine wpAnyH_done (by kernel_rfl) ?_ _
            have B9 := Lib.hid (BAa.out.trans (hHeld.2.2.2.2.2.out.mono BAa.out.size))
            have H9 := Lib.hid (HBa.out.trans (hHeld.2.2.2.2.2.out.mono (by have := HBa.out.size; simp at this; omega)))
            clear hHeld hHeld0 C1k C2k E
            go_wp2
            go_roundw
            case rel => exact ⟨k + 1, by omega, by go_num, H9, G⟩
            case measure => simp [intOf]; omega
    · obtain rfl : k = pl := by omega
      have E := Lib.hid (QY.out HX.out)
      go_wp2
      go_ret
      exact ⟨by rw [E.out]; rfl, BA.out⟩
end Go.Proofs.YtjibpkaanaphcaaDoor

namespace Go.Proofs.YtjibpkaanaphcaaDoor
open Go.RowKit


theorem max_if (a b : Int) : (if a < b then b else a) = max a b := by split <;> omega
theorem at0_mem {L : List Int} {k : Nat} (h : k < L.length) : at0 L k ∈ L := by
  unfold at0
  rw [List.getElem?_eq_getElem h]
  exact List.getElem_mem h

set_option maxHeartbeats 2000000 in
set_option maxRecDepth 100000 in
theorem has_any (A : Option Addr) (L : List Int) (c : Nat) (x : Int) (w : World) (hr : ReadsV w A L) (hl : L.length ≤ 1000) :
    Calls Tryd.prog 30 #[.slice A L.length c, .int .i64 x] w (VPost w.heap.size w (.bool (decide (x ∈ L)))) := by
  have HY : Hid (∀ k, k < L.length → at0 L k = x → decide (x ∈ L) = true) := fun k hk h => decide_eq_true (by rw [← h]; exact at0_mem hk)
  have HN : Hid ((∀ k, k < L.length → at0 L k ≠ x) → decide (x ∈ L) = false) := fun h => decide_eq_false fun hx => by
    obtain ⟨k, hk, e⟩ := List.getElem_of_mem hx
    exact h k hk (by simp [at0, hk, e])
  generalize decide (x ∈ L) = S at *
  have HR := Lib.hid hr
  clear hr
  generalize hg : w.heap.size = g at *
  have HG := Lib.hid hg
  clear hg
  generalize hn : L.length = n at *
  have HL := Lib.hid hn
  clear hn
  go_enter Tryd.func30, Tryd.ntmps30
  go_wp2_with fail
  go_loopw [5] (fun q wr => ∃ k : Nat, k ≤ n ∧ q = .int .i64 k ∧ Hid (Below g w wr) ∧ Hid (∀ j, j < k → at0 L j ≠ x)) (fun q _ => n - (intOf q).toNat)
  case atStart => exact ⟨0, by omega, rfl, Below.refl _ _, fun j hj => absurd hj (by omega)⟩
  case round =>
    obtain ⟨k, hk, rfl, HB, HM⟩ := hrel
    by_cases hlt : k < n
    · obtain ⟨ba, oa, eA, hx⟩ := at_of_reads (HR.out.below HB.out (by rw [HG.out]; exact Nat.le_refl _)) k (by rw [HL.out]; exact hlt)
      subst eA
      have HYk := Lib.hid (HY.out k hlt)
      have HF : Hid (at0 L k ≠ x → ∀ j, j < k + 1 → at0 L j ≠ x) := fun h j hj => by
        by_cases e : j < k
        · exact HM.out j e
        · obtain rfl : j = k := by omega
          exact h
      clear HM
      generalize at0 L k = y at *
      by_cases hxy : y = x
      · subst hxy
        have E := Lib.hid (HYk.out rfl)
        clear HYk HF
        go_wp2_with fail
        (try go_quiet (fail))
        (try go_wp2)
        go_ret
        exact ⟨by rw [E.out]; rfl, by first | exact HB.out | exact below_drewN HB.out _⟩
      · have z1 : (y == x) = false := by simpa using hxy
        have GG := Lib.hid (HF.out hxy)
        clear HYk HF hxy
        go_wp2_with fail
        (try go_quiet (fail))
        (try go_wp2)
        go_roundw
        case rel => exact ⟨k + 1, by omega, by go_num, by first | exact HB | exact below_drewN HB.out _, GG⟩
        case measure => simp [intOf]; omega
    · have E := Lib.hid (HN.out (fun j hj => HM.out j (by omega)))
      clear HM
      go_wp2
      go_ret
      exact ⟨by rw [E.out]; rfl, HB.out⟩

theorem filt_step (f : Int → Bool) {L : List Int} {k : Nat} (hk : k < L.length) : (L.take (k + 1)).filter f = (L.take k).filter f ++ if f (at0 L k) = true then [at0 L k] else [] := by
  have e : at0 L k = L[k] := by simp [at0, hk]
  rw [List.take_succ_eq_append_getElem hk, List.filter_append, e]
  congr 1
  cases h : f L[k] <;> simp [h]
theorem pick_at (f : Nat → Bool) (n k : Nat) (hk : k < (pickI f n).length) : ∃ j : Nat, j < n ∧ at0 (pickI f n) k = (j : Int) := by
  have h := at0_mem hk
  rw [pickI_eq, List.mem_map] at h
  obtain ⟨j, hj, e⟩ := h
  exact ⟨j, List.mem_range.1 (List.mem_filter.1 hj).1, by rw [pickI_eq]; exact e.symm⟩
theorem OwnI.mono {w : World} {s t : Nat} {v : Value} {zs : List Int} (h : OwnI w s v zs) (ht : t ≤ s) : OwnI w t v zs := by
  refine ⟨h.1, ?_⟩
  rcases h.2 with h0 | ⟨g, cap, cur, h1, h2, h3⟩
  · exact .inl h0
  · exact .inr ⟨g, cap, cur, h1, by omega, h3⟩
def mostF (n : NetV) (m : List Int) (v : Int) : Bool := decide ((tA n.ts v.toNat).prio = mostK n m n.ts.length)

set_option maxHeartbeats 8000000 in
set_option maxRecDepth 100000 in
theorem fires_any (n : NetV) (A : Option Addr) (m : List Int) (c : Nat) (w : World) (hr : NetR w n) (hm : ReadsV w A m) (hok : goodN n m = true) :
    Calls Tryd.prog 31 #[.agg #[.string n.nm, .slice n.PA n.ps.length n.pc, .slice n.TA n.ts.length n.tc], .slice A m.length c] w (IsPost w.heap.size w (firesV n m)) := by
  have hokn : okN n = true := by unfold goodN at hok; rw [Bool.and_eq_true] at hok; exact hok.1
  have FF : Hid ((pickI (readyB n m) n.ts.length).filter (mostF n m) = firesV n m) := fires_filter hokn m
  have MF : Hid (∀ j : Nat, mostF n m (j : Int) = decide ((tA n.ts j).prio = mostK n m n.ts.length)) := fun j => by unfold mostF; rw [Int.toNat_natCast]
  have PB : Hid (∀ j, j < n.ts.length → 0 ≤ (tA n.ts j).prio ∧ (tA n.ts j).prio ≤ 9) := fun j hj => okN_prio hokn j hj
  have MS : Hid (∀ k, readyB n m k = true → mostK n m (k + 1) = max (mostK n m k) (tA n.ts k).prio) := fun k h => by rw [mostK, if_pos h]
  have MN : Hid (∀ k, readyB n m k = false → mostK n m (k + 1) = mostK n m k) := fun k h => by rw [mostK, if_neg (by rw [h]; simp)]
  have MB : Hid (∀ k, k ≤ n.ts.length → 0 ≤ mostK n m k ∧ mostK n m k ≤ 9) := fun k hk => by
    rcases mostK_at (n := n) (m := m) k with h | ⟨j, h1, h2, h3⟩
    · omega
    · have := okN_prio hokn j (by omega)
      omega
  have CR : Hid (∀ W t, Below w.heap.size w W → t < n.ts.length → Calls Tryd.prog 45 #[.agg #[.string n.nm, .slice n.PA n.ps.length n.pc, .slice n.TA n.ts.length n.tc], .slice A m.length c, .int .i64 (t : Nat)] W (VPost W.heap.size W (.bool (readyB n m t)))) := fun W t hW ht => ready_any n A m c t W (hr.below hW (Nat.le_refl _)) (hm.below hW (Nat.le_refl _)) hok ht
  have htl : n.ts.length ≤ 1000 := hr.okt.1
  have RT := Lib.hid hr.rt
  have M0 : Hid (mostK n m 0 = 0) := rfl
  clear hr hm hok hokn
  generalize firesV n m = R at *
  generalize readyB n m = rf at *
  generalize mostK n m = mk at *
  generalize mostF n m = mf at *
  obtain ⟨nm, PA, ps, pc, TA, ts, tc⟩ := n
  dsimp only at *
  generalize hpl : ps.length = pl at *
  generalize htn : ts.length = tl at *
  have HTN := Lib.hid htn
  clear hpl htn
  obtain ⟨g, hg⟩ : ∃ g, g = w.heap.size := ⟨_, rfl⟩
  have HG := Lib.hid hg
  have B0 : Hid (Below g w (w.alloc (.cells #[.string nm, .slice PA pl pc, .slice TA tl tc] 29))) := (Below.refl _ _).alloc (by rw [hg]; exact Nat.le_refl _) _
  have PL := Lib.hid (pickI_len rf)
  go_enter Tryd.func31, Tryd.ntmps31
  rw [← hg] at CR ⊢
  clear hg
  go_wp2_with fail
  have NBX : ∀ W, Below (w.heap.size + 1) (w.alloc (.cells #[.string nm, .slice PA pl pc, .slice TA tl tc] 29)) W → W.cell? ⟨w.heap.size, 0, none⟩ = some (.string nm) ∧ W.cell? ⟨w.heap.size, 1, none⟩ = some (.slice PA pl pc) ∧ W.cell? ⟨w.heap.size, 2, none⟩ = some (.slice TA tl tc) ∧ w.heap.size < W.heap.size := fun W hW =>
    ⟨by rw [hW.cell (by simp)]; simp, by rw [hW.cell (by simp)]; simp, by rw [hW.cell (by simp)]; simp, by have := hW.size; simp at this; omega⟩
  replace NBX := Lib.hid NBX
  go_loopw [5, 6, 7] (fun p v q wr => ∃ k : Nat, k ≤ tl ∧ q = .int .i64 k ∧ v = .int .i64 (mk k) ∧ Hid (OwnI wr (w.heap.size + 1) p (pickI rf k)) ∧ Hid (Below (w.heap.size + 1) (w.alloc (.cells #[.string nm, .slice PA pl pc, .slice TA tl tc] 29)) wr)) (fun _ _ q _ => tl - (intOf q).toNat)
  case atStart => exact ⟨0, by omega, rfl, by rw [M0.out], OwnI.nil _ _, Below.refl _ _⟩
  case round =>
    obtain ⟨k, hk, rfl, rfl, O, HB⟩ := hrel
    obtain ⟨e0, e1, e2, lz⟩ := NBX.out wr HB.out
    have BA : Hid (Below g w wr) := B0.out.trans (HB.out.mono (by rw [HG.out]; omega))
    have hsz : w.heap.size + 1 ≤ wr.heap.size := lz
    by_cases hlt : k < tl
    · obtain ⟨bt, ot, eT, hbt, _, _, _, _, f4, _, _, _⟩ := (RT.out.below BA.out (by rw [HG.out]; exact Nat.le_refl _)) k (by rw [HTN.out]; exact hlt)
      subst eT
      have C := CR.out wr k BA.out hlt
      have PY : Hid (rf k = true → pickI rf (k + 1) = pickI rf k ++ [(k : Int)]) := pickI_yes rf k
      have PN : Hid (rf k = false → pickI rf (k + 1) = pickI rf k) := pickI_no rf k
      have MYk := Lib.hid (MS.out k)
      have MNk := Lib.hid (MN.out k)
      have hpl := PL.out k
      have hmb := MB.out k hk
      have hpb := PB.out k hlt
      generalize hpk : (tA ts k).prio = pk at *
      have PK := Lib.hid hpk.symm
      clear hpk
      generalize rf k = b at *
      cases b
      · have PN2 := Lib.hid (PN.out rfl)
        have MN2 := Lib.hid (MNk.out rfl)
        clear PN PY MYk MNk
        replace C := Lib.hid C
        go_wp2_with fail
        refine C.out.mono ?_
        rintro e w3 ⟨rfl, K⟩
        have O3 : Hid (OwnI w3 (w.heap.size + 1) u5 (pickI rf (k + 1))) := by
          show OwnI _ _ _ _
          rw [PN2.out]
          exact O.out.below K (Nat.le_refl _)
        have B3 := Lib.hid (HB.out.trans (K.mono hsz))
        clear K C
        go_wp2
        go_roundw
        case rel => exact ⟨k + 1, by omega, by go_num, by rw [MN2.out], O3, B3⟩
        case measure => simp [intOf]; omega
      · have PY2 := Lib.hid (PY.out rfl)
        have MY2 := Lib.hid (MYk.out rfl)
        clear PN PY MYk MNk
        replace C := Lib.hid C
        go_wp2_with fail
        refine C.out.mono ?_
        rintro e w3 ⟨rfl, K⟩
        have O3 := Lib.hid (O.out.below K (Nat.le_refl _))
        have B3 := Lib.hid (HB.out.trans (K.mono hsz))
        have hs3 := Nat.le_trans hsz K.size
        have FC : Hid (∀ W, Below g w W → W.cell? ⟨bt, ot + k * 5 + 4, none⟩ = some (.int .i64 pk)) := fun W hW => by
          obtain ⟨b', o', e', _, _, _, _, _, f', _, _, _⟩ := (RT.out.below hW (by rw [HG.out]; exact Nat.le_refl _)) k (by rw [HTN.out]; exact hlt)
          injection e' with e'
          injection e' with h1 h2
          subst h1 h2
          rw [PK.out]
          exact f'
        clear K C O
        go_wp2_with (at_builtin; refine wpList_int rfl (.tmp 21) (.tmp 23) rfl (w.heap.size + 1) _ (pickI rf k) k rfl (O3.out.alloc _) _ rfl (cell_new1 _ _ _) (by omega) (size_le_alloc hs3 _) ?_; intro v' w5 hown' hb'; have O5 := Lib.hid hown'; have B5 := Lib.hid ((B3.out.alloc hs3 _).trans hb'); have e25 := (NBX.out w5 B5.out).2.2.1; have f45 := FC.out w5 (B0.out.trans (B5.out.mono (by rw [HG.out]; omega))); clear hown' hb')
        have O6 : Hid (OwnI w5 (w.heap.size + 1) v' (pickI rf (k + 1))) := by
          show OwnI _ _ _ _
          rw [PY2.out]
          exact O5.out
        clear O5
        go_roundw
        case rel => exact ⟨k + 1, by omega, by go_num, by rw [MY2.out, max_if], O6, B5⟩
        case measure => simp [intOf]; omega
    · obtain rfl : k = tl := by omega
      obtain ⟨A2, c2, eO, R2⟩ := ReadsV.own O.out
      subst eO
      have R2 := Lib.hid R2
      have hLb := PL.out k
      have PA2 : Hid (∀ i, i < (pickI rf k).length → ∃ j : Nat, j < k ∧ at0 (pickI rf k) i = (j : Int)) := fun i hi => pick_at rf k i hi
      have PS : Hid (∀ i, i < (pickI rf k).length → ((pickI rf k).take (i + 1)).filter mf = ((pickI rf k).take i).filter mf ++ if mf (at0 (pickI rf k) i) = true then [at0 (pickI rf k) i] else []) := fun i hi => filt_step mf hi
      have PF : Hid (((pickI rf k).take (pickI rf k).length).filter mf = R) := by
        show _ = _
        rw [List.take_length]
        exact FF.out
      have PT : Hid (∀ i, (((pickI rf k).take i).filter mf).length ≤ i) := fun i => Nat.le_trans (List.length_filter_le _ _) (by rw [List.length_take]; omega)
      obtain ⟨wq, rfl⟩ : ∃ wq, wq = wr := ⟨_, rfl⟩
      obtain ⟨s, hs⟩ : ∃ s, s = wq.heap.size := ⟨_, rfl⟩
      have HS := Lib.hid hs
      clear hs O FF
      generalize pickI rf k = L at *
      generalize hnl : L.length = nl at *
      have HNL := Lib.hid hnl
      clear hnl
      generalize mk k = mx at *
      go_wp2_with fail
      go_loopw [8, 9] (fun p q wr => ∃ i : Nat, i ≤ nl ∧ q = .int .i64 i ∧ Hid (OwnI wr s p ((L.take i).filter mf)) ∧ Hid (Below s wq wr)) (fun _ q _ => nl - (intOf q).toNat)
      case atStart => exact ⟨0, by omega, rfl, OwnI.nil _ _, Below.refl _ _⟩
      case round =>
        obtain ⟨i, hi, rfl, O, HB2⟩ := hrel
        have HBw : Hid (Below (w.heap.size + 1) (w.alloc (.cells #[.string nm, .slice PA pl pc, .slice TA k tc] 29)) wr) := HB.out.trans (HB2.out.mono (by rw [HS.out]; exact hsz))
        obtain ⟨e0, e1, e2, lz2⟩ := NBX.out wr HBw.out
        have BA2 : Hid (Below g w wr) := B0.out.trans (HBw.out.mono (by rw [HG.out]; omega))
        have hs2 := HB2.out.size
        rw [← HS.out] at hs2
        by_cases hlt2 : i < nl
        · obtain ⟨j, hj, ej⟩ := PA2.out i hlt2
          obtain ⟨bt, ot, eT, hbt, _, _, _, _, f4, _, _, _⟩ := (RT.out.below BA2.out (by rw [HG.out]; exact Nat.le_refl _)) j (by rw [HTN.out]; exact hj)
          subst eT
          obtain ⟨bl, ol, eL, fl⟩ := at_of_reads (R2.out.below HB2.out (by rw [HS.out]; exact Nat.le_refl _)) i (by rw [HNL.out]; exact hlt2)
          subst eL
          have PSi := Lib.hid (PS.out i hlt2)
          have MFj := Lib.hid (MF.out j)
          rw [ej] at PSi fl
          have EJ := Lib.hid ej
          clear ej
          have hpt := PT.out i
          have R2i : Hid (∀ W, Below s wq W → W.cell? ⟨bl, ol + i, none⟩ = some (.int .i64 (j : Int))) := fun W hW => by
            obtain ⟨b', o', e', f'⟩ := at_of_reads (R2.out.below hW (by rw [HS.out]; exact Nat.le_refl _)) i (by rw [HNL.out]; exact hlt2)
            injection e' with e'
            injection e' with h1 h2
            subst h1 h2
            rw [EJ.out] at f'
            exact f'
          generalize (tA ts j).prio = pj at *
          generalize mf (j : Int) = bf at *
          by_cases hp : pj = mx
          · subst hp
            have G : Hid ((L.take (i + 1)).filter mf = (L.take i).filter mf ++ [(j : Int)]) := by
              show _ = _
              rw [PSi.out, MFj.out, decide_eq_true rfl, if_pos rfl]
            have z1 : (pj == pj) = true := by simp
            clear PSi MFj
            go_wp2_with fail
            go_quiet (fail)
            have O3a : Hid (∀ nn, OwnI (wr.drewN nn) s u8 ((L.take i).filter mf)) := fun nn => O.out.below (below_drewN (Below.refl wr.heap.size wr) nn) (Nat.le_refl _)
            have B4a : Hid (∀ nn, Below s wq (wr.drewN nn)) := fun nn => below_drewN HB2.out nn
            clear O HB2 fl f4 e0 e1 e2 BA2 HBw lz2 hs2 hbt
            generalize hw4 : wr.drewN _ = w4
            have O3 : Hid (OwnI w4 s u8 ((L.take i).filter mf)) := by rw [← hw4]; exact O3a.out _
            have B4 : Hid (Below s wq w4) := by rw [← hw4]; exact B4a.out _
            clear hw4 O3a B4a
            have hs4 := B4.out.size
            rw [← HS.out] at hs4
            have fl4 := R2i.out w4 B4.out
            go_wp2_with (at_builtin; refine wpList_int rfl (.tmp 50) (.tmp 55) rfl s _ ((L.take i).filter mf) j rfl (O3.out.alloc _) _ rfl (cell_new1 _ _ _) (by omega) (size_le_alloc hs4 _) ?_; intro v' w5 hown' hb')
            have O5 : Hid (OwnI w5 s v' ((L.take (i + 1)).filter mf)) := by
              show OwnI _ _ _ _
              rw [G.out]
              exact hown'
            have B5 : Hid (Below s wq w5) := (B4.out.alloc hs4 _).trans hb'
            clear hown' hb'
            go_wp2
            go_roundw
            case rel => exact ⟨i + 1, by omega, by go_num, O5, B5⟩
            case measure => simp [intOf]; omega
          · have z1 : (pj == mx) = false := by simpa using hp
            have G : Hid ((L.take (i + 1)).filter mf = (L.take i).filter mf) := by
              show _ = _
              rw [PSi.out, MFj.out, decide_eq_false hp, if_neg (by simp), List.append_nil]
            clear PSi MFj hp
            go_wp2_with fail
            go_quiet (fail)
            go_wp2
            go_roundw
            case rel => exact ⟨i + 1, by omega, by go_num, by show OwnI _ _ _ _; rw [G.out]; exact O.out.below (below_drewN (Below.refl wr.heap.size wr) _) (Nat.le_refl _), below_drewN HB2.out _⟩
            case measure => simp [intOf]; omega
        · obtain rfl : i = nl := by omega
          rw [PF.out] at O
          go_wp2
          go_ret
          exact IsPost.own (OwnI.mono O.out (by rw [HS.out, HG.out]; omega)) BA2.out
end Go.Proofs.YtjibpkaanaphcaaDoor

namespace Go.Proofs.YtjibpkaanaphcaaDoor
open Go.RowKit

theorem mayT_mem (n : NetV) (m : List Int) (t : Int) : mayT n m t = (goodN n m && decide (t ∈ firesV n m)) := by
  unfold mayT
  congr 1
  rw [Bool.eq_iff_iff, decide_eq_true_eq, mem_fires, Bool.and_eq_true, inT_iff]
  exact and_assoc

end Go.Proofs.YtjibpkaanaphcaaDoor
