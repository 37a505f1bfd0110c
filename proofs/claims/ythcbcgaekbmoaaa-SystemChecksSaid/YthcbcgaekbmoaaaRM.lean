/- Regions of transition systems: the mathematics. -/
import Derived.Test.YthcbcgaekbmoaaaBtM2
import Derived.Test.YthcbcgaekbmoaaaB
namespace Go.Proofs.Ythcbcgaekbmoaaa
open Go.RowKit

structure EdgeV where
  f : Int
  t : Int
  o : Int
instance : Inhabited EdgeV := ⟨⟨0, 0, 0⟩⟩
def eA (l : List EdgeV) (i : Nat) : EdgeV := l[i]?.getD ⟨0, 0, 0⟩
theorem eA_mem {l : List EdgeV} {i : Nat} (h : i < l.length) : eA l i ∈ l := by
  unfold eA
  rw [List.getElem?_eq_getElem h]
  exact List.getElem_mem h
theorem eA_take {l : List EdgeV} {k : Nat} (h : k < l.length) : l.take (k + 1) = l.take k ++ [eA l k] := by
  rw [List.take_add_one]
  unfold eA
  rw [List.getElem?_eq_getElem h]
  rfl
def ind (S : Nat) (x : Int) : Int := if Bt.hasV S x = true then 1 else 0
def crossZ (S : Nat) (a : EdgeV) : Int := ind S a.o - ind S a.f
theorem cross_of (S : Nat) (a : EdgeV) : crossZ S a = if (Bt.hasV S a.f && !Bt.hasV S a.o) = true then -1 else if (Bt.hasV S a.o && !Bt.hasV S a.f) = true then 1 else 0 := by
  unfold crossZ ind
  cases Bt.hasV S a.f <;> cases Bt.hasV S a.o <;> rfl
/-- the common crossing of a list, and whether all agree -/
def signZ (S : Nat) : List EdgeV → Int × Bool
  | [] => (0, true)
  | a :: r => if r.all (fun x => crossZ S x == crossZ S a) = true then (crossZ S a, true) else (0, false)
theorem sign_nil (S : Nat) : signZ S [] = (0, true) := rfl
theorem sign_one (S : Nat) (a : EdgeV) : signZ S [a] = (crossZ S a, true) := rfl
theorem sign_yes {S : Nat} {L : List EdgeV} {c : Int} (h : L ≠ []) (ha : ∀ x ∈ L, crossZ S x = c) : signZ S L = (c, true) := by
  cases L with
  | nil => exact absurd rfl h
  | cons a r =>
    have h0 := ha a (List.mem_cons_self ..)
    show (if r.all (fun x => crossZ S x == crossZ S a) = true then (crossZ S a, true) else (0, false)) = (c, true)
    rw [if_pos (List.all_eq_true.2 fun x hx => by show (crossZ S x == crossZ S a) = true; rw [ha x (List.mem_cons_of_mem _ hx), h0]; simp), h0]
theorem sign_no {S : Nat} {L : List EdgeV} {x y : EdgeV} (hx : x ∈ L) (hy : y ∈ L) (h : crossZ S x ≠ crossZ S y) : signZ S L = (0, false) := by
  cases L with
  | nil => cases hx
  | cons a r =>
    unfold signZ
    refine if_neg fun e => h ?_
    have e := List.all_eq_true.1 e
    have k : ∀ z, z ∈ a :: r → crossZ S z = crossZ S a := fun z hz => by
      rcases List.mem_cons.1 hz with rfl | hz
      · rfl
      · have := e z hz
        simpa using this
    rw [k x hx, k y hy]
theorem sign_cases (S : Nat) (L : List EdgeV) : (L = [] ∧ signZ S L = (0, true)) ∨ (L ≠ [] ∧ ∃ c, (∀ x ∈ L, crossZ S x = c) ∧ signZ S L = (c, true)) ∨ ∃ x y, x ∈ L ∧ y ∈ L ∧ crossZ S x ≠ crossZ S y ∧ signZ S L = (0, false) := by
  cases L with
  | nil => exact .inl ⟨rfl, rfl⟩
  | cons a r =>
    by_cases h : ∀ x ∈ r, crossZ S x = crossZ S a
    · have h2 : ∀ x ∈ a :: r, crossZ S x = crossZ S a := fun x hx => by
        rcases List.mem_cons.1 hx with rfl | hx
        · rfl
        · exact h x hx
      exact .inr (.inl ⟨by simp, _, h2, sign_yes (by simp) h2⟩)
    · have : ∃ x, x ∈ r ∧ crossZ S x ≠ crossZ S a := by
        apply Classical.byContradiction
        intro hn
        exact h fun x hx => by
          apply Classical.byContradiction
          intro e
          exact hn ⟨x, hx, e⟩
      obtain ⟨x, hx, e⟩ := this
      exact .inr (.inr ⟨x, a, List.mem_cons_of_mem _ hx, List.mem_cons_self .., e, sign_no (List.mem_cons_of_mem _ hx) (List.mem_cons_self ..) e⟩)
theorem sign_true {S : Nat} {L : List EdgeV} : (signZ S L).2 = true ↔ ∀ x ∈ L, ∀ y ∈ L, crossZ S x = crossZ S y := by
  rcases sign_cases S L with ⟨rfl, h⟩ | ⟨_, c, hc, h⟩ | ⟨x, y, hx, hy, he, h⟩
  · rw [h]; simp
  · rw [h]
    exact ⟨fun _ x hx y hy => by rw [hc x hx, hc y hy], fun _ => rfl⟩
  · rw [h]
    exact ⟨fun e => (by cases e), fun k => absurd (k x hx y hy) he⟩
/-- one more edge -/
theorem sign_snoc {S : Nat} {L : List EdgeV} {a : EdgeV} {c : Int} (hn : L ≠ []) (h : signZ S L = (c, true)) : signZ S (L ++ [a]) = if crossZ S a = c then (c, true) else (0, false) := by
  rcases sign_cases S L with ⟨e, _⟩ | ⟨_, c', hc, h'⟩ | ⟨x, y, _, _, _, h'⟩
  · exact absurd e hn
  · rw [h'] at h
    injection h with h _
    subst h
    split
    · rename_i e
      refine sign_yes (by simp) fun x hx => ?_
      rcases List.mem_append.1 hx with hx | hx
      · exact hc x hx
      · rw [List.mem_singleton.1 hx]; exact e
    · rename_i e
      obtain ⟨x, hx⟩ := List.exists_mem_of_ne_nil L hn
      exact sign_no (x := a) (y := x) (by simp) (List.mem_append_left _ hx) (by rw [hc x hx]; exact e)
  · rw [h'] at h
    injection h with _ h
    cases h
theorem sign_dead {S : Nat} {L M : List EdgeV} (h : (signZ S L).2 = false) : signZ S (L ++ M) = (0, false) := by
  rcases sign_cases S L with ⟨_, h'⟩ | ⟨_, c', _, h'⟩ | ⟨x, y, hx, hy, he, _⟩
  · rw [h'] at h; cases h
  · rw [h'] at h; cases h
  · exact sign_no (List.mem_append_left _ hx) (List.mem_append_left _ hy) he
/-- the edges of an event -/
def evL (ar : List EdgeV) (e : Int) : List EdgeV := ar.filter fun a => decide (a.t = e)
theorem evL_snoc (ar : List EdgeV) (x : EdgeV) (e : Int) : evL (ar ++ [x]) e = if x.t = e then evL ar e ++ [x] else evL ar e := by
  unfold evL
  rw [List.filter_append]
  by_cases h : x.t = e
  · simp [h]
  · simp [h]
theorem evL_mem {ar : List EdgeV} {e : Int} {x : EdgeV} : x ∈ evL ar e ↔ x ∈ ar ∧ x.t = e := by
  unfold evL
  rw [List.mem_filter, decide_eq_true_eq]
/-- all events have a sign -/
def regB (ar : List EdgeV) (n S : Nat) : Bool := (List.range n).all fun (e : Nat) => (signZ S (evL ar e)).2
theorem reg_iff {ar : List EdgeV} {n S : Nat} : regB ar n S = true ↔ ∀ e : Nat, e < n → (signZ S (evL ar e)).2 = true := by
  unfold regB
  rw [List.all_eq_true]
  exact ⟨fun h e he => h e (List.mem_range.2 he), fun h e he => h e (List.mem_range.1 he)⟩
theorem reg_eq {ar : List EdgeV} {n S : Nat} : regB ar n S = true ↔ ∀ x ∈ ar, ∀ y ∈ ar, x.t = y.t → 0 ≤ x.t → x.t < n → crossZ S x = crossZ S y := by
  rw [reg_iff]
  constructor
  · intro h x hx y hy e h1 h2
    have := h x.t.toNat (by omega)
    rw [sign_true] at this
    exact this x (evL_mem.2 ⟨hx, by omega⟩) y (evL_mem.2 ⟨hy, by omega⟩)
  · intro h e he
    rw [sign_true]
    intro x hx y hy
    obtain ⟨hx, ex⟩ := evL_mem.1 hx
    obtain ⟨hy, ey⟩ := evL_mem.1 hy
    exact h x hx y hy (by omega) (by omega) (by omega)
/-! ### complements, unions, differences -/
theorem has_bit (S : Nat) (x : Int) (h0 : 0 ≤ x) (h : x < 64) : Bt.hasV S x = S.testBit x.toNat := by
  unfold Bt.hasV
  rw [decide_eq_true (by omega), Bool.true_and]
theorem ind_bit (S : Nat) (x : Int) (h0 : 0 ≤ x) (h : x < 64) : ind S x = if S.testBit x.toNat = true then 1 else 0 := by
  unfold ind
  rw [has_bit S x h0 h]
theorem cross_comp {S U : Nat} {a : EdgeV} (hf : 0 ≤ a.f ∧ a.f < 64) (ho : 0 ≤ a.o ∧ a.o < 64) (h1 : U.testBit a.f.toNat = !S.testBit a.f.toNat) (h2 : U.testBit a.o.toNat = !S.testBit a.o.toNat) : crossZ U a = - crossZ S a := by
  unfold crossZ
  rw [ind_bit _ _ hf.1 hf.2, ind_bit _ _ hf.1 hf.2, ind_bit _ _ ho.1 ho.2, ind_bit _ _ ho.1 ho.2, h1, h2]
  cases S.testBit a.f.toNat <;> cases S.testBit a.o.toNat <;> rfl
/-- one set is the disjoint union of two others -/
def Parts (U A B : Nat) : Prop := ∀ i, U.testBit i = (A.testBit i || B.testBit i) ∧ ¬ (A.testBit i = true ∧ B.testBit i = true)
theorem ind_parts {U A B : Nat} (h : Parts U A B) (x : Int) (h0 : 0 ≤ x) (hx : x < 64) : ind U x = ind A x + ind B x := by
  rw [ind_bit _ _ h0 hx, ind_bit _ _ h0 hx, ind_bit _ _ h0 hx, (h x.toNat).1]
  have h2 := (h x.toNat).2
  cases e1 : A.testBit x.toNat <;> cases e2 : B.testBit x.toNat <;> simp_all
theorem cross_parts {U A B : Nat} (h : Parts U A B) {a : EdgeV} (hf : 0 ≤ a.f ∧ a.f < 64) (ho : 0 ≤ a.o ∧ a.o < 64) : crossZ U a = crossZ A a + crossZ B a := by
  unfold crossZ
  rw [ind_parts h _ hf.1 hf.2, ind_parts h _ ho.1 ho.2]
  omega
end Go.Proofs.Ythcbcgaekbmoaaa
