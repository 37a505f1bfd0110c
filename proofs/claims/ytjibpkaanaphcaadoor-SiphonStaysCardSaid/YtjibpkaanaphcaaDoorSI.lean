/- Siphons and traps: all the mathematics. -/
import Derived.Test.YtjibpkaanaphcaaDoorZM
import Derived.Test.YtjibpkaanaphcaaDoorU
namespace Go.Proofs.YtjibpkaanaphcaaDoor
open Go.RowKit

/-! ### sets -/
theorem sgl_bit (z : Int) (i : Nat) : (Bt.sgl z).testBit i = decide (i < 64 ∧ (i : Int) = z) := by
  unfold Bt.sgl
  by_cases h : 0 ≤ z ∧ z ≤ 63
  · rw [if_pos h, Bt.testBit_pow]
    rw [decide_eq_decide]
    omega
  · rw [if_neg h, Nat.zero_testBit]
    symm
    rw [decide_eq_false_iff_not]
    omega
theorem fold_bit (zs : List Int) : ∀ (s i : Nat), (zs.foldl Bt.withV s).testBit i = (s.testBit i || decide (i < 64 ∧ (i : Int) ∈ zs)) := by
  induction zs with
  | nil => intro s i; simp
  | cons z zs ih =>
    intro s i
    rw [List.foldl_cons, ih]
    unfold Bt.withV
    rw [Nat.testBit_or, sgl_bit, Bool.or_assoc]
    congr 1
    rw [Bool.eq_iff_iff]
    simp only [Bool.or_eq_true, decide_eq_true_eq, List.mem_cons]
    constructor
    · rintro (⟨h1, h2⟩ | ⟨h1, h2⟩)
      · exact ⟨h1, .inl h2⟩
      · exact ⟨h1, .inr h2⟩
    · rintro ⟨h1, h2 | h2⟩
      · exact .inl ⟨h1, h2⟩
      · exact .inr ⟨h1, h2⟩
theorem of_bit (zs : List Int) (i : Nat) : (Bt.ofV zs).testBit i = decide (i < 64 ∧ (i : Int) ∈ zs) := by
  unfold Bt.ofV
  rw [fold_bit, Nat.zero_testBit, Bool.false_or]
theorem and_ne {a s : Nat} : (a &&& s != 0) = true ↔ ∃ i, a.testBit i = true ∧ s.testBit i = true := by
  rw [bne_iff_ne]
  constructor
  · intro h
    apply Classical.byContradiction
    intro hn
    apply h
    apply Nat.eq_of_testBit_eq
    intro i
    rw [Nat.testBit_and, Nat.zero_testBit]
    cases e1 : a.testBit i
    · rfl
    · cases e2 : s.testBit i
      · rfl
      · exact absurd ⟨i, e1, e2⟩ hn
  · rintro ⟨i, h1, h2⟩ e
    have := congrArg (fun x => Nat.testBit x i) e
    simp [Nat.testBit_and, h1, h2] at this
def meetsB (l : List (Int × Int)) (s : Nat) : Bool := anyB (fun i => Bt.hasV s (aP l i)) l.length
theorem any_iff {f : Nat → Bool} {n : Nat} : anyB f n = true ↔ ∃ k, k < n ∧ f k = true := by
  constructor
  · intro h
    apply Classical.byContradiction
    intro e
    rw [anyB_no (fun j hj => by
      cases h : f j
      · rfl
      · exact absurd ⟨j, hj, h⟩ e)] at h
    cases h
  · rintro ⟨k, h1, h2⟩
    exact anyB_yes h1 h2
theorem mem_targets {l : List (Int × Int)} {x : Int} : x ∈ targetsV l ↔ ∃ k, k < l.length ∧ aP l k = x := by
  unfold targetsV
  rw [List.mem_map]
  constructor
  · rintro ⟨a, ha, rfl⟩
    obtain ⟨k, hk, rfl⟩ := List.mem_iff_getElem.1 ha
    exact ⟨k, hk, by unfold aP; rw [List.getElem?_eq_getElem hk]; rfl⟩
  · rintro ⟨k, hk, rfl⟩
    exact ⟨l[k], List.getElem_mem hk, by unfold aP; rw [List.getElem?_eq_getElem hk]; rfl⟩
theorem meets_of (l : List (Int × Int)) (s : Nat) : meetsB l s = (Bt.ofV (targetsV l) &&& s != 0) := by
  rw [Bool.eq_iff_iff, and_ne]
  unfold meetsB
  rw [any_iff]
  constructor
  · rintro ⟨k, hk, h⟩
    unfold Bt.hasV at h
    rw [Bool.and_eq_true, decide_eq_true_eq] at h
    refine ⟨(aP l k).toNat, ?_, h.2⟩
    rw [of_bit, decide_eq_true_eq]
    exact ⟨by omega, mem_targets.2 ⟨k, hk, by omega⟩⟩
  · rintro ⟨i, h1, h2⟩
    rw [of_bit, decide_eq_true_eq] at h1
    obtain ⟨k, hk, e⟩ := mem_targets.1 h1.2
    refine ⟨k, hk, ?_⟩
    unfold Bt.hasV
    rw [Bool.and_eq_true, decide_eq_true_eq, e]
    exact ⟨by omega, by simpa using h2⟩
/-! ### closed sets -/
def inS (n : NetV) (t : Nat) : Nat := Bt.ofV (targetsV (tA n.ts t).pre.l)
def outS (n : NetV) (t : Nat) : Nat := Bt.ofV (targetsV (tA n.ts t).post.l)
def trgS (n : NetV) (b : Bool) (t : Nat) : Nat := if b = true then outS n t else inS n t
def ndS (n : NetV) (b : Bool) (t : Nat) : Nat := if b = true then inS n t else outS n t
def violB (a b s : Nat) : Bool := (a &&& s != 0) && (b &&& s == 0)
def violF (n : NetV) (b : Bool) (s t : Nat) : Bool := violB (trgS n b t) (ndS n b t) s
def closedB (n : NetV) (b : Bool) (s : Nat) : Bool := !anyB (violF n b s) n.ts.length
theorem trg_lt (n : NetV) (b : Bool) (t : Nat) : trgS n b t < 18446744073709551616 := by unfold trgS inS outS; split <;> exact Bt.ofV_lt _
theorem nd_lt (n : NetV) (b : Bool) (t : Nat) : ndS n b t < 18446744073709551616 := by unfold ndS inS outS; split <;> exact Bt.ofV_lt _
theorem viol_meets (n : NetV) (b : Bool) (s t : Nat) : violF n b s t = (b && meetsB (tA n.ts t).post.l s && !(meetsB (tA n.ts t).pre.l s) || !b && meetsB (tA n.ts t).pre.l s && !(meetsB (tA n.ts t).post.l s)) := by
  rw [meets_of, meets_of]
  unfold violF violB trgS ndS inS outS
  cases b <;> simp [bne]
theorem closed_iff {n : NetV} {b : Bool} {s : Nat} : closedB n b s = true ↔ ∀ t, t < n.ts.length → violF n b s t = false := by
  unfold closedB
  rw [Bool.not_eq_true', ← Bool.not_eq_true, any_iff]
  constructor
  · intro h t ht
    cases e : violF n b s t
    · rfl
    · exact absurd ⟨t, ht, e⟩ h
  · rintro h ⟨t, ht, e⟩
    rw [h t ht] at e
    cases e
theorem viol_iff {a b s : Nat} : violB a b s = true ↔ (∃ i, a.testBit i = true ∧ s.testBit i = true) ∧ ∀ i, ¬ (b.testBit i = true ∧ s.testBit i = true) := by
  unfold violB
  rw [Bool.and_eq_true, and_ne]
  constructor
  · rintro ⟨h1, h2⟩
    refine ⟨h1, fun i h => ?_⟩
    have h3 := and_ne.2 ⟨i, h⟩
    rw [beq_iff_eq] at h2
    rw [h2] at h3
    cases h3
  · rintro ⟨h1, h2⟩
    refine ⟨h1, ?_⟩
    cases e : (b &&& s == 0)
    · obtain ⟨i, h⟩ := and_ne.1 (show (b &&& s != 0) = true by unfold bne; rw [e]; rfl)
      exact absurd h (h2 i)
    · rfl
/-! ### the greatest closed subset -/
def Sub (a b : Nat) : Prop := ∀ i, a.testBit i = true → b.testBit i = true
theorem sub_anti {a b : Nat} (h1 : Sub a b) (h2 : Sub b a) : a = b := Nat.eq_of_testBit_eq fun i => by
  cases e1 : a.testBit i
  · cases e2 : b.testBit i
    · rfl
    · rw [h2 i e2] at e1; cases e1
  · rw [h1 i e1]
structure IsGr (n : NetV) (b : Bool) (s r : Nat) : Prop where
  sub : Sub r s
  closed : closedB n b r = true
  most : ∀ c, Sub c s → closedB n b c = true → Sub c r
theorem IsGr.unique {n : NetV} {b : Bool} {s r r' : Nat} (h : IsGr n b s r) (h' : IsGr n b s r') : r = r' :=
  sub_anti (h'.most r h.sub h.closed) (h.most r' h'.sub h'.closed)
/-- a set on the way: a subset that holds every closed one -/
structure OnWay (n : NetV) (b : Bool) (s r : Nat) : Prop where
  sub : Sub r s
  most : ∀ c, Sub c s → closedB n b c = true → Sub c r
theorem OnWay.start (n : NetV) (b : Bool) (s : Nat) : OnWay n b s s := ⟨fun _ h => h, fun _ h _ => h⟩
theorem OnWay.done {n : NetV} {b : Bool} {s r : Nat} (h : OnWay n b s r) (hc : closedB n b r = true) : IsGr n b s r := ⟨h.sub, hc, h.most⟩
theorem mB_sub {a b : Nat} (ha : a < 18446744073709551616) (hb : b < 18446744073709551616) : Sub (Bt.mB a b) a := fun i h => by
  rw [Bt.testBit_mB a b i ha hb, Bool.and_eq_true] at h
  exact h.1
/-- where no place of 'needed' is left, those of 'trigger' go -/
theorem OnWay.drop {n : NetV} {b : Bool} {s r t : Nat} (h : OnWay n b s r) (hr : r < 18446744073709551616) (ht : t < n.ts.length) (hn : ∀ i, ¬ ((ndS n b t).testBit i = true ∧ r.testBit i = true)) : OnWay n b s (Bt.mB r (trgS n b t)) := by
  refine ⟨fun i hi => h.sub i (mB_sub hr (trg_lt _ _ _) i hi), fun c hc hcl i hi => ?_⟩
  have hir := h.most c hc hcl i hi
  rw [Bt.testBit_mB _ _ _ hr (trg_lt _ _ _), hir, Bool.true_and]
  cases e : (trgS n b t).testBit i
  · rfl
  · exfalso
    have hv := closed_iff.1 hcl t ht
    have : violF n b c t = true := viol_iff.2 ⟨⟨i, e, hi⟩, fun j hj => hn j ⟨hj.1, h.most c hc hcl j hj.2⟩⟩
    rw [hv] at this
    cases this
theorem mB_less {r a : Nat} (hr : r < 18446744073709551616) (ha : a < 18446744073709551616) {i : Nat} (h1 : a.testBit i = true) (h2 : r.testBit i = true) : Bt.card (Bt.mB r a) < Bt.card r := by
  unfold Bt.card Bt.lst
  have hi : i < 64 := Bt.bit_lt hr h2
  have e : (List.range 64).filter (fun j => (Bt.mB r a).testBit j) = ((List.range 64).filter (fun j => r.testBit j)).filter (fun j => !(a.testBit j)) := by
    rw [List.filter_filter]
    congr 1
    funext j
    rw [Bt.testBit_mB r a j hr ha, Bool.and_comm]
  rw [e]
  exact List.length_filter_lt_length_iff_exists.2 ⟨i, List.mem_filter.2 ⟨List.mem_range.2 hi, h2⟩, by rw [h1]; simp⟩
theorem mB_le {r a : Nat} (hr : r < 18446744073709551616) (ha : a < 18446744073709551616) : Bt.card (Bt.mB r a) ≤ Bt.card r := by
  unfold Bt.card Bt.lst
  have e : (List.range 64).filter (fun j => (Bt.mB r a).testBit j) = ((List.range 64).filter (fun j => r.testBit j)).filter (fun j => !(a.testBit j)) := by
    rw [List.filter_filter]
    congr 1
    funext j
    rw [Bt.testBit_mB r a j hr ha, Bool.and_comm]
  rw [e]
  exact List.length_filter_le _ _
theorem mB_lt' {a b : Nat} (ha : a < 18446744073709551616) (hb : b < 18446744073709551616) : Bt.mB a b < 18446744073709551616 := by
  unfold Bt.mB
  exact Nat.lt_of_le_of_lt Nat.and_le_left ha
/-- there is one -/
theorem gr_exists (n : NetV) (b : Bool) (s : Nat) : ∀ (k r : Nat), Bt.card r ≤ k → r < 18446744073709551616 → OnWay n b s r → ∃ q, IsGr n b s q
  | k, r, hk, hr, h => by
    cases e : closedB n b r
    · have hv : ¬ ∀ t, t < n.ts.length → violF n b r t = false := fun hh => by rw [closed_iff.2 hh] at e; cases e
      have : ∃ t, t < n.ts.length ∧ violF n b r t = true := by
        apply Classical.byContradiction
        intro hne
        exact hv fun t ht => by
          cases e2 : violF n b r t
          · rfl
          · exact absurd ⟨t, ht, e2⟩ hne
      obtain ⟨t, ht, hvt⟩ := this
      obtain ⟨⟨i, h1, h2⟩, h3⟩ := viol_iff.1 hvt
      have hl := mB_less hr (trg_lt n b t) h1 h2
      match k, hk with
      | 0, hk => omega
      | k + 1, hk => exact gr_exists n b s k _ (by omega) (mB_lt' hr (trg_lt n b t)) (h.drop hr ht h3)
    · exact ⟨r, h.done e⟩
open Classical in
noncomputable def grS (n : NetV) (b : Bool) (s : Nat) : Nat := if h : ∃ q, IsGr n b s q then Classical.choose h else 0
theorem grS_is {n : NetV} {b : Bool} {s : Nat} (hs : s < 18446744073709551616) : IsGr n b s (grS n b s) := by
  have h := gr_exists n b s _ s (Nat.le_refl _) hs (OnWay.start n b s)
  unfold grS
  rw [dif_pos h]
  exact Classical.choose_spec h
theorem grS_eq {n : NetV} {b : Bool} {s r : Nat} (hs : s < 18446744073709551616) (h : IsGr n b s r) : r = grS n b s := h.unique (grS_is hs)
/-! ### the reference's rounds -/
theorem wo_fold (zs : List Int) : ∀ (s : Nat), s < 18446744073709551616 → zs.foldl Bt.woV s = Bt.mB s (Bt.ofV zs) := by
  induction zs with
  | nil =>
    intro s hs
    apply Nat.eq_of_testBit_eq
    intro i
    rw [Bt.testBit_mB _ _ _ hs (Bt.ofV_lt _), of_bit]
    simp
  | cons z zs ih =>
    intro s hs
    have hz := Bt.sgl_lt z
    rw [List.foldl_cons]
    unfold Bt.woV at ih ⊢
    rw [ih _ (mB_lt' hs hz)]
    apply Nat.eq_of_testBit_eq
    intro i
    rw [Bt.testBit_mB _ _ _ (mB_lt' hs hz) (Bt.ofV_lt _), Bt.testBit_mB _ _ _ hs hz, Bt.testBit_mB _ _ _ hs (Bt.ofV_lt _), of_bit, of_bit, sgl_bit]
    rw [Bool.eq_iff_iff]
    simp only [Bool.and_eq_true, Bool.not_eq_true', decide_eq_false_iff_not, List.mem_cons]
    constructor
    · rintro ⟨⟨h1, h2⟩, h3⟩
      refine ⟨h1, ?_⟩
      rintro ⟨h4, h5 | h5⟩
      · exact h2 ⟨h4, h5⟩
      · exact h3 ⟨h4, h5⟩
    · rintro ⟨h1, h2⟩
      exact ⟨⟨h1, fun h => h2 ⟨h.1, .inl h.2⟩⟩, fun h => h2 ⟨h.1, .inr h.2⟩⟩
def stepG (n : NetV) (b : Bool) (s t : Nat) : Nat := if (ndS n b t &&& s != 0) = true then s else Bt.mB s (trgS n b t)
def roundG (n : NetV) (b : Bool) (s : Nat) : Nat → Nat
  | 0 => s
  | k + 1 => stepG n b (roundG n b s k) k
def roundsG (n : NetV) (b : Bool) (s : Nat) : Nat → Nat
  | 0 => s
  | k + 1 => roundG n b (roundsG n b s k) n.ts.length
theorem step_lt {n : NetV} {b : Bool} {s : Nat} (hs : s < 18446744073709551616) (t : Nat) : stepG n b s t < 18446744073709551616 := by
  unfold stepG
  split
  · exact hs
  · exact mB_lt' hs (trg_lt _ _ _)
theorem round_lt {n : NetV} {b : Bool} {s : Nat} (hs : s < 18446744073709551616) : ∀ k, roundG n b s k < 18446744073709551616
  | 0 => hs
  | k + 1 => step_lt (round_lt hs k) k
theorem rounds_lt {n : NetV} {b : Bool} {s : Nat} (hs : s < 18446744073709551616) : ∀ k, roundsG n b s k < 18446744073709551616
  | 0 => hs
  | k + 1 => round_lt (rounds_lt hs k) _
theorem nd_none {a s : Nat} (h : ¬ (a &&& s != 0) = true) : ∀ i, ¬ (a.testBit i = true ∧ s.testBit i = true) := fun i hi => h (and_ne.2 ⟨i, hi⟩)
theorem OnWay.step {n : NetV} {b : Bool} {s r t : Nat} (h : OnWay n b s r) (hr : r < 18446744073709551616) (ht : t < n.ts.length) : OnWay n b s (stepG n b r t) := by
  unfold stepG
  split
  · exact h
  · rename_i hn
    exact h.drop hr ht (nd_none hn)
theorem OnWay.round {n : NetV} {b : Bool} {s r : Nat} (h : OnWay n b s r) (hr : r < 18446744073709551616) : ∀ k, k ≤ n.ts.length → OnWay n b s (roundG n b r k)
  | 0, _ => h
  | k + 1, hk => (OnWay.round h hr k (by omega)).step (round_lt hr k) (by omega)
theorem OnWay.rounds {n : NetV} {b : Bool} {s : Nat} (hs : s < 18446744073709551616) : ∀ k, OnWay n b s (roundsG n b s k)
  | 0 => OnWay.start n b s
  | k + 1 => (OnWay.rounds hs k).round (rounds_lt hs k) _ (Nat.le_refl _)
theorem step_card {n : NetV} {b : Bool} {s : Nat} (hs : s < 18446744073709551616) (t : Nat) : Bt.card (stepG n b s t) ≤ Bt.card s := by
  unfold stepG
  split
  · exact Nat.le_refl _
  · exact mB_le hs (trg_lt _ _ _)
theorem round_card {n : NetV} {b : Bool} {s : Nat} (hs : s < 18446744073709551616) : ∀ k j, k ≤ j → Bt.card (roundG n b s j) ≤ Bt.card (roundG n b s k)
  | k, 0, h => by obtain rfl : k = 0 := by omega
                  exact Nat.le_refl _
  | k, j + 1, h => by
    by_cases e : k = j + 1
    · subst e; exact Nat.le_refl _
    · exact Nat.le_trans (step_card (round_lt hs j) j) (round_card hs k j (by omega))
/-- a round that takes nothing away ends at a closed set -/
theorem step_same {n : NetV} {b : Bool} {s t : Nat} (hs : s < 18446744073709551616) (h : Bt.card (stepG n b s t) = Bt.card s) : stepG n b s t = s ∧ violF n b s t = false := by
  cases e : violF n b s t
  · refine ⟨?_, rfl⟩
    unfold stepG
    split
    · rfl
    · rename_i hn
      have hn := nd_none hn
      apply Nat.eq_of_testBit_eq
      intro i
      rw [Bt.testBit_mB _ _ _ hs (trg_lt _ _ _)]
      cases e2 : s.testBit i
      · rfl
      · cases e3 : (trgS n b t).testBit i
        · rfl
        · have : violF n b s t = true := viol_iff.2 ⟨⟨i, e3, e2⟩, hn⟩
          rw [e] at this; cases this
  · exfalso
    obtain ⟨⟨i, h1, h2⟩, h3⟩ := viol_iff.1 e
    unfold stepG at h
    rw [if_neg (fun hh => by obtain ⟨j, hj⟩ := and_ne.1 hh; exact h3 j hj)] at h
    have := mB_less hs (trg_lt n b t) h1 h2
    omega
theorem round_same {n : NetV} {b : Bool} {s : Nat} (hs : s < 18446744073709551616) (k : Nat) (h : Bt.card (roundG n b s k) = Bt.card s) : roundG n b s k = s ∧ ∀ t, t < k → violF n b s t = false := by
  induction k with
  | zero => exact ⟨rfl, fun t ht => absurd ht (by omega)⟩
  | succ k ih =>
    have h1 := round_card (n := n) (b := b) hs 0 k (by omega)
    have h2 := step_card (n := n) (b := b) (round_lt (n := n) (b := b) hs k) k
    have h3 : Bt.card (roundG n b s (k + 1)) = Bt.card (stepG n b (roundG n b s k) k) := rfl
    have h4 : Bt.card (roundG n b s 0) = Bt.card s := rfl
    obtain ⟨i1, i2⟩ := ih (by omega)
    have h5 : Bt.card (stepG n b s k) = Bt.card s := by rw [i1] at h3; omega
    obtain ⟨j1, j2⟩ := step_same hs h5
    refine ⟨by show stepG n b (roundG n b s k) k = s; rw [i1]; exact j1, fun t ht => ?_⟩
    by_cases e : t < k
    · exact i2 t e
    · obtain rfl : t = k := by omega
      exact j2
theorem rounds_closed {n : NetV} {b : Bool} {s : Nat} (hs : s < 18446744073709551616) : ∀ k, closedB n b (roundsG n b s k) = true ∨ Bt.card (roundsG n b s k) + k ≤ Bt.card s
  | 0 => .inr (by show Bt.card s + 0 ≤ _; omega)
  | k + 1 => by
    have hr := rounds_lt (n := n) (b := b) hs k
    have hc := round_card (n := n) (b := b) hr 0 n.ts.length (by omega)
    have h0 : Bt.card (roundG n b (roundsG n b s k) 0) = Bt.card (roundsG n b s k) := rfl
    by_cases e : Bt.card (roundG n b (roundsG n b s k) n.ts.length) = Bt.card (roundsG n b s k)
    · obtain ⟨e1, e2⟩ := round_same hr n.ts.length e
      refine .inl (closed_iff.2 fun t ht => ?_)
      show violF n b (roundG n b (roundsG n b s k) n.ts.length) t = false
      rw [e1]
      exact e2 t ht
    · rcases rounds_closed hs k with h | h
      · exfalso
        apply e
        have : ∀ j, j ≤ n.ts.length → roundG n b (roundsG n b s k) j = roundsG n b s k := by
          intro j
          induction j with
          | zero => intro _; rfl
          | succ j ih =>
            intro hj
            show stepG n b (roundG n b (roundsG n b s k) j) j = _
            rw [ih (by omega)]
            have hv := closed_iff.1 h j (show j < n.ts.length by omega)
            unfold stepG
            split
            · rfl
            · rename_i hn
              have hn := nd_none hn
              apply Nat.eq_of_testBit_eq
              intro i
              rw [Bt.testBit_mB _ _ _ hr (trg_lt _ _ _)]
              cases e2 : (roundsG n b s k).testBit i
              · rfl
              · cases e3 : (trgS n b j).testBit i
                · rfl
                · have : violF n b (roundsG n b s k) j = true := viol_iff.2 ⟨⟨i, e3, e2⟩, hn⟩
                  rw [hv] at this; cases this
        rw [this _ (Nat.le_refl _)]
      · refine .inr ?_
        show Bt.card (roundG n b (roundsG n b s k) n.ts.length) + (k + 1) ≤ _
        omega
theorem rounds_gr {n : NetV} {b : Bool} {s k : Nat} (hs : s < 18446744073709551616) (hk : Bt.card s < k) : roundsG n b s k = grS n b s := by
  apply grS_eq hs
  refine (OnWay.rounds hs k).done ?_
  rcases rounds_closed (n := n) (b := b) hs k with h | h
  · exact h
  · omega
end Go.Proofs.YtjibpkaanaphcaaDoor
