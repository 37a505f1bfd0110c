/- Plain maths of orders, of minimal elements, and of the maximal extended markings. -/
import Derived.Test.YtkjdgkndlfhhjaaDoorB
namespace Go.Proofs.YtkjdgkndlfhhjaaDoor

def allB (n : Nat) (p : Nat → Bool) : Bool := (List.range n).all p
theorem allB_no {n : Nat} {p : Nat → Bool} (k : Nat) (hk : k < n) (h : p k = false) : allB n p = false := by
  unfold allB
  rw [List.all_eq_false]
  exact ⟨k, List.mem_range.2 hk, by simp [h]⟩
theorem allB_yes {n : Nat} {p : Nat → Bool} (h : ∀ k, k < n → p k = true) : allB n p = true := by
  unfold allB
  rw [List.all_eq_true]
  exact fun k hk => h k (List.mem_range.1 hk)
theorem allB_iff {n : Nat} {p : Nat → Bool} : allB n p = true ↔ ∀ k, k < n → p k = true := by
  unfold allB
  rw [List.all_eq_true]
  exact ⟨fun h k hk => h k (List.mem_range.2 hk), fun h k hk => h k (List.mem_range.1 hk)⟩
def leqL (a b : List Int) : Bool := decide (a.length = b.length) && allB a.length fun k => decide (at0 a k ≤ at0 b k)
def sameL (a b : List Int) : Bool := decide (a.length = b.length) && allB a.length fun k => decide (at0 a k = at0 b k)
def cmpL : List Int → List Int → Int
  | [], [] => 0
  | [], _ :: _ => -1
  | _ :: _, [] => 1
  | x :: r, y :: s => if x < y then -1 else if y < x then 1 else cmpL r s
theorem at0_cons (x : Int) (r : List Int) (k : Nat) : at0 (x :: r) (k + 1) = at0 r k := by simp [at0]
theorem at0_zero (x : Int) (r : List Int) : at0 (x :: r) 0 = x := by simp [at0]
theorem cmpL_lt : ∀ (a b : List Int) (k : Nat), k < a.length → k < b.length → (∀ j, j < k → at0 a j = at0 b j) → at0 a k < at0 b k → cmpL a b = -1
  | [], _, k, h, _, _, _ => absurd h (by simp)
  | _ :: _, [], k, _, h, _, _ => absurd h (by simp)
  | x :: r, y :: s, 0, _, _, _, h => by simp only [at0_zero] at h; simp [cmpL, h]
  | x :: r, y :: s, k + 1, h1, h2, h3, h => by
    have e := h3 0 (by omega)
    simp only [at0_zero] at e
    subst e
    simp only [at0_cons] at h
    simp only [cmpL, Int.lt_irrefl, if_false]
    exact cmpL_lt r s k (by simpa using h1) (by simpa using h2) (fun j hj => by have := h3 (j + 1) (by omega); simpa only [at0_cons] using this) h
theorem cmpL_gt : ∀ (a b : List Int) (k : Nat), k < a.length → k < b.length → (∀ j, j < k → at0 a j = at0 b j) → at0 b k < at0 a k → cmpL a b = 1
  | [], _, k, h, _, _, _ => absurd h (by simp)
  | _ :: _, [], k, _, h, _, _ => absurd h (by simp)
  | x :: r, y :: s, 0, _, _, _, h => by simp only [at0_zero] at h; have : ¬ x < y := by omega
                                        simp [cmpL, h, this]
  | x :: r, y :: s, k + 1, h1, h2, h3, h => by
    have e := h3 0 (by omega)
    simp only [at0_zero] at e
    subst e
    simp only [at0_cons] at h
    simp only [cmpL, Int.lt_irrefl, if_false]
    exact cmpL_gt r s k (by simpa using h1) (by simpa using h2) (fun j hj => by have := h3 (j + 1) (by omega); simpa only [at0_cons] using this) h
theorem cmpL_end : ∀ (a b : List Int), (∀ j, j < a.length → j < b.length → at0 a j = at0 b j) → cmpL a b = if a.length < b.length then -1 else if b.length < a.length then 1 else 0
  | [], [], _ => by simp [cmpL]
  | [], _ :: _, _ => by simp [cmpL]
  | _ :: _, [], _ => by simp [cmpL]
  | x :: r, y :: s, h => by
    have e := h 0 (by simp) (by simp)
    simp only [at0_zero] at e
    subst e
    simp only [cmpL, Int.lt_irrefl, if_false]
    rw [cmpL_end r s fun j h1 h2 => by have := h (j + 1) (by simpa using h1) (by simpa using h2); simpa only [at0_cons] using this]
    simp
theorem list_ext {a b : List Int} (hl : a.length = b.length) (h : ∀ k, k < a.length → at0 a k = at0 b k) : a = b := by
  apply List.ext_getElem hl
  intro i h1 h2
  have := h i h1
  simpa [at0, h1, h2] using this
theorem sameL_iff {a b : List Int} : sameL a b = true ↔ a = b := by
  unfold sameL
  rw [Bool.and_eq_true, decide_eq_true_eq, allB_iff]
  constructor
  · rintro ⟨hl, h⟩
    exact list_ext hl fun k hk => of_decide_eq_true (h k hk)
  · rintro rfl
    exact ⟨rfl, fun k _ => by simp⟩
theorem leqL_iff {a b : List Int} : leqL a b = true ↔ a.length = b.length ∧ ∀ k, k < a.length → at0 a k ≤ at0 b k := by
  unfold leqL
  rw [Bool.and_eq_true, allB_iff]
  simp
theorem leqL_refl (a : List Int) : leqL a a = true := leqL_iff.2 ⟨rfl, fun _ _ => Int.le_refl _⟩
theorem leqL_anti {a b : List Int} (h : leqL a b = true) (g : leqL b a = true) : sameL a b = true := by
  obtain ⟨h1, h2⟩ := leqL_iff.1 h
  obtain ⟨-, g2⟩ := leqL_iff.1 g
  exact sameL_iff.2 (list_ext h1 fun k hk => Int.le_antisymm (h2 k hk) (g2 k (by omega)))
theorem leqL_trans {a b c : List Int} (h : leqL a b = true) (g : leqL b c = true) : leqL a c = true := by
  obtain ⟨h1, h2⟩ := leqL_iff.1 h
  obtain ⟨g1, g2⟩ := leqL_iff.1 g
  exact leqL_iff.2 ⟨by omega, fun k hk => Int.le_trans (h2 k hk) (g2 k (by omega))⟩
theorem cmpL_cases : ∀ a b : List Int, cmpL a b = -1 ∨ cmpL a b = 0 ∨ cmpL a b = 1
  | [], [] => .inr (.inl rfl)
  | [], _ :: _ => .inl rfl
  | _ :: _, [] => .inr (.inr rfl)
  | x :: r, y :: t => by
    have := cmpL_cases r t
    simp only [cmpL]
    split
    · exact .inl rfl
    · split
      · exact .inr (.inr rfl)
      · exact this
theorem cmpL_neg : ∀ a b : List Int, cmpL b a = - cmpL a b
  | [], [] => rfl
  | [], _ :: _ => rfl
  | _ :: _, [] => rfl
  | x :: r, y :: t => by
    have := cmpL_neg r t
    simp only [cmpL]
    split <;> split <;> (try split) <;> omega
theorem cmpL_zero : ∀ a b : List Int, cmpL a b = 0 → a = b
  | [], [], _ => rfl
  | [], _ :: _, h => by simp [cmpL] at h
  | _ :: _, [], h => by simp [cmpL] at h
  | x :: r, y :: t, h => by
    simp only [cmpL] at h
    split at h
    · simp at h
    · split at h
      · simp at h
      · rw [cmpL_zero r t h, show x = y by omega]
theorem cmpL_refl : ∀ a : List Int, cmpL a a = 0
  | [] => rfl
  | x :: r => by simp [cmpL, cmpL_refl r]
theorem leqL_tail {x y : Int} {r t : List Int} (h : leqL (x :: r) (y :: t) = true) : x ≤ y ∧ leqL r t = true := by
  obtain ⟨h1, h2⟩ := leqL_iff.1 h
  refine ⟨by simpa [at0_zero] using h2 0 (by simp), leqL_iff.2 ⟨by simpa using h1, fun k hk => ?_⟩⟩
  simpa [at0_cons] using h2 (k + 1) (by simp; omega)
theorem cmpL_leq : ∀ a b : List Int, leqL a b = true → cmpL a b ≤ 0
  | [], [], _ => by simp [cmpL]
  | [], _ :: _, _ => by simp [cmpL]
  | _ :: _, [], h => by have := (leqL_iff.1 h).1; simp at this
  | x :: r, y :: t, h => by
    obtain ⟨h1, h2⟩ := leqL_tail h
    have := cmpL_leq r t h2
    simp only [cmpL]
    split
    · omega
    · split <;> omega
theorem cmpL_trans : ∀ a b c : List Int, cmpL a b ≤ 0 → cmpL b c ≤ 0 → cmpL a c ≤ 0
  | [], [], [], _, _ => by simp [cmpL]
  | [], _, _ :: _, _, _ => by simp [cmpL]
  | [], _ :: _, [], _, h => by simp [cmpL] at h
  | _ :: _, [], _, h, _ => by simp [cmpL] at h
  | _ :: _, _ :: _, [], _, h => by simp [cmpL] at h
  | x :: r, y :: t, z :: u, h, g => by
    have := cmpL_trans r t u
    simp only [cmpL] at h g ⊢
    split at h
    · split at g
      · rw [if_pos (by omega)]; omega
      · split at g
        · omega
        · rw [if_pos (by omega)]; omega
    · split at h
      · omega
      · split at g
        · rw [if_pos (by omega)]; omega
        · split at g
          · omega
          · rw [if_neg (by omega), if_neg (by omega)]
            exact this h g

/-! the minimal elements -/
theorem leqL_eq {a b : List Int} (h : leqL a b = true) (g : leqL b a = true) : a = b := sameL_iff.1 (leqL_anti h g)
def Asc (l : List (List Int)) : Prop := l.Pairwise fun a b => cmpL a b < 0
def Wk (l : List (List Int)) : Prop := l.Pairwise fun a b => cmpL a b ≤ 0
def MinU (u : List (List Int)) (m : List Int) : Prop := m ∈ u ∧ ∀ x ∈ u, leqL x m = true → x = m
theorem cmpL_lt_trans {a b c : List Int} (h : cmpL a b < 0) (g : cmpL b c < 0) : cmpL a c < 0 := by
  have h1 := cmpL_trans a b c (by omega) (by omega)
  rcases Int.lt_or_eq_of_le h1 with h2 | h2
  · exact h2
  · have := cmpL_zero a c h2
    subst this
    have := cmpL_neg a b
    omega
theorem asc_ext : ∀ (a b : List (List Int)), Asc a → Asc b → (∀ x, x ∈ a ↔ x ∈ b) → a = b
  | [], [], _, _, _ => rfl
  | [], y :: _, _, _, h => absurd ((h y).2 (by simp)) (by simp)
  | x :: _, [], _, _, h => absurd ((h x).1 (by simp)) (by simp)
  | x :: r, y :: t, ha, hb, h => by
    obtain ⟨ha1, ha2⟩ := List.pairwise_cons.1 ha
    obtain ⟨hb1, hb2⟩ := List.pairwise_cons.1 hb
    have irr : ∀ z, ¬ cmpL z z < 0 := fun z => by rw [cmpL_refl]; omega
    have e : x = y := by
      rcases List.mem_cons.1 ((h x).1 (by simp)) with e | e
      · exact e
      · rcases List.mem_cons.1 ((h y).2 (by simp)) with e2 | e2
        · exact e2.symm
        · exact absurd (cmpL_lt_trans (ha1 y e2) (hb1 x e)) (irr x)
    subst e
    rw [asc_ext r t ha2 hb2 fun z => ?_]
    constructor
    · intro hz
      rcases List.mem_cons.1 ((h z).1 (List.mem_cons_of_mem _ hz)) with e | e
      · subst e; exact absurd (ha1 z hz) (irr z)
      · exact e
    · intro hz
      rcases List.mem_cons.1 ((h z).2 (List.mem_cons_of_mem _ hz)) with e | e
      · subst e; exact absurd (hb1 z hz) (irr z)
      · exact e
def insM (acc : List (List Int)) (m : List Int) : List (List Int) := if (acc.any fun s => leqL s m) = true then acc else acc ++ [m]
def minS (S : List (List Int)) : List (List Int) := S.foldl insM []
theorem minS_take {l : List (List Int)} {k : Nat} (hk : k < l.length) : minS (l.take (k + 1)) = insM (minS (l.take k)) l[k] := by
  unfold minS
  rw [List.take_succ_eq_append_getElem hk, List.foldl_append]
  rfl
structure MInv (P acc : List (List Int)) : Prop where
  asc : Asc acc
  mem : ∀ m, m ∈ acc ↔ MinU P m
  dom : ∀ x ∈ P, ∃ s ∈ acc, leqL s x = true
theorem minv_step {P acc : List (List Int)} {m : List Int} (h : MInv P acc) (hs : ∀ x ∈ P, cmpL x m ≤ 0) : MInv (P ++ [m]) (insM acc m) := by
  unfold insM
  by_cases e : (acc.any fun s => leqL s m) = true
  · rw [if_pos e]
    obtain ⟨s, hs1, hs2⟩ := List.any_eq_true.1 e
    refine ⟨h.asc, fun m' => ⟨fun hm => ?_, fun hm => ?_⟩, fun x hx => ?_⟩
    · have h1 := (h.mem m').1 hm
      refine ⟨List.mem_append_left _ h1.1, fun x hx hl => ?_⟩
      rcases List.mem_append.1 hx with hx | hx
      · exact h1.2 x hx hl
      · simp at hx
        subst hx
        have e3 : s = m' := h1.2 s ((h.mem s).1 hs1).1 (leqL_trans hs2 hl)
        subst e3
        exact leqL_eq hl hs2
    · rcases List.mem_append.1 hm.1 with hx | hx
      · exact (h.mem m').2 ⟨hx, fun x hx2 => hm.2 x (List.mem_append_left _ hx2)⟩
      · simp at hx
        subst hx
        have : s = m' := hm.2 s (List.mem_append_left _ ((h.mem s).1 hs1).1) hs2
        rw [← this]; exact hs1
    · rcases List.mem_append.1 hx with hx | hx
      · exact h.dom x hx
      · simp at hx
        subst hx
        exact ⟨s, hs1, hs2⟩
  · rw [if_neg e]
    have e' : ∀ s ∈ acc, leqL s m ≠ true := fun s hs1 hs2 => e (List.any_eq_true.2 ⟨s, hs1, hs2⟩)
    refine ⟨?_, fun m' => ⟨fun hm => ?_, fun hm => ?_⟩, fun x hx => ?_⟩
    · refine List.pairwise_append.2 ⟨h.asc, by simp, fun a ha b hb => ?_⟩
      simp at hb
      subst hb
      have h1 := hs a ((h.mem a).1 ha).1
      rcases Int.lt_or_eq_of_le h1 with h2 | h2
      · exact h2
      · have := cmpL_zero _ _ h2
        subst this
        exact absurd (leqL_refl a) (e' a ha)
    · rcases List.mem_append.1 hm with hm | hm
      · have h1 := (h.mem m').1 hm
        refine ⟨List.mem_append_left _ h1.1, fun x hx hl => ?_⟩
        rcases List.mem_append.1 hx with hx | hx
        · exact h1.2 x hx hl
        · simp at hx
          subst hx
          have h2 := cmpL_leq _ _ hl
          have h3 := hs m' h1.1
          have h4 := cmpL_neg m' x
          exact (cmpL_zero m' x (by omega)).symm
      · simp at hm
        subst hm
        refine ⟨by simp, fun x hx hl => ?_⟩
        rcases List.mem_append.1 hx with hx | hx
        · obtain ⟨s, hs1, hs2⟩ := h.dom x hx
          exact absurd (leqL_trans hs2 hl) (e' s hs1)
        · simpa using hx
    · rcases List.mem_append.1 hm.1 with hx | hx
      · exact List.mem_append_left _ ((h.mem m').2 ⟨hx, fun x hx2 => hm.2 x (List.mem_append_left _ hx2)⟩)
      · exact List.mem_append_right _ hx
    · rcases List.mem_append.1 hx with hx | hx
      · obtain ⟨s, h1, h2⟩ := h.dom x hx
        exact ⟨s, List.mem_append_left _ h1, h2⟩
      · simp at hx
        subst hx
        exact ⟨x, by simp, leqL_refl x⟩
theorem minv_fold : ∀ (r P acc : List (List Int)), MInv P acc → Wk (P ++ r) → MInv (P ++ r) (r.foldl insM acc)
  | [], P, acc, h, _ => by simpa using h
  | m :: r, P, acc, h, hw => by
    have h1 : ∀ x ∈ P, cmpL x m ≤ 0 := fun x hx => (List.pairwise_append.1 hw).2.2 x hx m (by simp)
    have := minv_fold r (P ++ [m]) (insM acc m) (minv_step h h1) (by simpa using hw)
    simpa using this
theorem minS_inv {S : List (List Int)} (h : Wk S) : MInv S (minS S) := by
  have h0 : MInv [] [] := by
    refine ⟨List.Pairwise.nil, fun m => ⟨fun h => (by cases h), fun h => ?_⟩, fun x h => (by cases h)⟩
    have := h.1
    cases this
  have := minv_fold S [] [] h0 (by simpa using h)
  rw [List.nil_append] at this
  exact this
/-! the reference's insertion -/
def insG (m : List Int) : List (List Int) → List (List Int)
  | [] => [m]
  | x :: r => if 0 < cmpL x m then m :: x :: r else if cmpL x m = 0 then x :: r else x :: insG m r
theorem insG_mem : ∀ (m : List Int) (l : List (List Int)) (x : List Int), x ∈ insG m l ↔ x = m ∨ x ∈ l
  | m, [], x => by simp [insG]
  | m, y :: r, x => by
    unfold insG
    split
    · simp
    · split
      · rename_i e
        have := cmpL_zero y m e
        subst this
        constructor
        · exact fun h => .inr h
        · rintro (rfl | h)
          · simp
          · exact h
      · rw [List.mem_cons, insG_mem m r x, List.mem_cons]
        constructor
        · rintro (h | h | h)
          · exact .inr (.inl h)
          · exact .inl h
          · exact .inr (.inr h)
        · rintro (h | h | h)
          · exact .inr (.inl h)
          · exact .inl h
          · exact .inr (.inr h)
theorem insG_asc : ∀ (m : List Int) (l : List (List Int)), Asc l → Asc (insG m l)
  | m, [], _ => by simp [insG, Asc]
  | m, y :: r, h => by
    obtain ⟨h1, h2⟩ := List.pairwise_cons.1 h
    unfold insG
    split
    · rename_i e
      have e1 : cmpL m y < 0 := by have := cmpL_neg y m; omega
      refine List.pairwise_cons.2 ⟨fun z hz => ?_, h⟩
      rcases List.mem_cons.1 hz with rfl | hz
      · exact e1
      · exact cmpL_lt_trans e1 (h1 z hz)
    · split
      · exact h
      · refine List.pairwise_cons.2 ⟨fun z hz => ?_, insG_asc m r h2⟩
        rcases (insG_mem m r z).1 hz with rfl | hz
        · omega
        · exact h1 z hz
def stI (m : List Int) (s : List (List Int) × Bool) (x : List Int) : List (List Int) × Bool :=
  ((if s.2 = false ∧ 0 < cmpL x m then s.1 ++ [m] else s.1) ++ [x], s.2 || decide (0 ≤ cmpL x m))
def finI (m : List Int) (s : List (List Int) × Bool) : List (List Int) := if s.2 = true then s.1 else s.1 ++ [m]
theorem stI_done : ∀ (m : List Int) (l out : List (List Int)), l.foldl (stI m) (out, true) = (out ++ l, true)
  | m, [], out => by simp
  | m, x :: r, out => by
    rw [List.foldl_cons]
    have : stI m (out, true) x = (out ++ [x], true) := by simp [stI]
    rw [this, stI_done m r]
    simp
theorem stI_all : ∀ (m : List Int) (l out : List (List Int)), finI m (l.foldl (stI m) (out, false)) = out ++ insG m l
  | m, [], out => by simp [finI, insG]
  | m, x :: r, out => by
    rw [List.foldl_cons]
    unfold insG
    by_cases h1 : 0 < cmpL x m
    · have : stI m (out, false) x = (out ++ [m] ++ [x], true) := by simp [stI, h1]; omega
      rw [this, stI_done, if_pos h1]
      simp [finI]
    · rw [if_neg h1]
      by_cases h2 : cmpL x m = 0
      · have : stI m (out, false) x = (out ++ [x], true) := by simp [stI, h2]
        rw [this, stI_done, if_pos h2]
        simp [finI]
      · have : stI m (out, false) x = (out ++ [x], false) := by simp [stI, h1]; omega
        rw [this, stI_all m r, if_neg h2]
        simp
theorem stI_take {m : List Int} {l : List (List Int)} {k : Nat} (hk : k < l.length) (s : List (List Int) × Bool) : (l.take (k + 1)).foldl (stI m) s = stI m ((l.take k).foldl (stI m) s) l[k] := by
  rw [List.take_succ_eq_append_getElem hk, List.foldl_append]
  rfl
def minB (u : List (List Int)) (m : List Int) : Bool := u.all fun x => !(leqL x m && !(sameL x m))
theorem minB_iff {u : List (List Int)} {m : List Int} : minB u m = true ↔ ∀ x ∈ u, leqL x m = true → x = m := by
  unfold minB
  rw [List.all_eq_true]
  constructor
  · intro h x hx hl
    have := h x hx
    rw [hl] at this
    exact sameL_iff.1 (by simpa using this)
  · intro h x hx
    cases hl : leqL x m with
    | false => simp
    | true => rw [h x hx hl, sameL_iff.2 rfl]; simp
def stM (u : List (List Int)) (out : List (List Int)) (m : List Int) : List (List Int) := if minB u m = true then insG m out else out
def makeU (u : List (List Int)) : List (List Int) := u.foldl (stM u) []
theorem stM_take {u l : List (List Int)} {k : Nat} (hk : k < l.length) : (l.take (k + 1)).foldl (stM u) [] = stM u ((l.take k).foldl (stM u) []) l[k] := by
  rw [List.take_succ_eq_append_getElem hk, List.foldl_append]
  rfl
theorem stM_fold (u : List (List Int)) : ∀ (l out : List (List Int)), Asc out → Asc (l.foldl (stM u) out) ∧ ∀ x, x ∈ l.foldl (stM u) out ↔ x ∈ out ∨ (x ∈ l ∧ minB u x = true)
  | [], out, h => ⟨h, fun x => by simp⟩
  | m :: r, out, h => by
    rw [List.foldl_cons]
    by_cases e : minB u m = true
    · have e1 : stM u out m = insG m out := if_pos e
      rw [e1]
      obtain ⟨h1, h2⟩ := stM_fold u r _ (insG_asc m out h)
      refine ⟨h1, fun x => ?_⟩
      rw [h2 x, insG_mem, List.mem_cons]
      constructor
      · rintro ((rfl | h) | h)
        · exact .inr ⟨.inl rfl, e⟩
        · exact .inl h
        · exact .inr ⟨.inr h.1, h.2⟩
      · rintro (h | ⟨rfl | h, g⟩)
        · exact .inl (.inr h)
        · exact .inl (.inl rfl)
        · exact .inr ⟨h, g⟩
    · have e1 : stM u out m = out := if_neg e
      rw [e1]
      obtain ⟨h1, h2⟩ := stM_fold u r _ h
      refine ⟨h1, fun x => ?_⟩
      rw [h2 x, List.mem_cons]
      constructor
      · rintro (h | h)
        · exact .inl h
        · exact .inr ⟨.inr h.1, h.2⟩
      · rintro (h | ⟨rfl | h, g⟩)
        · exact .inl h
        · exact absurd g e
        · exact .inr ⟨h, g⟩
theorem makeU_spec (u : List (List Int)) : Asc (makeU u) ∧ ∀ x, x ∈ makeU u ↔ MinU u x := by
  obtain ⟨h1, h2⟩ := stM_fold u u [] List.Pairwise.nil
  refine ⟨h1, fun x => ?_⟩
  unfold makeU
  rw [h2 x, minB_iff]
  simp [MinU]
/-- the program's way: any sorted permutation -/
theorem minS_make {u S : List (List Int)} (hp : S.Perm u) (hw : Wk S) : minS S = makeU u := by
  have h := minS_inv hw
  obtain ⟨h1, h2⟩ := makeU_spec u
  refine asc_ext _ _ h.asc h1 fun x => ?_
  rw [h.mem, h2]
  unfold MinU
  rw [hp.mem_iff]
  constructor
  · exact fun ⟨a, b⟩ => ⟨a, fun y hy => b y (hp.mem_iff.2 hy)⟩
  · exact fun ⟨a, b⟩ => ⟨a, fun y hy => b y (hp.mem_iff.1 hy)⟩
theorem make_dom (u : List (List Int)) : ∀ x ∈ u, ∃ s ∈ makeU u, leqL s x = true := by
  have hp : (u.mergeSort fun a b => decide (cmpL a b ≤ 0)).Perm u := List.mergeSort_perm _ _
  have hw : Wk (u.mergeSort fun a b => decide (cmpL a b ≤ 0)) := by
    have := List.pairwise_mergeSort (le := fun a b => decide (cmpL a b ≤ 0)) (fun a b c h g => by simp at h g ⊢; exact cmpL_trans a b c h g) (fun a b => by have := cmpL_neg a b; simp; omega) u
    exact this.imp fun h => by simpa using h
  rw [← minS_make hp hw]
  intro x hx
  exact (minS_inv hw).dom x (hp.mem_iff.2 hx)
def keyI (x : Int) : Int := if x = -1 then -1048577 else -x
def unkI (y : Int) : Int := if y = -1048577 then -1 else -y
def keyW (a : List Int) : List Int := a.map keyI
def unkW (a : List Int) : List Int := a.map unkI
theorem ok_iff {x : Int} : okW x = true ↔ x = -1 ∨ (0 ≤ x ∧ x ≤ 1048576) := by unfold okW; exact decide_eq_true_iff
theorem val_iff {a : List Int} : valW a = true ↔ ∀ x ∈ a, okW x = true := by unfold valW; exact List.all_eq_true
theorem unk_key {a : List Int} (h : valW a = true) : unkW (keyW a) = a := by
  unfold unkW keyW
  rw [List.map_map]
  have h1 := val_iff.1 h
  refine (List.map_congr_left fun x hx => ?_).trans (List.map_id' a)
  have := ok_iff.1 (h1 x hx)
  simp only [Function.comp, keyI, unkI]
  split
  · rename_i e; rw [if_pos rfl]; exact e.symm
  · rw [if_neg (by omega)]; omega
theorem key_len (a : List Int) : (keyW a).length = a.length := by simp [keyW]
theorem key_at (a : List Int) (k : Nat) (hk : k < a.length) : at0 (keyW a) k = keyI (at0 a k) := by simp [keyW, at0, hk]
theorem more_key {x y : Int} (hx : okW x = true) (hy : okW y = true) : moreB x y = false ↔ keyI y ≤ keyI x := by
  rw [more_iff]
  have h1 := ok_iff.1 hx
  have h2 := ok_iff.1 hy
  unfold keyI
  split <;> split <;> omega
theorem val_at {a : List Int} (h : valW a = true) (k : Nat) (hk : k < a.length) : okW (at0 a k) = true := by
  have := val_iff.1 h a[k] (List.getElem_mem hk)
  simpa [at0, hk] using this
theorem leqW_key {a b : List Int} (ha : valW a = true) (hb : valW b = true) : leqW a b = leqL (keyW b) (keyW a) := by
  rw [Bool.eq_iff_iff, leqL_iff, key_len, key_len]
  constructor
  · intro h
    obtain ⟨h1, _, _, h2⟩ := leqW_of h
    refine ⟨h1.symm, fun k hk => ?_⟩
    rw [key_at _ _ hk, key_at _ _ (by omega)]
    exact (more_key (val_at ha k (by omega)) (val_at hb k hk)).1 (h2 k (by omega))
  · rintro ⟨h1, h2⟩
    refine leqW_yes h1.symm ha hb fun k hk => ?_
    have := h2 k (by omega)
    rw [key_at _ _ (by omega), key_at _ _ hk] at this
    exact (more_key (val_at ha k hk) (val_at hb k (by omega))).2 this
theorem key_inj {a b : List Int} (ha : valW a = true) (hb : valW b = true) (h : keyW a = keyW b) : a = b := by rw [← unk_key ha, h, unk_key hb]
/-! the considered ones -/
def okC (acc : List (List Int)) (m : List Int) : Bool := valW m && (match acc with | [] => true | x :: _ => decide (m.length = x.length))
def stepC (acc : List (List Int)) (m : List Int) : List (List Int) := if okC acc m = true then acc ++ [m] else acc
def conO (l : List (List Int)) : List (List Int) := l.foldl stepC []
def ConOk (L : List (List Int)) : Prop := ∃ n, ∀ m ∈ L, m.length = n ∧ valW m = true
theorem conO_take {l : List (List Int)} {k : Nat} (hk : k < l.length) : conO (l.take (k + 1)) = stepC (conO (l.take k)) l[k] := by
  unfold conO
  rw [List.take_succ_eq_append_getElem hk, List.foldl_append]
  rfl
theorem conOk_step {acc : List (List Int)} {m : List Int} (h : ConOk acc) : ConOk (stepC acc m) := by
  unfold stepC
  split
  · rename_i e
    unfold okC at e
    rw [Bool.and_eq_true] at e
    cases acc with
    | nil => exact ⟨m.length, fun y hy => by simp at hy; subst hy; exact ⟨rfl, e.1⟩⟩
    | cons x r =>
      obtain ⟨n, h1⟩ := h
      refine ⟨n, fun y hy => ?_⟩
      rcases List.mem_append.1 hy with hy | hy
      · exact h1 y hy
      · simp at hy
        subst hy
        have e2 : y.length = x.length := by simpa using e.2
        exact ⟨by rw [e2]; exact (h1 x (by simp)).1, e.1⟩
  · exact h
theorem conOk_fold : ∀ (l acc : List (List Int)), ConOk acc → ConOk (l.foldl stepC acc)
  | [], _, h => h
  | _ :: r, _, h => conOk_fold r _ (conOk_step h)
theorem conOk_con (l : List (List Int)) : ConOk (conO l) := conOk_fold l [] ⟨0, fun _ h => by cases h⟩
theorem con_val {l : List (List Int)} {m : List Int} (h : m ∈ conO l) : valW m = true := by
  obtain ⟨n, h1⟩ := conOk_con l
  exact (h1 m h).2
/-! the maximal ones -/
def keys (L : List (List Int)) : List (List Int) := L.map keyW
def maxO (l : List (List Int)) : List (List Int) := (makeU (keys (conO l))).reverse.map unkW
def insK (acc : List (List Int)) (m : List Int) : List (List Int) := if (acc.any fun s => leqL (keyW s) (keyW m)) = true then acc else acc ++ [m]
def minK (S : List (List Int)) : List (List Int) := S.foldl insK []
theorem minK_take {l : List (List Int)} {k : Nat} (hk : k < l.length) : minK (l.take (k + 1)) = insK (minK (l.take k)) l[k] := by
  unfold minK
  rw [List.take_succ_eq_append_getElem hk, List.foldl_append]
  rfl
theorem keys_ins (acc : List (List Int)) (m : List Int) : keys (insK acc m) = insM (keys acc) (keyW m) := by
  unfold insK insM keys
  rw [List.any_map]
  have e : (acc.any fun s => leqL (keyW s) (keyW m)) = acc.any ((fun s => leqL s (keyW m)) ∘ keyW) := rfl
  rw [e]
  split
  · rfl
  · simp
theorem keys_fold : ∀ (S acc : List (List Int)), keys (S.foldl insK acc) = (keys S).foldl insM (keys acc)
  | [], _ => rfl
  | m :: r, acc => by
    rw [List.foldl_cons, keys_fold r, keys_ins]
    rfl
theorem keys_min (S : List (List Int)) : keys (minK S) = minS (keys S) := keys_fold S []
theorem ins_sub {acc : List (List Int)} {m x : List Int} (h : x ∈ insK acc m) : x ∈ acc ∨ x = m := by
  unfold insK at h
  split at h
  · exact .inl h
  · rcases List.mem_append.1 h with h | h
    · exact .inl h
    · exact .inr (by simpa using h)
theorem fold_subK : ∀ (S acc : List (List Int)) (x : List Int), x ∈ S.foldl insK acc → x ∈ acc ∨ x ∈ S
  | [], _, _, h => .inl h
  | m :: r, acc, x, h => by
    rcases fold_subK r _ x h with h | h
    · rcases ins_sub h with h | h
      · exact .inl h
      · subst h; exact .inr (by simp)
    · exact .inr (List.mem_cons_of_mem _ h)
theorem min_sub {S : List (List Int)} {x : List Int} (h : x ∈ minK S) : x ∈ S := by
  rcases fold_subK S [] x h with h | h
  · cases h
  · exact h
theorem unk_keys : ∀ {L : List (List Int)}, (∀ m ∈ L, valW m = true) → (keys L).map unkW = L
  | [], _ => rfl
  | m :: r, h => by
    have := unk_keys (L := r) fun x hx => h x (List.mem_cons_of_mem _ hx)
    unfold keys at *
    rw [List.map_cons, List.map_cons, unk_key (h m (by simp)), this]
/-- the program's way -/
theorem max_prog {l S : List (List Int)} (hp : S.Perm (conO l)) (hw : Wk (keys S)) : (minK S).reverse = maxO l := by
  have e : keys (minK S) = makeU (keys (conO l)) := by
    rw [keys_min]
    exact minS_make (hp.map keyW) hw
  have hv : ∀ m ∈ minK S, valW m = true := fun m hm => con_val (hp.mem_iff.1 (min_sub hm))
  unfold maxO
  rw [← e, List.map_reverse, unk_keys hv]
theorem mem_max {l : List (List Int)} {x : List Int} : x ∈ maxO l ↔ x ∈ conO l ∧ MinU (keys (conO l)) (keyW x) := by
  unfold maxO
  rw [List.mem_map]
  constructor
  · rintro ⟨k, hk, rfl⟩
    have h1 := ((makeU_spec _).2 k).1 (List.mem_reverse.1 hk)
    obtain ⟨m, hm, rfl⟩ := List.mem_map.1 h1.1
    rw [unk_key (con_val hm)]
    exact ⟨hm, h1⟩
  · rintro ⟨h1, h2⟩
    exact ⟨keyW x, List.mem_reverse.2 (((makeU_spec _).2 _).2 h2), unk_key (con_val h1)⟩
def Desc (l : List (List Int)) : Prop := l.Pairwise fun a b => cmpL (keyW b) (keyW a) < 0
theorem desc_max (l : List (List Int)) : Desc (maxO l) := by
  unfold Desc maxO
  rw [List.pairwise_map, List.pairwise_reverse]
  refine List.Pairwise.imp_of_mem (R := fun a b => cmpL a b < 0) (fun {a b} ha hb h => ?_) (makeU_spec _).1
  have key : ∀ k ∈ makeU (keys (conO l)), keyW (unkW k) = k := fun k hk => by
    obtain ⟨m, hm, rfl⟩ := List.mem_map.1 (((makeU_spec _).2 k).1 hk).1
    rw [unk_key (con_val hm)]
  rw [key a ha, key b hb]
  exact h
theorem desc_ext {a b : List (List Int)} (ha : Desc a) (hb : Desc b) (va : ∀ m ∈ a, valW m = true) (vb : ∀ m ∈ b, valW m = true) (h : ∀ x, x ∈ a ↔ x ∈ b) : a = b := by
  have e : (keys a).reverse = (keys b).reverse := by
    refine asc_ext _ _ ?_ ?_ fun x => ?_
    · unfold Asc keys; rw [List.pairwise_reverse, List.pairwise_map]; exact ha
    · unfold Asc keys; rw [List.pairwise_reverse, List.pairwise_map]; exact hb
    · rw [List.mem_reverse, List.mem_reverse]
      unfold keys
      rw [List.mem_map, List.mem_map]
      exact ⟨fun ⟨m, h1, h2⟩ => ⟨m, (h m).1 h1, h2⟩, fun ⟨m, h1, h2⟩ => ⟨m, (h m).2 h1, h2⟩⟩
  have e2 := List.reverse_inj.1 e
  rw [← unk_keys va, e2, unk_keys vb]
/-! the reference's way -/
def befW (a b : List Int) : Bool := decide (cmpL (keyW b) (keyW a) < 0)
def insB (m : List Int) : List (List Int) → List (List Int)
  | [] => [m]
  | x :: r => if befW m x = true then m :: x :: r else x :: insB m r
theorem insB_mem : ∀ (m : List Int) (l : List (List Int)) (x : List Int), x ∈ insB m l ↔ x = m ∨ x ∈ l
  | m, [], x => by simp [insB]
  | m, y :: r, x => by
    unfold insB
    split
    · simp
    · rw [List.mem_cons, insB_mem m r x, List.mem_cons]
      constructor
      · rintro (h | h | h)
        · exact .inr (.inl h)
        · exact .inl h
        · exact .inr (.inr h)
      · rintro (h | h | h)
        · exact .inr (.inl h)
        · exact .inl h
        · exact .inr (.inr h)
theorem insB_desc : ∀ (m : List Int) (l : List (List Int)), Desc l → (∀ x ∈ l, cmpL (keyW x) (keyW m) ≠ 0) → Desc (insB m l)
  | m, [], _, _ => by simp [insB, Desc]
  | m, y :: r, h, hne => by
    obtain ⟨h1, h2⟩ := List.pairwise_cons.1 h
    unfold insB
    split
    · rename_i e
      have e1 : cmpL (keyW y) (keyW m) < 0 := of_decide_eq_true e
      refine List.pairwise_cons.2 ⟨fun z hz => ?_, h⟩
      rcases List.mem_cons.1 hz with rfl | hz
      · exact e1
      · exact cmpL_lt_trans (h1 z hz) e1
    · rename_i e
      have e1 : ¬ cmpL (keyW y) (keyW m) < 0 := fun h => e (decide_eq_true h)
      have e2 := hne y (by simp)
      have e3 := cmpL_neg (keyW y) (keyW m)
      refine List.pairwise_cons.2 ⟨fun z hz => ?_, insB_desc m r h2 fun x hx => hne x (List.mem_cons_of_mem _ hx)⟩
      rcases (insB_mem m r z).1 hz with rfl | hz
      · omega
      · exact h1 z hz
def keepB (X : List (List Int)) (i : Nat) (m : List Int) : Bool := (List.range X.length).all fun k => !((sameL m (X[k]?.getD []) && decide (k < i)) || (!(sameL m (X[k]?.getD [])) && leqW m (X[k]?.getD [])))
def stR (X out : List (List Int)) (i : Nat) : List (List Int) := if keepB X i (X[i]?.getD []) = true then insB (X[i]?.getD []) out else out
def rmaxO (X : List (List Int)) : List (List Int) := (List.range X.length).foldl (stR X) []
theorem keep_iff {X : List (List Int)} {i : Nat} {m : List Int} : keepB X i m = true ↔ ∀ k, k < X.length → ¬ ((m = X[k]?.getD [] ∧ k < i) ∨ (m ≠ X[k]?.getD [] ∧ leqW m (X[k]?.getD []) = true)) := by
  unfold keepB
  rw [List.all_eq_true]
  constructor
  · intro h k hk
    have := h k (List.mem_range.2 hk)
    rintro (⟨h1, h2⟩ | ⟨h1, h2⟩)
    · rw [sameL_iff.2 h1, decide_eq_true h2] at this
      simp at this
    · have h3 : sameL m (X[k]?.getD []) = false := by
        cases e : sameL m (X[k]?.getD []) with
        | false => rfl
        | true => exact absurd (sameL_iff.1 e) h1
      rw [h3, h2] at this
      simp at this
  · intro h k hk
    have := h k (List.mem_range.1 hk)
    by_cases h1 : m = X[k]?.getD []
    · have h2 : ¬ k < i := fun h2 => this (.inl ⟨h1, h2⟩)
      rw [decide_eq_false h2, sameL_iff.2 h1]
      rfl
    · have h2 : leqW m (X[k]?.getD []) = false := by
        cases e : leqW m (X[k]?.getD []) with
        | false => rfl
        | true => exact absurd (.inr ⟨h1, e⟩) this
      have h3 : sameL m (X[k]?.getD []) = false := by
        cases e : sameL m (X[k]?.getD []) with
        | false => rfl
        | true => exact absurd (sameL_iff.1 e) h1
      rw [h2, h3]
      rfl
theorem rmax_inv {X : List (List Int)} (hX : ConOk X) : ∀ i, i ≤ X.length → Desc ((List.range i).foldl (stR X) []) ∧ ∀ x, x ∈ (List.range i).foldl (stR X) [] ↔ ∃ j, j < i ∧ X[j]?.getD [] = x ∧ keepB X j x = true
  | 0, _ => ⟨List.Pairwise.nil, fun x => by simp⟩
  | i + 1, hi => by
    obtain ⟨h1, h2⟩ := rmax_inv hX i (by omega)
    rw [List.range_succ, List.foldl_append, List.foldl_cons, List.foldl_nil]
    have hv : ∀ j, j < X.length → valW (X[j]?.getD []) = true := fun j hj => by
      obtain ⟨n, hn⟩ := hX
      rw [List.getElem?_eq_getElem hj]
      exact (hn _ (List.getElem_mem hj)).2
    unfold stR
    by_cases hk : keepB X i (X[i]?.getD []) = true
    · rw [if_pos hk]
      refine ⟨insB_desc _ _ h1 fun x hx e => ?_, fun x => ?_⟩
      · obtain ⟨j, hj, rfl, _⟩ := (h2 x).1 hx
        have e2 := key_inj (hv j (by omega)) (hv i (by omega)) (cmpL_zero _ _ e)
        exact keep_iff.1 hk j (by omega) (.inl ⟨e2.symm, hj⟩)
      · rw [insB_mem]
        have h3 := h2 x
        unfold stR at h3
        rw [h3]
        constructor
        · rintro (rfl | ⟨j, hj, h4⟩)
          · exact ⟨i, by omega, rfl, hk⟩
          · exact ⟨j, by omega, h4⟩
        · rintro ⟨j, hj, h4, h5⟩
          by_cases e : j = i
          · subst e; exact .inl h4.symm
          · exact .inr ⟨j, by omega, h4, h5⟩
    · rw [if_neg hk]
      refine ⟨h1, fun x => ?_⟩
      have h3 := h2 x
      unfold stR at h3
      rw [h3]
      constructor
      · rintro ⟨j, hj, h4⟩
        exact ⟨j, by omega, h4⟩
      · rintro ⟨j, hj, h4, h5⟩
        by_cases e : j = i
        · subst e; rw [h4] at hk; exact absurd h5 hk
        · exact ⟨j, by omega, h4, h5⟩
theorem rmax_max (l : List (List Int)) : rmaxO (conO l) = maxO l := by
  have hX := conOk_con l
  obtain ⟨h1, h2⟩ := rmax_inv hX (conO l).length (Nat.le_refl _)
  have hv : ∀ j, j < (conO l).length → (conO l)[j]?.getD [] ∈ conO l := fun j hj => by
    rw [List.getElem?_eq_getElem hj]
    exact List.getElem_mem hj
  have mem : ∀ x, x ∈ rmaxO (conO l) ↔ x ∈ maxO l := fun x => by
    unfold rmaxO
    rw [h2 x, mem_max]
    constructor
    · rintro ⟨j, hj, rfl, hk⟩
      refine ⟨hv j hj, List.mem_map.2 ⟨_, hv j hj, rfl⟩, fun y hy hl => ?_⟩
      obtain ⟨m, hm, rfl⟩ := List.mem_map.1 hy
      obtain ⟨k, hk2, rfl⟩ := List.getElem_of_mem hm
      by_cases e : (conO l)[j]?.getD [] = (conO l)[k]
      · rw [e]
      · have := keep_iff.1 hk k hk2
        rw [List.getElem?_eq_getElem hk2] at this
        exact absurd (.inr ⟨e, by rw [Option.getD_some, leqW_key (con_val (hv j hj)) (con_val hm)]; exact hl⟩) this
    · rintro ⟨hx, _, hmin⟩
      -- the first place where x stands
      have hex : ∃ j, j < (conO l).length ∧ (conO l)[j]?.getD [] = x := by
        obtain ⟨j, hj, e⟩ := List.getElem_of_mem hx
        exact ⟨j, hj, by rw [List.getElem?_eq_getElem hj]; exact e⟩
      have hmn : ∃ j, (j < (conO l).length ∧ (conO l)[j]?.getD [] = x) ∧ ∀ i, i < j → ¬ (i < (conO l).length ∧ (conO l)[i]?.getD [] = x) := by
        obtain ⟨j, hj⟩ := hex
        induction j using Nat.strongRecOn with
        | ind j ih =>
          by_cases h : ∃ i, i < j ∧ (i < (conO l).length ∧ (conO l)[i]?.getD [] = x)
          · obtain ⟨i, hi, h3⟩ := h
            exact ih i hi h3
          · exact ⟨j, hj, fun i hi h3 => h ⟨i, hi, h3⟩⟩
      obtain ⟨j, ⟨hj, ej⟩, hfirst⟩ := hmn
      refine ⟨j, hj, ej, keep_iff.2 fun k hk => ?_⟩
      rintro (⟨e, hlt⟩ | ⟨hne, hle⟩)
      · exact hfirst k hlt ⟨hk, e.symm⟩
      · rw [leqW_key (con_val hx) (con_val (hv k hk))] at hle
        have := hmin _ (List.mem_map.2 ⟨_, hv k hk, rfl⟩) hle
        exact hne (key_inj (con_val hx) (con_val (hv k hk)) this.symm)
  refine desc_ext h1 (desc_max l) (fun m hm => ?_) (fun m hm => con_val (mem_max.1 hm).1) mem
  exact con_val (mem_max.1 ((mem m).1 hm)).1
/-! the law on domination -/
theorem max_dom {l : List (List Int)} {x : List Int} (hx : x ∈ conO l) : ∃ t ∈ maxO l, leqW x t = true := by
  obtain ⟨s, h1, h2⟩ := make_dom (keys (conO l)) (keyW x) (List.mem_map.2 ⟨x, hx, rfl⟩)
  have h3 := ((makeU_spec _).2 s).1 h1
  obtain ⟨m, hm, rfl⟩ := List.mem_map.1 h3.1
  exact ⟨m, mem_max.2 ⟨hm, h3⟩, by rw [leqW_key (con_val hx) (con_val hm)]; exact h2⟩
theorem max_anti {l : List (List Int)} {x y : List Int} (hx : x ∈ maxO l) (hy : y ∈ maxO l) (h : leqW x y = true) : x = y := by
  obtain ⟨h1, h2⟩ := mem_max.1 hx
  obtain ⟨h3, h4⟩ := mem_max.1 hy
  rw [leqW_key (con_val h1) (con_val h3)] at h
  exact key_inj (con_val h1) (con_val h3) (h2.2 _ h4.1 h).symm
theorem max_some (l : List (List Int)) : (0 < (maxO l).length) ↔ 0 < (conO l).length := by
  constructor
  · intro h
    obtain ⟨x, hx⟩ := List.exists_mem_of_length_pos h
    exact List.length_pos_of_mem (mem_max.1 hx).1
  · intro h
    obtain ⟨x, hx⟩ := List.exists_mem_of_length_pos h
    obtain ⟨t, ht, _⟩ := max_dom hx
    exact List.length_pos_of_mem ht
end Go.Proofs.YtkjdgkndlfhhjaaDoor
