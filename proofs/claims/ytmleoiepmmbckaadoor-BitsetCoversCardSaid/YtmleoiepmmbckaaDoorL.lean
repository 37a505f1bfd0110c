/- Plain mathematics of the laws on inverse operations, visited subsets and the operations on bits. -/
import Derived.Test.YtmleoiepmmbckaaDoorK
namespace Go.Proofs.YtmleoiepmmbckaaDoor

theorem ofV_lst {s : Nat} (hs : s < 18446744073709551616) : ofV ((lst s).map fun n : Nat => (n : Int)) = s := by
  have h : ∀ (L : List Nat) (t : Nat), (∀ x ∈ L, x ≤ 63) → ∀ i, ((L.map fun n : Nat => (n : Int)).foldl withV t).testBit i = (t.testBit i || L.contains i) := by
    intro L
    induction L with
    | nil => intro t _ i; simp
    | cons x L ih =>
      intro t hx i
      rw [List.map_cons, List.foldl_cons, ih _ (fun y hy => hx y (by simp [hy])), testBit_withV _ _ _ (hx x (by simp)), List.contains_cons, Bool.or_assoc]
      have e : decide (x = i) = (i == x) := by
        rw [Bool.eq_iff_iff, decide_eq_true_iff, beq_iff_eq]
        exact eq_comm
      rw [e]
  unfold ofV
  apply Nat.eq_of_testBit_eq
  intro i
  rw [h (lst s) 0 (fun x hx => by have := (mem_lst s x).1 hx; omega), Nat.zero_testBit, Bool.false_or, Bool.eq_iff_iff, List.contains_iff_mem, mem_lst' hs]
theorem woV_lt {s : Nat} (hs : s < 18446744073709551616) (i : Int) : woV s i < 18446744073709551616 := mB_lt hs
theorem hasV_iff (s : Nat) (i : Int) (hi : 0 ≤ i ∧ i ≤ 63) : hasV s i = s.testBit i.toNat := by unfold hasV; simp [hi]
theorem sgl_bit (i : Int) (hi : 0 ≤ i ∧ i ≤ 63) (j : Nat) : (sgl i).testBit j = decide (i.toNat = j) := by unfold sgl; rw [if_pos hi, testBit_pow]
theorem has_with (s : Nat) (i : Int) (hi : 0 ≤ i ∧ i ≤ 63) : hasV (withV s i) i = true := by
  rw [hasV_iff _ _ hi]; unfold withV; rw [Nat.testBit_or, sgl_bit i hi]; simp
theorem has_wo (s : Nat) (hs : s < 18446744073709551616) (i : Int) (hi : 0 ≤ i ∧ i ≤ 63) : hasV (woV s i) i = false := by
  rw [hasV_iff _ _ hi]; unfold woV; rw [testBit_mB _ _ _ hs (sgl_lt i), sgl_bit i hi]; simp
theorem wo_with (s : Nat) (hs : s < 18446744073709551616) (i : Int) (hi : 0 ≤ i ∧ i ≤ 63) : woV (withV s i) i = woV s i := by
  apply Nat.eq_of_testBit_eq
  intro j
  unfold woV
  rw [testBit_mB _ _ _ (withV_lt hs i) (sgl_lt i), testBit_mB _ _ _ hs (sgl_lt i)]
  unfold withV
  rw [Nat.testBit_or, sgl_bit i hi]
  by_cases e : i.toNat = j <;> simp [e]
theorem with_wo (s : Nat) (hs : s < 18446744073709551616) (i : Int) (hi : 0 ≤ i ∧ i ≤ 63) : withV (woV s i) i = withV s i := by
  apply Nat.eq_of_testBit_eq
  intro j
  unfold withV
  rw [Nat.testBit_or, Nat.testBit_or, sgl_bit i hi]
  unfold woV
  rw [testBit_mB _ _ _ hs (sgl_lt i), sgl_bit i hi]
  by_cases e : i.toNat = j <;> simp [e]
theorem hasV_out (s : Nat) (i : Int) (h : i < 0 ∨ 63 < i) : hasV s i = false := by
  unfold hasV
  have : ¬ (0 ≤ i ∧ i ≤ 63) := by omega
  simp [this]

/-! ### ranks of subsets -/
def rkL (s : Nat) : List Nat → Nat
  | [] => 0
  | e :: es => (if s.testBit e then 1 else 0) + 2 * rkL s es
theorem rkL_append (s : Nat) : ∀ (A B : List Nat), rkL s (A ++ B) = rkL s A + 2 ^ A.length * rkL s B
  | [], B => by simp [rkL]
  | e :: A, B => by
    show _ + 2 * rkL s (A ++ B) = _ + 2 * rkL s A + 2 ^ (A.length + 1) * rkL s B
    rw [rkL_append s A B, Nat.mul_add, Nat.pow_succ, ← Nat.mul_assoc, Nat.mul_comm 2 (2 ^ A.length)]
    omega
theorem rkL_all (s : Nat) : ∀ (A : List Nat), (∀ x ∈ A, s.testBit x = true) → rkL s A = 2 ^ A.length - 1
  | [], _ => rfl
  | e :: A, h => by
    show (if s.testBit e then 1 else 0) + 2 * rkL s A = 2 ^ (A.length + 1) - 1
    rw [rkL_all s A (fun x hx => h x (by simp [hx])), if_pos (h e (by simp)), Nat.pow_succ]
    have := Nat.two_pow_pos A.length
    omega
theorem rkL_none (s : Nat) : ∀ (A : List Nat), (∀ x ∈ A, s.testBit x = false) → rkL s A = 0
  | [], _ => rfl
  | e :: A, h => by
    show (if s.testBit e then 1 else 0) + 2 * rkL s A = 0
    rw [rkL_none s A (fun x hx => h x (by simp [hx])), if_neg (by rw [h e (by simp)]; decide)]
theorem rkL_congr (s t : Nat) : ∀ (A : List Nat), (∀ x ∈ A, s.testBit x = t.testBit x) → rkL s A = rkL t A
  | [], _ => rfl
  | e :: A, h => by
    show (if s.testBit e then 1 else 0) + 2 * rkL s A = (if t.testBit e then 1 else 0) + 2 * rkL t A
    rw [rkL_congr s t A (fun x hx => h x (by simp [hx])), h e (by simp)]
theorem rkL_lt (s : Nat) : ∀ (A : List Nat), rkL s A < 2 ^ A.length
  | [] => by simp [rkL]
  | e :: A => by
    show (if s.testBit e then 1 else 0) + 2 * rkL s A < 2 ^ (A.length + 1)
    have := rkL_lt s A
    rw [Nat.pow_succ]
    split <;> omega
theorem rkL_max (s : Nat) : ∀ (A : List Nat), rkL s A = 2 ^ A.length - 1 → ∀ x ∈ A, s.testBit x = true
  | [], _, x, hx => by cases hx
  | e :: A, h, x, hx => by
    have h' : (if s.testBit e then 1 else 0) + 2 * rkL s A = 2 ^ (A.length + 1) - 1 := h
    have hl := rkL_lt s A
    have hp := Nat.two_pow_pos A.length
    rw [Nat.pow_succ] at h'
    have hr : rkL s A = 2 ^ A.length - 1 := by split at h' <;> omega
    have he : s.testBit e = true := by
      cases hb : s.testBit e
      · rw [hb, if_neg (by decide)] at h'; omega
      · rfl
    rcases List.mem_cons.1 hx with e1 | h1
    · rw [e1]; exact he
    · exact rkL_max s A hr x h1
theorem first_missing (s : Nat) : ∀ (L : List Nat), (∀ x ∈ L, s.testBit x = true) ∨ ∃ A e B, L = A ++ e :: B ∧ (∀ x ∈ A, s.testBit x = true) ∧ s.testBit e = false
  | [] => .inl fun _ h => by cases h
  | x :: L => by
    cases hx : s.testBit x
    · exact .inr ⟨[], x, L, rfl, (fun _ h => by cases h), hx⟩
    · rcases first_missing s L with h | ⟨A, e, B, rfl, h1, h2⟩
      · exact .inl fun y hy => by
          rcases List.mem_cons.1 hy with e | h'
          · rw [e]; exact hx
          · exact h y h'
      · exact .inr ⟨x :: A, e, B, rfl, (fun y hy => by
          rcases List.mem_cons.1 hy with e | h'
          · rw [e]; exact hx
          · exact h1 y h'), h2⟩
theorem lt_of_bits {x y : Nat} (e : Nat) (hx : x.testBit e = false) (hy : y.testBit e = true) (h : ∀ j, e < j → x.testBit j = y.testBit j) : x < y := by
  have hq : x / 2 ^ (e + 1) = y / 2 ^ (e + 1) := by
    apply Nat.eq_of_testBit_eq
    intro i
    rw [Nat.testBit_div_two_pow, Nat.testBit_div_two_pow]
    exact h _ (by omega)
  rw [Nat.pow_succ, ← Nat.div_div_eq_div_mul, ← Nat.div_div_eq_div_mul] at hq
  rw [Nat.testBit_eq_decide_div_mod_eq] at hx hy
  have hx' := of_decide_eq_false hx
  have hy' := of_decide_eq_true hy
  refine Nat.lt_of_not_le fun hle => ?_
  have := Nat.div_le_div_right (c := 2 ^ e) hle
  omega
/-- what one step does -/
theorem next_step {s b : Nat} (hs : s < 18446744073709551616) (hb : b < 18446744073709551616) (hsub : subV s b = true) (hne : s ≠ b) :
    rkL (nextV s b) (lst b) = rkL s (lst b) + 1 ∧ s < nextV s b ∧ subV (nextV s b) b = true ∧ nextV s b &&& b = nextV s b := by
  have hsub' := (sub_iff hs hb).1 hsub
  have hlt := nextV_lt s b hb
  have hand : nextV s b &&& b = nextV s b := by unfold nextV; rw [Nat.and_assoc, Nat.and_self]
  have hsub2 : subV (nextV s b) b = true := (sub_iff hlt hb).2 fun i hi => by
    rw [← hand, Nat.testBit_and, Bool.and_eq_true] at hi
    exact hi.2
  rcases first_missing s (lst b) with h | ⟨A, e, B, hL, h1, h2⟩
  · exact absurd (sub_antisymm hs hb hsub ((sub_iff hb hs).2 fun i hi => h i ((mem_lst' hb i).2 hi))) hne
  · have hsort := lst_sorted b
    rw [hL] at hsort
    have hsort2 := List.pairwise_append.1 hsort
    have he : b.testBit e = true := (mem_lst' hb e).1 (by rw [hL]; simp)
    have hAe : ∀ x ∈ A, x < e := fun x hx => hsort2.2.2 x hx e (by simp)
    have hBe : ∀ x ∈ B, e < x := fun x hx => (List.pairwise_cons.1 hsort2.2.1).1 x hx
    have hmin : ∀ j, j < e → b.testBit j = true → s.testBit j = true := fun j hj hbj => by
      have := (mem_lst' hb j).2 hbj
      rw [hL] at this
      rcases List.mem_append.1 this with h | h
      · exact h1 j h
      · rcases List.mem_cons.1 h with e1 | h'
        · omega
        · have := hBe j h'; omega
    have hbits := nextV_bits hs hb hsub he h2 hmin
    refine ⟨?_, lt_of_bits e h2 (by rw [hbits]; simp) (fun j hj => ?_), hsub2, hand⟩
    · rw [hL, rkL_append, rkL_append, rkL_all s A h1, rkL_none (nextV s b) A (fun x hx => by
        rw [hbits]
        have := hAe x hx
        have a1 : ¬ x = e := by omega
        have a2 : ¬ e < x := by omega
        simp [a1, a2])]
      show 0 + 2 ^ A.length * ((if (nextV s b).testBit e then 1 else 0) + 2 * rkL (nextV s b) B) = 2 ^ A.length - 1 + 2 ^ A.length * ((if s.testBit e then 1 else 0) + 2 * rkL s B) + 1
      rw [if_pos (by rw [hbits]; simp), if_neg (by rw [h2]; decide), rkL_congr (nextV s b) s B (fun x hx => by
        rw [hbits]
        have := hBe x hx
        have a1 : ¬ x = e := by omega
        simp [a1, this])]
      have hp := Nat.two_pow_pos A.length
      rw [Nat.mul_add, Nat.mul_add]
      omega
    · rw [hbits]
      have a1 : ¬ j = e := by omega
      simp [a1, hj]
/-- after j steps -/
def VisInv (b j s : Nat) : Prop := s < 18446744073709551616 ∧ subV s b = true ∧ rkL s (lst b) = j
theorem VisInv.start {b : Nat} (hb : b < 18446744073709551616) : VisInv b 0 0 := by
  have h0 : (0 : Nat) < 18446744073709551616 := by decide
  refine ⟨h0, (sub_iff h0 hb).2 fun i hi => ?_, rkL_none 0 _ fun x _ => Nat.zero_testBit x⟩
  rw [Nat.zero_testBit] at hi
  cases hi
theorem VisInv.ne {b j s : Nat} (hb : b < 18446744073709551616) (h : VisInv b j s) (hj : j + 1 < 2 ^ card b) : s ≠ b := fun e => by
  obtain ⟨_, _, h3⟩ := h
  rw [e, rkL_all b (lst b) (fun x hx => (mem_lst' hb x).1 hx)] at h3
  unfold card at hj
  omega
theorem VisInv.step {b j s : Nat} (hb : b < 18446744073709551616) (h : VisInv b j s) (hj : j + 1 < 2 ^ card b) : VisInv b (j + 1) (nextV s b) ∧ s < nextV s b ∧ nextV s b &&& b = nextV s b := by
  obtain ⟨h1, h2, h3, h4⟩ := next_step h.1 hb h.2.1 (h.ne hb hj)
  exact ⟨⟨nextV_lt s b hb, h3, by rw [h1, h.2.2]⟩, h2, h4⟩
theorem VisInv.end_ {b s : Nat} (hb : b < 18446744073709551616) (h : VisInv b (2 ^ card b - 1) s) : s = b :=
  sub_antisymm h.1 hb h.2.1 ((sub_iff hb h.1).2 fun i hi => rkL_max s (lst b) h.2.2 i ((mem_lst' hb i).2 hi))

/-! ### bits -/
theorem sub_and (a b : Nat) (ha : a < 18446744073709551616) (hb : b < 18446744073709551616) : subV a b = decide (a &&& b = a) := by
  rw [Bool.eq_iff_iff, sub_iff ha hb, decide_eq_true_iff]
  constructor
  · intro h
    apply Nat.eq_of_testBit_eq
    intro i
    rw [Nat.testBit_and]
    cases e : a.testBit i
    · rfl
    · rw [h i e]; rfl
  · intro h i hi
    rw [← h, Nat.testBit_and, Bool.and_eq_true] at hi
    exact hi.2
theorem sub_or (a b : Nat) (ha : a < 18446744073709551616) (hb : b < 18446744073709551616) : subV a (a ||| b) = true :=
  (sub_iff ha (or_lt ha hb)).2 fun i hi => by rw [Nat.testBit_or, hi]; rfl
theorem and_sub (a b : Nat) (ha : a < 18446744073709551616) (hb : b < 18446744073709551616) : subV (a &&& b) b = true :=
  (sub_iff (and_lt ha) hb).2 fun i hi => by rw [Nat.testBit_and, Bool.and_eq_true] at hi; exact hi.2
theorem filter_sum (p q : Nat → Bool) : ∀ (L : List Nat), (L.filter fun i => p i || q i).length + (L.filter fun i => p i && q i).length = (L.filter p).length + (L.filter q).length
  | [] => rfl
  | x :: L => by
    have ih := filter_sum p q L
    simp only [List.filter_cons]
    cases p x <;> cases q x <;> simp <;> omega
theorem card_sum (a b : Nat) : card (a ||| b) + card (a &&& b) = card a + card b := by
  unfold card lst
  have := filter_sum a.testBit b.testBit (List.range 64)
  simp only [Nat.testBit_or, Nat.testBit_and]
  exact this
theorem leastV_zero : leastV 0 = -1 := by unfold leastV; rw [lst_zero]
theorem least_spec {s : Nat} (h0 : s ≠ 0) (hs : s < 18446744073709551616) : ∃ n : Nat, leastV s = (n : Int) ∧ n ≤ 63 ∧ s.testBit n = true ∧ ∀ j, j < n → s.testBit j = false := by
  obtain ⟨h1, h2, h3, _⟩ := low_spec h0 hs
  refine ⟨Lib.ctz 64 s, ?_, by omega, h2, h3⟩
  unfold leastV
  rw [lst_low h0 hs]
theorem least_or {a b x y z : Nat} (hxa : a.testBit x = true) (hx : ∀ j, j < x → a.testBit j = false) (hyb : b.testBit y = true) (hy : ∀ j, j < y → b.testBit j = false)
    (hz : (a ||| b).testBit z = true) (hzm : ∀ j, j < z → (a ||| b).testBit j = false) : z = min x y := by
  have h1 : z ≤ x := Nat.le_of_not_lt fun h => by have := hzm x h; rw [Nat.testBit_or, hxa] at this; cases this
  have h2 : z ≤ y := Nat.le_of_not_lt fun h => by have := hzm y h; rw [Nat.testBit_or, hyb] at this; simp at this
  rw [Nat.testBit_or, Bool.or_eq_true] at hz
  rcases hz with h | h
  · have : x ≤ z := Nat.le_of_not_lt fun h' => by rw [hx z h'] at h; cases h
    omega
  · have : y ≤ z := Nat.le_of_not_lt fun h' => by rw [hy z h'] at h; cases h
    omega
end Go.Proofs.YtmleoiepmmbckaaDoor
