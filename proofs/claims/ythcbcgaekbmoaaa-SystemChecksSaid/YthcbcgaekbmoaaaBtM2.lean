/- More plain mathematics: the fold of With, All, the next subset. -/
import Derived.Test.YthcbcgaekbmoaaaBtM
namespace Go.Proofs.Ythcbcgaekbmoaaa.Bt

def sgl (i : Int) : Nat := if 0 ≤ i ∧ i ≤ 63 then 2 ^ i.toNat else 0
theorem sgl_lt (i : Int) : sgl i < 18446744073709551616 := by
  unfold sgl
  split
  · exact pow_lt64 (by omega)
  · decide
def withV (s : Nat) (i : Int) : Nat := s ||| sgl i
def woV (s : Nat) (i : Int) : Nat := mB s (sgl i)
def hasV (s : Nat) (i : Int) : Bool := decide (0 ≤ i ∧ i ≤ 63) && s.testBit i.toNat
def ofV (zs : List Int) : Nat := zs.foldl withV 0
def allV (n : Int) : Nat := 2 ^ (min n.toNat 64) - 1
theorem withV_lt {s : Nat} (hs : s < 18446744073709551616) (i : Int) : withV s i < 18446744073709551616 := or_lt hs (sgl_lt i)
theorem foldl_lt : ∀ (zs : List Int) (s : Nat), s < 18446744073709551616 → zs.foldl withV s < 18446744073709551616
  | [], _, h => h
  | z :: zs, _, h => foldl_lt zs _ (withV_lt h z)
theorem ofV_lt (zs : List Int) : ofV zs < 18446744073709551616 := foldl_lt zs 0 (by decide)
theorem hasV_sgl (s : Nat) (i : Int) : (s &&& sgl i != 0) = hasV s i := by
  unfold sgl hasV
  by_cases h : 0 ≤ i ∧ i ≤ 63
  · rw [if_pos h, and_pow]; simp [h]
  · rw [if_neg h]; simp [h]
theorem hasV_nat (s n : Nat) (h : n ≤ 63) : hasV s (n : Int) = s.testBit n := by
  unfold hasV; simp; omega
theorem withV_yes (s : Nat) (i : Int) (h : hasV s i = true) : withV s i = s := by
  unfold hasV at h
  rw [Bool.and_eq_true] at h
  have h1 := of_decide_eq_true h.1
  unfold withV sgl
  rw [if_pos h1]
  apply Nat.eq_of_testBit_eq
  intro j
  rw [Nat.testBit_or, testBit_pow]
  by_cases e : i.toNat = j
  · subst e; simp [h.2]
  · simp [e]
theorem withV_out (s : Nat) (i : Int) (h : i < 0 ∨ 63 < i) : withV s i = s := by
  unfold withV sgl
  rw [if_neg (by omega)]; simp
theorem withV_no (s : Nat) (i : Int) (h1 : 0 ≤ i ∧ i ≤ 63) (h : hasV s i = false) : withV s i = s + 2 ^ i.toNat := by
  unfold hasV at h
  rw [decide_eq_true h1, Bool.true_and] at h
  unfold withV sgl
  rw [if_pos h1, add_pow _ _ h]
theorem woV_no (s : Nat) (i : Int) (hs : s < 18446744073709551616) (h : hasV s i = false) : woV s i = s := by
  unfold woV
  apply Nat.eq_of_testBit_eq
  intro j
  rw [testBit_mB _ _ _ hs (sgl_lt i)]
  unfold sgl
  by_cases h1 : 0 ≤ i ∧ i ≤ 63
  · rw [if_pos h1, testBit_pow]
    unfold hasV at h
    rw [decide_eq_true h1, Bool.true_and] at h
    by_cases e : i.toNat = j
    · subst e; simp [h]
    · simp [e]
  · rw [if_neg h1]; simp
theorem woV_yes (s : Nat) (i : Int) (hs : s < 18446744073709551616) (h : hasV s i = true) : s - 2 ^ i.toNat = woV s i ∧ 2 ^ i.toNat ≤ s := by
  unfold hasV at h
  rw [Bool.and_eq_true] at h
  have h1 := of_decide_eq_true h.1
  unfold woV sgl
  rw [if_pos h1]
  exact sub_pow _ _ hs h.2
theorem ofV_snoc (zs : List Int) (z : Int) : ofV (zs ++ [z]) = withV (ofV zs) z := by unfold ofV; rw [List.foldl_append]; rfl
theorem testBit_withV (s : Nat) (n i : Nat) (h : n ≤ 63) : (withV s n).testBit i = (s.testBit i || decide (n = i)) := by
  unfold withV sgl
  rw [if_pos (by omega), Nat.testBit_or, Int.toNat_natCast, testBit_pow]

/-! ### the next subset -/
/-- the code's -/
def nextV (s b : Nat) : Nat := (((s ||| (18446744073709551615 - b)) + 1) % 18446744073709551616) &&& b
theorem inc_bits (t e : Nat) (h1 : ∀ j, j < e → t.testBit j = true) (h2 : t.testBit e = false) (j : Nat) : (t + 1).testBit j = (decide (j = e) || (decide (e < j) && t.testBit j)) := by
  have hp := Nat.two_pow_pos e
  have hm : t % 2 ^ e = 2 ^ e - 1 := by
    apply Nat.eq_of_testBit_eq
    intro i
    rw [Nat.testBit_mod_two_pow, Nat.testBit_two_pow_sub_one]
    by_cases hi : i < e
    · simp [hi, h1 i hi]
    · simp [hi]
  have hd : t = 2 ^ e * (t / 2 ^ e) + t % 2 ^ e := (Nat.div_add_mod _ _).symm
  have ht : t + 1 = 2 ^ e * (t / 2 ^ e + 1) := by rw [Nat.mul_add, Nat.mul_one]; omega
  have he : t / 2 ^ e % 2 = 0 := by
    rw [Nat.testBit_eq_decide_div_mod_eq] at h2
    have := of_decide_eq_false h2
    omega
  have hs : t.testBit j = if j < e then (t % 2 ^ e).testBit j else (t / 2 ^ e).testBit (j - e) := by
    conv => lhs; rw [hd]
    rw [Nat.testBit_two_pow_mul_add _ (Nat.mod_lt _ hp)]
  rw [ht, Nat.testBit_two_pow_mul, hs]
  obtain ⟨q, hq⟩ : ∃ q, t / 2 ^ e = 2 * q := ⟨t / 2 ^ e / 2, by omega⟩
  rw [hq]
  rcases Nat.lt_trichotomy j e with h | h | h
  · have a : ¬ e ≤ j := by omega
    have b : ¬ j = e := by omega
    have c : ¬ e < j := by omega
    simp [a, b, c]
  · subst h
    simp [Nat.testBit_zero]
  · obtain ⟨d, hd'⟩ : ∃ d, j - e = d + 1 := ⟨j - e - 1, by omega⟩
    have a : e ≤ j := by omega
    have b : ¬ j = e := by omega
    have c : ¬ j < e := by omega
    have e1 : (2 * q + 1) / 2 = q := by omega
    have e2 : 2 * q / 2 = q := by omega
    simp only [hd', Nat.testBit_succ, e1, e2]
    simp [a, b, c, h]
/-- its bits, where e is the least element of b that s lacks -/
theorem nextV_bits {s b e : Nat} (hs : s < 18446744073709551616) (hb : b < 18446744073709551616) (hsub : subV s b = true) (he : b.testBit e = true) (hse : s.testBit e = false)
    (hmin : ∀ j, j < e → b.testBit j = true → s.testBit j = true) (j : Nat) : (nextV s b).testBit j = (decide (j = e) || (decide (e < j) && s.testBit j)) := by
  have h' := (sub_iff hs hb).1 hsub
  have e64 := bit_lt hb he
  have hn : 18446744073709551615 - b < 18446744073709551616 := by omega
  have ht := or_lt hs hn
  have tb : ∀ i, (s ||| (18446744073709551615 - b)).testBit i = (s.testBit i || (decide (i < 64) && !b.testBit i)) := fun i => by
    rw [Nat.testBit_or, testBit_not b i hb]
  generalize hT : s ||| (18446744073709551615 - b) = t at *
  have b1 : ∀ i, i < e → t.testBit i = true := fun i hi => by
    rw [tb]
    cases hbi : b.testBit i
    · have : i < 64 := by omega
      simp [this]
    · simp [hmin i hi hbi]
  have b2 : t.testBit e = false := by rw [tb, hse, he]; simp
  have hne : t ≠ 18446744073709551615 := by
    intro h
    rw [h] at b2
    have := testBit_not 0 e (by decide)
    rw [Nat.sub_zero] at this
    rw [this] at b2
    simp at b2; omega
  unfold nextV
  rw [hT, Nat.mod_eq_of_lt (by omega), Nat.testBit_and, inc_bits t e b1 b2 j, tb]
  by_cases hje : j = e
  · subst hje; simp [he]
  · by_cases hlt : e < j
    · simp only [hje, hlt, decide_false, decide_true, Bool.false_or, Bool.true_and]
      cases hbj : b.testBit j
      · cases hsj : s.testBit j
        · simp
        · rw [h' j hsj] at hbj; cases hbj
      · simp
    · simp [hje, hlt]
theorem nextV_lt (s b : Nat) (hb : b < 18446744073709551616) : nextV s b < 18446744073709551616 := Nat.lt_of_le_of_lt Nat.and_le_right hb
/-- the reference's loop: s without the first k elements of b -/
def dropV (s : Nat) : List Nat → Nat
  | [] => s
  | e :: es => dropV (s - 2 ^ e) es
def DropInv (s b k out : Nat) : Prop := out < 18446744073709551616 ∧ (∀ j, j < k → ∀ e, (lst b)[j]? = some e → s.testBit e = true) ∧ ∀ i, out.testBit i = (s.testBit i && !((lst b).take k).contains i)
theorem DropInv.start (s b : Nat) (hs : s < 18446744073709551616) : DropInv s b 0 s := ⟨hs, fun j h => absurd h (by omega), fun i => by simp⟩
theorem take_succ_get {l : List Nat} {k e : Nat} (h : l[k]? = some e) : l.take (k + 1) = l.take k ++ [e] := by
  rw [List.take_add_one, h]; rfl
theorem not_in_take {b k e : Nat} (h : (lst b)[k]? = some e) : e ∉ (lst b).take k := by
  intro hm
  obtain ⟨j, hj, hj'⟩ := List.getElem_of_mem hm
  have hk := (List.getElem?_eq_some_iff.1 h)
  obtain ⟨hk1, hk2⟩ := hk
  have hjk : j < k := by have := hj; rw [List.length_take] at this; omega
  have hp := List.pairwise_iff_getElem.1 (lst_sorted b) j k (by omega) hk1 hjk
  rw [List.getElem_take] at hj'
  omega
theorem DropInv.hit {s b k out e : Nat} (h : DropInv s b k out) (he : (lst b)[k]? = some e) (hs : s.testBit e = true) : DropInv s b (k + 1) (out - 2 ^ e) ∧ 2 ^ e ≤ out := by
  obtain ⟨h1, h2, h3⟩ := h
  have hb : out.testBit e = true := by
    rw [h3, hs]
    have := not_in_take he
    simp [this]
  have hp := bit_lt h1 hb
  obtain ⟨a, c⟩ := sub_pow out e h1 hb
  refine ⟨⟨by rw [a]; exact mB_lt h1, fun j hj x hx => ?_, fun i => ?_⟩, c⟩
  · by_cases e1 : j = k
    · subst e1; rw [he] at hx; cases hx; exact hs
    · exact h2 j (by omega) x hx
  · rw [a, testBit_mB _ _ _ h1 (pow_lt64 (by omega)), h3, testBit_pow, take_succ_get he]
    by_cases e1 : e = i
    · subst e1; simp
    · simp [e1, Ne.symm e1]
theorem take_mem_iff {b k e : Nat} (h : (lst b)[k]? = some e) (i : Nat) : i ∈ (lst b).take k ↔ i ∈ lst b ∧ i < e := by
  obtain ⟨hk1, hk2⟩ := List.getElem?_eq_some_iff.1 h
  constructor
  · intro hm
    obtain ⟨j, hj, hj'⟩ := List.getElem_of_mem hm
    have hjk : j < k := by have := hj; rw [List.length_take] at this; omega
    have hp := List.pairwise_iff_getElem.1 (lst_sorted b) j k (by omega) hk1 hjk
    rw [List.getElem_take] at hj'
    exact ⟨List.mem_of_mem_take hm, by omega⟩
  · rintro ⟨hm, hlt⟩
    obtain ⟨j, hj, hj'⟩ := List.getElem_of_mem hm
    have hjk : j < k := by
      rcases Nat.lt_trichotomy j k with h1 | h1 | h1
      · exact h1
      · subst h1; omega
      · have hp := List.pairwise_iff_getElem.1 (lst_sorted b) k j hk1 hj h1
        omega
    rw [← hj']
    exact List.mem_take_iff_getElem.2 ⟨j, by omega, rfl⟩
theorem DropInv.miss {s b k out e : Nat} (h : DropInv s b k out) (hs : s < 18446744073709551616) (hb : b < 18446744073709551616) (hsub : subV s b = true) (he : (lst b)[k]? = some e) (hse : s.testBit e = false) : out + 2 ^ e = nextV s b ∧ e < 64 := by
  obtain ⟨h1, h2, h3⟩ := h
  have hm : e ∈ lst b := List.mem_of_getElem? he
  have hm2 := (mem_lst b e).1 hm
  have ho : out.testBit e = false := by rw [h3, hse]; rfl
  refine ⟨?_, hm2.1⟩
  rw [add_pow _ _ ho]
  apply Nat.eq_of_testBit_eq
  intro i
  have hmin : ∀ j, j < e → b.testBit j = true → s.testBit j = true := fun j hj hbj => by
    have hin := (take_mem_iff he j).2 ⟨(mem_lst' hb j).2 hbj, hj⟩
    obtain ⟨q, hq, hq'⟩ := List.getElem_of_mem hin
    have hqk : q < k := by have := hq; rw [List.length_take] at this; omega
    refine h2 q hqk j ?_
    rw [List.getElem_take] at hq'
    rw [List.getElem?_eq_some_iff]
    exact ⟨by rw [List.length_take] at hq; omega, hq'⟩
  rw [nextV_bits hs hb hsub hm2.2 hse hmin, Nat.testBit_or, h3, testBit_pow]
  by_cases e1 : i = e
  · subst e1; simp
  · have hc : ((lst b).take k).contains i = decide (i ∈ lst b ∧ i < e) := by
      rw [Bool.eq_iff_iff, List.contains_iff_mem, take_mem_iff he]; simp
    rw [hc]
    simp only [e1, Ne.symm e1, decide_false, Bool.or_false, Bool.false_or]
    cases hsi : s.testBit i
    · simp
    · have hbi := (mem_lst' hb i).2 ((sub_iff hs hb).1 hsub i hsi)
      rcases Nat.lt_or_gt_of_ne e1 with h | h
      · have : ¬ e < i := by omega
        simp [hbi, h, this]
      · have : ¬ i < e := by omega
        simp [hbi, h, this]
theorem DropInv.all_ {s b out : Nat} (h : DropInv s b (lst b).length out) (hs : s < 18446744073709551616) (hb : b < 18446744073709551616) (hsub : subV s b = true) : s = b := by
  refine sub_antisymm hs hb hsub ((sub_iff hb hs).2 fun i hi => ?_)
  obtain ⟨q, hq, hq'⟩ := List.getElem_of_mem ((mem_lst' hb i).2 hi)
  exact h.2.1 q hq i (List.getElem?_eq_some_iff.2 ⟨hq, hq'⟩)
end Go.Proofs.Ythcbcgaekbmoaaa.Bt
