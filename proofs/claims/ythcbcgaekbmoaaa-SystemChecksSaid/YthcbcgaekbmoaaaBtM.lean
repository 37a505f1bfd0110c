/- Plain mathematics of sets of numbers from 0 to 63 as natural numbers below 2^64. -/
import Derived.Laws.Bits64b
import Derived.Lib.TrailingZeros
namespace Go.Proofs.Ythcbcgaekbmoaaa.Bt


/-- a without the elements of b -/
def mB (a b : Nat) : Nat := a &&& (18446744073709551615 - b)
theorem two64_eq : (18446744073709551616 : Nat) = 2 ^ 64 := by decide
theorem testBit_not (b i : Nat) (hb : b < 18446744073709551616) : (18446744073709551615 - b).testBit i = (decide (i < 64) && !b.testBit i) := by
  have h := Nat.testBit_two_pow_sub_succ (x := b) (n := 64) (by omega) i
  have e : 2 ^ 64 - (b + 1) = 18446744073709551615 - b := by omega
  rw [e] at h
  exact h
theorem high_bit {a i : Nat} (ha : a < 18446744073709551616) (hi : 64 ≤ i) : a.testBit i = false :=
  Nat.testBit_lt_two_pow (Nat.lt_of_lt_of_le ha (by rw [two64_eq]; exact Nat.pow_le_pow_right (by omega) hi))
theorem bit_lt {a i : Nat} (ha : a < 18446744073709551616) (h : a.testBit i = true) : i < 64 := by
  rcases Nat.lt_or_ge i 64 with h1 | h1
  · exact h1
  · rw [high_bit ha h1] at h; cases h
theorem testBit_mB (a b i : Nat) (ha : a < 18446744073709551616) (hb : b < 18446744073709551616) : (mB a b).testBit i = (a.testBit i && !b.testBit i) := by
  unfold mB
  rw [Nat.testBit_and, testBit_not b i hb]
  by_cases hi : i < 64
  · simp [hi]
  · rw [high_bit ha (by omega)]; simp
theorem mB_lt {a b : Nat} (ha : a < 18446744073709551616) : mB a b < 18446744073709551616 := Nat.lt_of_le_of_lt Nat.and_le_left ha
theorem or_lt {a b : Nat} (ha : a < 18446744073709551616) (hb : b < 18446744073709551616) : a ||| b < 18446744073709551616 := by
  have := Nat.or_lt_two_pow (x := a) (y := b) (n := 64) (by omega) (by omega)
  omega
theorem and_lt {a b : Nat} (ha : a < 18446744073709551616) : a &&& b < 18446744073709551616 := Nat.lt_of_le_of_lt Nat.and_le_left ha
theorem pow_lt64 {n : Nat} (h : n ≤ 63) : 2 ^ n < 18446744073709551616 := by
  have := Nat.pow_le_pow_right (n := 2) (by omega) h
  have : (2 : Nat) ^ 63 = 9223372036854775808 := by decide
  omega

theorem bits_andNot_nat (a b : Nat) (ha : a < 18446744073709551616) (hb : b < 18446744073709551616) :
    bits .andNot .u64 (a : Int) (b : Int) = ((mB a b : Nat) : Int) := by
  have hx := mB_lt (b := b) ha
  have h1 : (BitVec.ofInt 64 (a : Int)).toNat = a := by
    rw [BitVec.ofInt_natCast, BitVec.toNat_ofNat]; exact Nat.mod_eq_of_lt (by omega)
  have h2 : (BitVec.ofInt 64 (b : Int)).toNat = b := by
    rw [BitVec.ofInt_natCast, BitVec.toNat_ofNat]; exact Nat.mod_eq_of_lt (by omega)
  show IntKind.u64.wrap ((BitVec.ofInt 64 (a : Int) &&& ~~~ BitVec.ofInt 64 (b : Int)).toNat : Int) = _
  rw [BitVec.toNat_and, BitVec.toNat_not, h1, h2, IntKind.wrap_u64]
  have e : (2 ^ 64 - 1 - b) = 18446744073709551615 - b := by omega
  rw [e]
  unfold mB at *
  omega
theorem bits_xor_max (b : Nat) (hb : b < 18446744073709551616) :
    bits .xor .u64 IntKind.u64.max (b : Int) = ((18446744073709551615 - b : Nat) : Int) := by
  have h2 : (BitVec.ofInt 64 (b : Int)).toNat = b := by
    rw [BitVec.ofInt_natCast, BitVec.toNat_ofNat]; exact Nat.mod_eq_of_lt (by omega)
  have h1 : BitVec.ofInt 64 IntKind.u64.max = BitVec.allOnes 64 := by decide
  show IntKind.u64.wrap ((BitVec.ofInt 64 IntKind.u64.max ^^^ BitVec.ofInt 64 (b : Int)).toNat : Int) = _
  rw [h1, BitVec.allOnes_xor, BitVec.toNat_not, h2, IntKind.wrap_u64]
  omega
theorem wrap_nat (a : Nat) (ha : a < 18446744073709551616) : IntKind.u64.wrap (a : Int) = (a : Int) := by
  rw [IntKind.wrap_u64]; omega

/-! ### one bit -/
theorem testBit_pow (n i : Nat) : (2 ^ n).testBit i = decide (n = i) := Nat.testBit_two_pow
theorem and_pow (s n : Nat) : (s &&& 2 ^ n != 0) = s.testBit n := by
  cases h : s.testBit n
  · have : s &&& 2 ^ n = 0 := by
      apply Nat.eq_of_testBit_eq
      intro i
      rw [Nat.testBit_and, testBit_pow, Nat.zero_testBit]
      by_cases e : n = i
      · subst e; simp [h]
      · simp [e]
    simp [this]
  · have : s &&& 2 ^ n ≠ 0 := by
      intro e
      have := congrArg (·.testBit n) e
      simp [Nat.testBit_and, h] at this
    simpa using this
theorem has_div (s n : Nat) : decide (s / 2 ^ n % 2 = 1) = s.testBit n := by
  rw [Nat.testBit_eq_decide_div_mod_eq]
/-- a set and an element that it lacks -/
theorem add_pow (s n : Nat) (h : s.testBit n = false) : s + 2 ^ n = s ||| 2 ^ n := by
  have hm : s % 2 ^ n < 2 ^ n := Nat.mod_lt _ (Nat.two_pow_pos n)
  have hd : s = 2 ^ n * (s / 2 ^ n) + s % 2 ^ n := (Nat.div_add_mod _ _).symm
  have he : s / 2 ^ n % 2 = 0 := by
    rw [Nat.testBit_eq_decide_div_mod_eq] at h
    have := of_decide_eq_false h
    omega
  have ha : s + 2 ^ n = 2 ^ n * (s / 2 ^ n + 1) + s % 2 ^ n := by
    rw [Nat.mul_add, Nat.mul_one]; omega
  apply Nat.eq_of_testBit_eq
  intro j
  rw [ha, Nat.testBit_two_pow_mul_add _ hm, Nat.testBit_or, testBit_pow]
  have hs : s.testBit j = if j < n then (s % 2 ^ n).testBit j else (s / 2 ^ n).testBit (j - n) := by
    conv => lhs; rw [hd]
    rw [Nat.testBit_two_pow_mul_add _ hm]
  rw [hs]
  by_cases hj : j < n
  · simp [hj]; omega
  · simp only [hj, if_false]
    obtain ⟨q, hq⟩ : ∃ q, s / 2 ^ n = 2 * q := ⟨s / 2 ^ n / 2, by omega⟩
    rw [hq]
    by_cases e : n = j
    · subst e; simp [Nat.testBit_zero]
    · obtain ⟨d, hd'⟩ : ∃ d, j - n = d + 1 := ⟨j - n - 1, by omega⟩
      rw [hd', Nat.testBit_succ, Nat.testBit_succ]
      have e1 : (2 * q + 1) / 2 = q := by omega
      have e2 : 2 * q / 2 = q := by omega
      rw [e1, e2]
      simp [e]
/-- a set without one of its elements -/
theorem sub_pow (s n : Nat) (hs : s < 18446744073709551616) (h : s.testBit n = true) : s - 2 ^ n = mB s (2 ^ n) ∧ 2 ^ n ≤ s := by
  have hn := bit_lt hs h
  have hp := pow_lt64 (n := n) (by omega)
  have h0 : (mB s (2 ^ n)).testBit n = false := by rw [testBit_mB _ _ _ hs hp, testBit_pow]; simp
  have h1 := add_pow _ _ h0
  have h2 : mB s (2 ^ n) ||| 2 ^ n = s := by
    apply Nat.eq_of_testBit_eq
    intro i
    rw [Nat.testBit_or, testBit_mB _ _ _ hs hp, testBit_pow]
    by_cases e : n = i
    · subst e; simp [h]
    · simp [e]
  rw [h2] at h1
  omega

/-! ### the elements -/
def lst (s : Nat) : List Nat := (List.range 64).filter fun i => s.testBit i
def card (s : Nat) : Nat := (lst s).length
theorem mem_lst (s i : Nat) : i ∈ lst s ↔ i < 64 ∧ s.testBit i = true := by simp [lst]
theorem mem_lst' {s : Nat} (hs : s < 18446744073709551616) (i : Nat) : i ∈ lst s ↔ s.testBit i = true := by
  rw [mem_lst]
  exact ⟨fun h => h.2, fun h => ⟨bit_lt hs h, h⟩⟩
theorem lst_sorted (s : Nat) : (lst s).Pairwise (· < ·) := List.Pairwise.filter _ List.pairwise_lt_range
theorem card_le (s : Nat) : card s ≤ 64 := by
  have := List.length_filter_le (fun i => s.testBit i) (List.range 64)
  simpa [card, lst] using this
theorem sorted_ext {α : Type} (lt : α → α → Prop) (asym : ∀ a b, lt a b → ¬ lt b a) :
    ∀ (xs ys : List α), xs.Pairwise lt → ys.Pairwise lt → (∀ x, x ∈ xs ↔ x ∈ ys) → xs = ys
  | [], [], _, _, _ => rfl
  | [], y :: ys, _, _, h => by have := (h y).2 (by simp); cases this
  | x :: xs, [], _, _, h => by have := (h x).1 (by simp); cases this
  | x :: xs, y :: ys, hx, hy, h => by
    rw [List.pairwise_cons] at hx hy
    have e : x = y := by
      rcases List.mem_cons.1 ((h x).1 (by simp)) with e | m1
      · exact e
      · rcases List.mem_cons.1 ((h y).2 (by simp)) with e | m2
        · exact e.symm
        · exact absurd (hy.1 x m1) (asym _ _ (hx.1 y m2))
    subst e
    have hn : ∀ (zs : List α), (∀ z ∈ zs, lt x z) → x ∉ zs := fun zs hz hm => asym _ _ (hz x hm) (hz x hm)
    rw [sorted_ext lt asym xs ys hx.2 hy.2 (fun z => ?_)]
    have := h z
    simp only [List.mem_cons] at this
    constructor
    · intro hz
      rcases this.1 (.inr hz) with e | m
      · subst e; exact absurd hz (hn xs hx.1)
      · exact m
    · intro hz
      rcases this.2 (.inr hz) with e | m
      · subst e; exact absurd hz (hn ys hy.1)
      · exact m
theorem lst_ext {xs ys : List Nat} (hx : xs.Pairwise (· < ·)) (hy : ys.Pairwise (· < ·)) (h : ∀ x, x ∈ xs ↔ x ∈ ys) : xs = ys :=
  sorted_ext (· < ·) (fun a b h1 h2 => by omega) xs ys hx hy h
theorem eq_of_lst {a b : Nat} (ha : a < 18446744073709551616) (hb : b < 18446744073709551616) (h : ∀ i, i < 64 → a.testBit i = b.testBit i) : a = b := by
  apply Nat.eq_of_testBit_eq
  intro i
  by_cases hi : i < 64
  · exact h i hi
  · rw [high_bit ha (by omega), high_bit hb (by omega)]

/-- the least element, and the set without it -/
theorem low_spec {x : Nat} (h0 : x ≠ 0) (hx : x < 18446744073709551616) :
    Lib.ctz 64 x < 64 ∧ x.testBit (Lib.ctz 64 x) = true ∧ (∀ j, j < Lib.ctz 64 x → x.testBit j = false) ∧
    ∀ j, (x &&& (x - 1)).testBit j = (x.testBit j && decide (j ≠ Lib.ctz 64 x)) := by
  unfold Lib.ctz
  rw [if_neg h0]
  obtain ⟨m, hm, hk⟩ := Lib.ctzFrom_spec 64 x (by omega) (by omega)
  generalize Lib.ctzFrom 64 x = k at *
  have hp := Nat.two_pow_pos k
  have hb : ∀ j, x.testBit j = (decide (k ≤ j) && (2 * m + 1).testBit (j - k)) := fun j => by
    rw [hm, Nat.testBit_two_pow_mul]
  have h1 : x - 1 = 2 ^ k * (2 * m) + (2 ^ k - 1) := by
    rw [hm, Nat.mul_add, Nat.mul_one]; omega
  refine ⟨hk, ?_, fun j hj => ?_, fun j => ?_⟩
  · rw [hb]; simp [Nat.testBit_zero]
  · rw [hb]; simp; omega
  · rw [Nat.testBit_and, h1, Nat.testBit_two_pow_mul_add _ (by omega), hb]
    by_cases hj : j < k
    · have : ¬ k ≤ j := by omega
      simp [this]
    · by_cases e : j = k
      · subst e; simp
      · obtain ⟨d, hd⟩ : ∃ d, j - k = d + 1 := ⟨j - k - 1, by omega⟩
        have e1 : (2 * m + 1) / 2 = m := by omega
        have e2 : 2 * m / 2 = m := by omega
        simp only [hj, if_false, hd, Nat.testBit_succ, e1, e2]
        simp [e]
theorem lst_low {x : Nat} (h0 : x ≠ 0) (hx : x < 18446744073709551616) : lst x = Lib.ctz 64 x :: lst (x &&& (x - 1)) := by
  obtain ⟨h1, h2, h3, h4⟩ := low_spec h0 hx
  refine lst_ext (lst_sorted _) (List.pairwise_cons.2 ⟨fun j hj => ?_, lst_sorted _⟩) fun i => ?_
  · rw [mem_lst, h4] at hj
    have hj2 := hj.2
    rw [Bool.and_eq_true] at hj2
    have hne := of_decide_eq_true hj2.2
    rcases Nat.lt_trichotomy j (Lib.ctz 64 x) with h | h | h
    · rw [h3 j h] at hj2; cases hj2.1
    · exact absurd h hne
    · exact h
  · rw [List.mem_cons, mem_lst, mem_lst, h4, Bool.and_eq_true]
    constructor
    · rintro ⟨a, b⟩
      by_cases e : i = Lib.ctz 64 x
      · exact .inl e
      · exact .inr ⟨a, b, by simpa using e⟩
    · rintro (e | ⟨a, b, _⟩)
      · subst e; exact ⟨h1, h2⟩
      · exact ⟨a, b⟩
theorem lst_zero : lst 0 = [] := by simp [lst]
theorem lst_nil {s : Nat} (hs : s < 18446744073709551616) (h : lst s = []) : s = 0 := by
  by_cases h0 : s = 0
  · exact h0
  · rw [lst_low h0 hs] at h; cases h

/-! ### subsets -/
def subV (a b : Nat) : Bool := mB a b == 0
theorem sub_iff {a b : Nat} (ha : a < 18446744073709551616) (hb : b < 18446744073709551616) : subV a b = true ↔ ∀ i, a.testBit i = true → b.testBit i = true := by
  unfold subV
  rw [beq_iff_eq]
  constructor
  · intro h i hi
    have := congrArg (·.testBit i) h
    simp only [testBit_mB _ _ _ ha hb, Nat.zero_testBit, hi, Bool.true_and, Bool.not_eq_false'] at this
    exact this
  · intro h
    apply Nat.eq_of_testBit_eq
    intro i
    rw [testBit_mB _ _ _ ha hb, Nat.zero_testBit]
    cases e : a.testBit i
    · rfl
    · rw [h i e]; rfl
theorem sub_all {a b : Nat} (ha : a < 18446744073709551616) (hb : b < 18446744073709551616) : (lst a).all (fun i => b.testBit i) = subV a b := by
  rw [Bool.eq_iff_iff, sub_iff ha hb, List.all_eq_true]
  exact ⟨fun h i hi => h i ((mem_lst' ha i).2 hi), fun h i hi => h i ((mem_lst' ha i).1 hi)⟩
theorem sub_refl {a : Nat} (ha : a < 18446744073709551616) : subV a a = true := (sub_iff ha ha).2 fun _ h => h
theorem sub_trans {a b c : Nat} (ha : a < 18446744073709551616) (hb : b < 18446744073709551616) (hc : c < 18446744073709551616) (h1 : subV a b = true) (h2 : subV b c = true) : subV a c = true :=
  (sub_iff ha hc).2 fun i hi => (sub_iff hb hc).1 h2 i ((sub_iff ha hb).1 h1 i hi)
theorem sub_antisymm {a b : Nat} (ha : a < 18446744073709551616) (hb : b < 18446744073709551616) (h1 : subV a b = true) (h2 : subV b a = true) : a = b := by
  apply Nat.eq_of_testBit_eq
  intro i
  rw [Bool.eq_iff_iff]
  exact ⟨(sub_iff ha hb).1 h1 i, (sub_iff hb ha).1 h2 i⟩
theorem card_lt {a b : Nat} (ha : a < 18446744073709551616) (hb : b < 18446744073709551616) (h : subV a b = true) (hne : a ≠ b) : card a < card b := by
  have h' := (sub_iff ha hb).1 h
  have e : lst a = (lst b).filter (fun i => a.testBit i) := by
    refine lst_ext (lst_sorted _) ((lst_sorted _).filter _) fun i => ?_
    rw [List.mem_filter, mem_lst' ha, mem_lst' hb]
    exact ⟨fun h => ⟨h' i h, h⟩, fun h => h.2⟩
  unfold card
  rw [e, List.length_filter_lt_length_iff_exists]
  refine Classical.byContradiction fun hno => hne (sub_antisymm ha hb h ((sub_iff hb ha).2 fun i hi => ?_))
  refine Classical.byContradiction fun hn => hno ⟨i, (mem_lst' hb i).2 hi, hn⟩

/-! ### popcount -/
def ds (j : Nat) : Nat → Nat → Nat
  | 0, _ => 0
  | n + 1, x => x % 2 ^ j + ds j n (x / 2 ^ j)
theorem ds_card : ∀ (n x : Nat), ds 1 n x = ((List.range n).filter fun i => x.testBit i).length
  | 0, _ => rfl
  | n + 1, x => by
    unfold ds
    rw [ds_card n, List.range_succ_eq_map, List.filter_cons]
    have h0 : x.testBit 0 = decide (x % 2 = 1) := Nat.testBit_zero x
    have hm : ((List.map Nat.succ (List.range n)).filter fun i => x.testBit i).length = ((List.range n).filter fun i => (x / 2 ^ 1).testBit i).length := by
      rw [List.filter_map, List.length_map]
      congr 1
      congr 1
      funext i
      show x.testBit (i + 1) = _
      rw [Nat.testBit_succ]
    rcases Nat.mod_two_eq_zero_or_one x with h | h
    · rw [h0, h, if_neg (by decide), hm]; simp
    · rw [h0, h, if_pos (by decide), List.length_cons, hm]; simp; omega
theorem and_split (j a b c d : Nat) (ha : a < 2 ^ j) (hc : c < 2 ^ j) : (2 ^ j * b + a) &&& (2 ^ j * d + c) = 2 ^ j * (b &&& d) + (a &&& c) := by
  apply Nat.eq_of_testBit_eq
  intro i
  rw [Nat.testBit_and, Nat.testBit_two_pow_mul_add _ ha, Nat.testBit_two_pow_mul_add _ hc, Nat.testBit_two_pow_mul_add _ (Nat.lt_of_le_of_lt Nat.and_le_left ha)]
  by_cases h : i < j <;> simp [h]
/-- the mask: n fields of 2 k bits, the low half of each -/
def mask (k : Nat) : Nat → Nat
  | 0 => 0
  | n + 1 => 2 ^ (2 * k) * mask k n + (2 ^ k - 1)
def fold2 (k n x : Nat) : Nat := (x / 2 ^ k &&& mask k n) + (x &&& mask k n)
theorem and_low (a k : Nat) : a &&& (2 ^ k - 1) = a % 2 ^ k := Nat.and_two_pow_sub_one_eq_mod a k
theorem halves (k x : Nat) : x / 2 ^ k = 2 ^ (2 * k) * (x / 2 ^ (2 * k) / 2 ^ k) + (2 ^ k * (x / 2 ^ (2 * k) % 2 ^ k) + x % 2 ^ (2 * k) / 2 ^ k) ∧
    2 ^ k * (x / 2 ^ (2 * k) % 2 ^ k) + x % 2 ^ (2 * k) / 2 ^ k < 2 ^ (2 * k) := by
  have e : 2 ^ (2 * k) = 2 ^ k * 2 ^ k := by rw [Nat.two_mul, Nat.pow_add]
  have hp := Nat.two_pow_pos k
  rw [e]
  generalize 2 ^ k = p at *
  have h1 : x = p * p * (x / (p * p)) + x % (p * p) := (Nat.div_add_mod _ _).symm
  have h2 : x / (p * p) = p * (x / (p * p) / p) + x / (p * p) % p := (Nat.div_add_mod _ _).symm
  have h3 : x % (p * p) / p < p := Nat.div_lt_of_lt_mul (Nat.mod_lt _ (Nat.mul_pos hp hp))
  have h4 : x / (p * p) % p < p := Nat.mod_lt _ hp
  generalize x / (p * p) / p = u at *
  generalize x / (p * p) % p = v at *
  constructor
  · have : x / p = p * (x / (p * p)) + x % (p * p) / p := by
      conv => lhs; rw [h1]
      rw [Nat.mul_assoc, Nat.mul_add_div hp]
    rw [this, h2, Nat.mul_add, Nat.mul_assoc, Nat.add_assoc]
  · have : p * v + p ≤ p * p := by
      rw [← Nat.mul_succ]; exact Nat.mul_le_mul_left p h4
    omega
theorem fold2_succ (k n x : Nat) : fold2 k (n + 1) x = 2 ^ (2 * k) * fold2 k n (x / 2 ^ (2 * k)) + (x % 2 ^ (2 * k) / 2 ^ k + x % 2 ^ k) := by
  have hp := Nat.two_pow_pos k
  have e : 2 ^ (2 * k) = 2 ^ k * 2 ^ k := by rw [Nat.two_mul, Nat.pow_add]
  have hlt : 2 ^ k - 1 < 2 ^ (2 * k) := by rw [e]; have := Nat.le_mul_of_pos_left (2 ^ k) hp; omega
  obtain ⟨h1, h2⟩ := halves k x
  have h3 : x = 2 ^ (2 * k) * (x / 2 ^ (2 * k)) + x % 2 ^ (2 * k) := (Nat.div_add_mod _ _).symm
  have a1 : x / 2 ^ k &&& mask k (n + 1) = 2 ^ (2 * k) * (x / 2 ^ (2 * k) / 2 ^ k &&& mask k n) + x % 2 ^ (2 * k) / 2 ^ k := by
    show x / 2 ^ k &&& (2 ^ (2 * k) * mask k n + (2 ^ k - 1)) = _
    rw [h1, and_split _ _ _ _ _ h2 hlt, and_low, Nat.mul_add_mod]
    rw [Nat.mod_eq_of_lt (a := x % 2 ^ (2 * k) / 2 ^ k)]
    rw [e]
    exact Nat.div_lt_of_lt_mul (Nat.mod_lt _ (Nat.mul_pos hp hp))
  have a2 : x &&& mask k (n + 1) = 2 ^ (2 * k) * (x / 2 ^ (2 * k) &&& mask k n) + x % 2 ^ k := by
    show x &&& (2 ^ (2 * k) * mask k n + (2 ^ k - 1)) = _
    conv => lhs; rw [h3]
    rw [and_split _ _ _ _ _ (Nat.mod_lt _ (Nat.two_pow_pos _)) hlt, and_low, e, Nat.mod_mul_right_mod]
  unfold fold2
  rw [a1, a2, Nat.mul_add]
  omega
theorem ds_fold2 (k : Nat) (hk : 1 ≤ k) : ∀ (n x : Nat), ds (2 * k) n (fold2 k n x) = ds k (2 * n) x
  | 0, _ => rfl
  | n + 1, x => by
    have hp := Nat.two_pow_pos k
    have e : 2 ^ (2 * k) = 2 ^ k * 2 ^ k := by rw [Nat.two_mul, Nat.pow_add]
    have h2 : 2 ≤ 2 ^ k := by have := Nat.pow_le_pow_right (n := 2) (by omega) hk; simpa using this
    have l1 : x % 2 ^ (2 * k) / 2 ^ k < 2 ^ k := by rw [e]; exact Nat.div_lt_of_lt_mul (Nat.mod_lt _ (Nat.mul_pos hp hp))
    have l2 : x % 2 ^ k < 2 ^ k := Nat.mod_lt _ hp
    have l4 : 2 * 2 ^ k ≤ 2 ^ (2 * k) := by rw [e]; exact Nat.mul_le_mul_right (2 ^ k) h2
    have l3 : x % 2 ^ (2 * k) / 2 ^ k + x % 2 ^ k < 2 ^ (2 * k) := by omega
    have hm : x % 2 ^ (2 * k) / 2 ^ k = x / 2 ^ k % 2 ^ k := by rw [e, Nat.mod_mul_right_div_self]
    rw [fold2_succ]
    show _ % 2 ^ (2 * k) + ds (2 * k) n (_ / 2 ^ (2 * k)) = ds k (2 * n + 1 + 1) x
    rw [Nat.mul_add_mod, Nat.mod_eq_of_lt l3, Nat.mul_add_div (Nat.two_pow_pos _), Nat.div_eq_of_lt l3, Nat.add_zero, ds_fold2 k hk n, hm]
    show _ = x % 2 ^ k + (x / 2 ^ k % 2 ^ k + ds k (2 * n) (x / 2 ^ k / 2 ^ k))
    rw [Nat.div_div_eq_div_mul, ← e]
    omega
/-- every field of 4 bits is at most 6 -/
def le6 : Nat → Nat → Prop
  | 0, _ => True
  | n + 1, x => x % 16 ≤ 6 ∧ le6 n (x / 16)
theorem le6_fold2 : ∀ (n x : Nat), le6 n (fold2 2 n x)
  | 0, _ => trivial
  | n + 1, x => by
    have h := fold2_succ 2 n x
    simp only [Nat.reduceMul, Nat.reducePow] at h
    have ht : x % 16 / 4 + x % 4 ≤ 6 := by omega
    have hl : x % 16 / 4 + x % 4 < 16 := by omega
    refine ⟨by rw [h, Nat.mul_add_mod, Nat.mod_eq_of_lt hl]; exact ht, ?_⟩
    have : fold2 2 (n + 1) x / 16 = fold2 2 n (x / 16) := by rw [h, Nat.mul_add_div (by omega), Nat.div_eq_of_lt hl, Nat.add_zero]
    rw [this]
    exact le6_fold2 n _
def byteF (n x : Nat) : Nat := (x / 16 + x) &&& mask 4 n
theorem byteF_succ (n x : Nat) (h1 : x % 16 ≤ 6) (h2 : x / 16 % 16 ≤ 6) (h3 : x / 256 % 16 ≤ 6) :
    byteF (n + 1) x = 256 * byteF n (x / 256) + (x / 16 % 16 + x % 16) := by
  have e : x / 16 + x = 2 ^ 8 * (x / 256 / 16 + x / 256) + (16 * (x / 256 % 16) + x % 256 / 16 + x % 256) := by omega
  unfold byteF
  show x / 16 + x &&& (2 ^ 8 * mask 4 n + (2 ^ 4 - 1)) = _
  rw [e, and_split 8 _ _ _ _ (by omega) (by decide), and_low]
  omega
theorem ds_byteF : ∀ (n x : Nat), le6 (2 * n) x → (n = 0 ∨ x / 16 ^ (2 * n) = 0) → ds 8 n (byteF n x) = ds 4 (2 * n) x
  | 0, _, _, _ => rfl
  | n + 1, x, h, hz => by
    have h0 : le6 (2 * n + 1 + 1) x := h
    obtain ⟨h1, h2, h3⟩ := h0
    have e1 : x / 16 / 16 = x / 256 := by omega
    rw [e1] at h3
    have h4 : x / 256 % 16 ≤ 6 := by
      cases n with
      | zero =>
        rcases hz with hz | hz
        · cases hz
        · simp at hz; omega
      | succ n => exact (show le6 (2 * n + 1 + 1) _ from h3).1
    have hz' : n = 0 ∨ x / 256 / 16 ^ (2 * n) = 0 := by
      rcases hz with hz | hz
      · cases hz
      · right
        rw [Nat.div_div_eq_div_mul]
        have : 256 * 16 ^ (2 * n) = 16 ^ (2 * (n + 1)) := by rw [Nat.mul_add, Nat.pow_add, Nat.mul_comm]
        rw [this]; exact hz
    rw [byteF_succ n x h1 h2 h4]
    show _ % 2 ^ 8 + ds 8 n (_ / 2 ^ 8) = x % 2 ^ 4 + (x / 2 ^ 4 % 2 ^ 4 + ds 4 (2 * n) (x / 2 ^ 4 / 2 ^ 4))
    have d1 : (256 * byteF n (x / 256) + (x / 16 % 16 + x % 16)) / 2 ^ 8 = byteF n (x / 256) := by omega
    have d2 : (256 * byteF n (x / 256) + (x / 16 % 16 + x % 16)) % 2 ^ 8 = x / 16 % 16 + x % 16 := by omega
    have d3 : x / 2 ^ 4 / 2 ^ 4 = x / 256 := by omega
    rw [d1, d2, ds_byteF n _ h3 hz', d3]
    omega
def x1 (s : Nat) : Nat := (s / 2 &&& 6148914691236517205) + (s &&& 6148914691236517205)
def x2 (s : Nat) : Nat := (x1 s / 4 &&& 3689348814741910323) + (x1 s &&& 3689348814741910323)
def x3 (s : Nat) : Nat := (x2 s / 16 + x2 s) &&& 1085102592571150095
def x4 (s : Nat) : Nat := x3 s + x3 s / 256
def x5 (s : Nat) : Nat := x4 s + x4 s / 65536
def x6 (s : Nat) : Nat := x5 s + x5 s / 4294967296
theorem x1_le (s : Nat) : x1 s ≤ 12297829382473034410 := by
  have h1 : s / 2 &&& 6148914691236517205 ≤ 6148914691236517205 := Nat.and_le_right
  have h2 : s &&& 6148914691236517205 ≤ 6148914691236517205 := Nat.and_le_right
  unfold x1; omega
theorem x2_le (s : Nat) : x2 s ≤ 7378697629483820646 := by
  have h1 : x1 s / 4 &&& 3689348814741910323 ≤ 3689348814741910323 := Nat.and_le_right
  have h2 : x1 s &&& 3689348814741910323 ≤ 3689348814741910323 := Nat.and_le_right
  unfold x2; omega
theorem x3_le (s : Nat) : x3 s ≤ 1085102592571150095 := Nat.and_le_right
theorem ds_x3 (s : Nat) : ds 8 8 (x3 s) = card s := by
  have m0 : mask 1 32 = 6148914691236517205 := by decide +kernel
  have m1 : mask 2 16 = 3689348814741910323 := by decide +kernel
  have m2 : mask 4 8 = 1085102592571150095 := by decide +kernel
  have f1 : fold2 1 32 s = x1 s := by unfold fold2 x1; rw [m0]
  have f2 : fold2 2 16 (x1 s) = x2 s := by unfold fold2; unfold x2; rw [m1]
  have f3 : byteF 8 (x2 s) = x3 s := by unfold byteF x3; rw [m2]
  have g1 := ds_fold2 1 (by omega) 32 s
  have g2 := ds_fold2 2 (by omega) 16 (x1 s)
  have g3 := le6_fold2 16 (x1 s)
  rw [f1] at g1
  rw [f2] at g2 g3
  have g4 := ds_byteF 8 (x2 s) g3 (.inr (Nat.div_eq_of_lt (by have := x2_le s; have e : (16 : Nat) ^ (2 * 8) = 18446744073709551616 := by decide
                                                              omega)))
  rw [f3] at g4
  have g5 := ds_card 64 s
  show ds 8 8 (x3 s) = ((List.range 64).filter fun i => s.testBit i).length
  rw [g4, ← g5]
  show ds (2 * 2) 16 (x2 s) = _
  rw [g2]
  show ds (2 * 1) 32 (x1 s) = _
  rw [g1]
theorem sum_bytes (x b0 b1 b2 b3 b4 b5 b6 b7 q1 q2 q3 q4 q5 q6 q7 y z : Nat) (h0 : x = b0 + 256 * q1) (h1 : q1 = b1 + 256 * q2) (h2 : q2 = b2 + 256 * q3) (h3 : q3 = b3 + 256 * q4)
    (h4 : q4 = b4 + 256 * q5) (h5 : q5 = b5 + 256 * q6) (h6 : q6 = b6 + 256 * q7) (h7 : q7 = b7)
    (l0 : b0 ≤ 15) (l1 : b1 ≤ 15) (l2 : b2 ≤ 15) (l3 : b3 ≤ 15) (l4 : b4 ≤ 15) (l5 : b5 ≤ 15) (l6 : b6 ≤ 15) (l7 : b7 ≤ 15)
    (hy : y = x + x / 256) (hz : z = y + y / 65536) : (z + z / 4294967296) % 128 = (b0 + b1 + b2 + b3 + b4 + b5 + b6 + b7) % 128 := by
  have e1 : x / 256 = q1 := by omega
  have e2 : y = (b0 + b1) + 256 * (b1 + b2) + 65536 * (q2 + q3) - 256 * b2 + 256 * b2 := by omega
  have e3 : y / 65536 = q2 + q3 := by omega
  have e4 : z = (b0 + b1 + b2 + b3) + 256 * (b1 + b2 + b3 + b4) + 65536 * (b2 + b3 + b4 + b5) + 16777216 * (b3 + b4 + b5 + b6) + 4294967296 * (q4 + q5 + q6 + q7) := by omega
  have e5 : z / 4294967296 = q4 + q5 + q6 + q7 := by omega
  rw [e5, e4]
  omega
theorem byte15 : ∀ (n y j : Nat), j < n → (y &&& mask 4 n) / 256 ^ j % 256 ≤ 15
  | 0, _, _, h => absurd h (by omega)
  | n + 1, y, j, h => by
    have e : y = 2 ^ 8 * (y / 256) + y % 256 := by omega
    have hs : y &&& mask 4 (n + 1) = 256 * (y / 256 &&& mask 4 n) + y % 256 % 16 := by
      show y &&& (2 ^ 8 * mask 4 n + (2 ^ 4 - 1)) = _
      conv => lhs; rw [e]
      rw [and_split 8 _ _ _ _ (by omega) (by decide), and_low]
    rw [hs]
    cases j with
    | zero => rw [Nat.pow_zero, Nat.div_one]; omega
    | succ j =>
      have hd : (256 * (y / 256 &&& mask 4 n) + y % 256 % 16) / 256 = y / 256 &&& mask 4 n := by omega
      rw [Nat.pow_succ', ← Nat.div_div_eq_div_mul, hd]
      exact byte15 n _ j (by omega)
theorem pop_card (s : Nat) : x6 s % 128 = card s := by
  have hd := ds_x3 s
  have hc := card_le s
  have hl := x3_le s
  have m2 : mask 4 8 = 1085102592571150095 := by decide +kernel
  have hb := byte15 8 (x2 s / 16 + x2 s)
  rw [m2] at hb
  have hb : ∀ j, j < 8 → x3 s / 256 ^ j % 256 ≤ 15 := hb
  have k0 := hb 0 (by omega)
  have k1 := hb 1 (by omega)
  have k2 := hb 2 (by omega)
  have k3 := hb 3 (by omega)
  have k4 := hb 4 (by omega)
  have k5 := hb 5 (by omega)
  have k6 := hb 6 (by omega)
  have k7 := hb 7 (by omega)
  simp only [Nat.reducePow, Nat.div_one] at k0 k1 k2 k3 k4 k5 k6 k7
  simp only [ds, Nat.reducePow, Nat.div_div_eq_div_mul, Nat.reduceMul, Nat.add_zero] at hd
  show (x5 s + x5 s / 4294967296) % 128 = card s
  have := sum_bytes (x3 s) (q1 := x3 s / 256) (q2 := x3 s / 65536) (q3 := x3 s / 16777216) (q4 := x3 s / 4294967296) (q5 := x3 s / 1099511627776) (q6 := x3 s / 281474976710656) (q7 := x3 s / 72057594037927936) (y := x4 s) (z := x5 s)
    (b0 := x3 s % 256) (b1 := x3 s / 256 % 256) (b2 := x3 s / 65536 % 256) (b3 := x3 s / 16777216 % 256) (b4 := x3 s / 4294967296 % 256) (b5 := x3 s / 1099511627776 % 256) (b6 := x3 s / 281474976710656 % 256) (b7 := x3 s / 72057594037927936 % 256)
    (by omega) (by omega) (by omega) (by omega) (by omega) (by omega) (by omega) (by omega) k0 k1 k2 k3 k4 k5 k6 k7 rfl rfl
  rw [this]
  omega
end Go.Proofs.Ythcbcgaekbmoaaa.Bt
