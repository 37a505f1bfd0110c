/- Plain facts for the independent laws on vectors: no program in sight. -/
import Derived.Test.YtcihdecfganohaaVMath
namespace Go.Proofs.Ytcihdecfganohaa
open Go.RowKit

def smallV (a : List Int) : Bool := decide (a.length ≤ 20) && (List.range a.length).all fun k => decide (-1048576 ≤ at0 a k ∧ at0 a k ≤ 1048576)
theorem smallV_long {a : List Int} (h : 20 < a.length) : smallV a = false := by
  have : ¬ a.length ≤ 20 := by omega
  simp [smallV, this]
theorem smallV_no {a : List Int} (k : Nat) (hk : k < a.length) (h : at0 a k < -1048576 ∨ 1048576 < at0 a k) : smallV a = false := by
  unfold smallV
  rw [Bool.and_eq_false_iff]
  right
  rw [List.all_eq_false]
  exact ⟨k, List.mem_range.2 hk, by simp; omega⟩
theorem smallV_yes {a : List Int} (hl : a.length ≤ 20) (h : ∀ k, k < a.length → -1048576 ≤ at0 a k ∧ at0 a k ≤ 1048576) : smallV a = true := by
  unfold smallV
  rw [Bool.and_eq_true, decide_eq_true_eq, List.all_eq_true]
  refine ⟨hl, fun k hk => ?_⟩
  simpa using h k (List.mem_range.1 hk)
theorem smallV_len {a : List Int} (h : smallV a = true) : a.length ≤ 20 := by
  unfold smallV at h
  rw [Bool.and_eq_true, decide_eq_true_eq] at h
  exact h.1
theorem smallV_at {a : List Int} (h : smallV a = true) (k : Nat) : -1048576 ≤ at0 a k ∧ at0 a k ≤ 1048576 := by
  unfold smallV at h
  rw [Bool.and_eq_true, List.all_eq_true] at h
  by_cases hk : k < a.length
  · simpa using h.2 k (List.mem_range.2 hk)
  · unfold at0
    rw [List.getElem?_eq_none (by omega)]
    simp

theorem map_at {n : Nat} (f : Nat → Int) (k : Nat) (hk : k < n) : at0 ((List.range n).map f) k = f k := by
  unfold at0
  simp [hk]
theorem map_at_out {n : Nat} (f : Nat → Int) (k : Nat) (hk : n ≤ k) : at0 ((List.range n).map f) k = 0 := by
  unfold at0
  simp [hk]
theorem fitE {x : Int} (h1 : -9223372036854775808 ≤ x) (h2 : x ≤ 9223372036854775807) : (fitV x, fits x) = (x, true) := by rw [fitV_yes h1 h2, fits_yes h1 h2]
/-- where each element is at hand -/
theorem trF_is {n : Nat} {el : Nat → Int × Bool} (f : Nat → Int) (h : ∀ k, k < n → el k = (f k, true)) : trF n el = ((List.range n).map f, 0) := by
  rw [trF_yes (fun k hk => by rw [h k hk])]
  congr 1
  refine List.map_congr_left fun k hk => ?_
  rw [h k (List.mem_range.1 hk)]
theorem in64_map {n : Nat} (f : Nat → Int) (h : ∀ k, k < n → -9223372036854775808 ≤ f k ∧ f k ≤ 9223372036854775807) : In64 ((List.range n).map f) := by
  intro x hx
  obtain ⟨k, hk, rfl⟩ := List.mem_map.1 hx
  exact h k (List.mem_range.1 hk)
theorem cmbP_is {p q : Int} (p1 : -1000000000000000 ≤ p) (p2 : p ≤ 1000000000000000) (q1 : -1000000000000000 ≤ q) (q2 : q ≤ 1000000000000000) : cmbP p q = (p + q, true) := by
  unfold cmbP
  rw [fits_yes (by omega) (by omega), fits_yes (by omega) (by omega), fitE (by omega) (by omega)]
  rfl

/-- the product of two numbers that are not great -/
theorem mul_le (x y : Int) (m n : Nat) (hx : x.natAbs ≤ m) (hy : y.natAbs ≤ n) : (x * y).natAbs ≤ m * n := by
  rw [Int.natAbs_mul]
  exact Nat.mul_le_mul hx hy
theorem dotS_le (a b : List Int) (m : Nat) (h : ∀ k, (at0 a k * at0 b k).natAbs ≤ m) : ∀ k, (dotS a b k).natAbs ≤ k * m
  | 0 => by simp [dotS]
  | k + 1 => by
    have ih := dotS_le a b m h k
    have h1 := h k
    have h2 : (k + 1) * m = k * m + m := Nat.succ_mul k m
    show (dotS a b k + at0 a k * at0 b k).natAbs ≤ _
    omega
theorem dotV_is {a b : List Int} (hl : a.length = b.length) (hn : a.length ≤ 20) (m : Nat) (hm : m ≤ 100000000000000) (h : ∀ k, (at0 a k * at0 b k).natAbs ≤ m) : dotV a b = (dotS a b a.length, 0) := by
  refine dotV_yes hl fun k hk => ?_
  have h1 := h k
  have h2 := dotS_le a b m h (k + 1)
  have h3 : (k + 1) * m ≤ 20 * 100000000000000 := Nat.mul_le_mul (by omega) hm
  unfold dotO
  rw [fits_yes (by omega) (by omega), fits_yes (by omega) (by omega)]
  rfl
theorem dotS_comm (a b : List Int) : ∀ k, dotS a b k = dotS b a k
  | 0 => rfl
  | k + 1 => by
    show dotS a b k + _ = dotS b a k + _
    rw [dotS_comm a b k, Int.mul_comm]
theorem dotS_lin (a b c : List Int) (n : Nat) : ∀ k, k ≤ n → dotS ((List.range n).map fun k => 3 * at0 a k + -2 * at0 b k) c k = 3 * dotS a c k - 2 * dotS c b k
  | 0, _ => by simp [dotS]
  | k + 1, hk => by
    show dotS _ c k + _ = 3 * (dotS a c k + _) - 2 * (dotS c b k + _)
    rw [dotS_lin a b c n k (by omega), map_at _ k (by omega)]
    rw [Int.mul_add 3, Int.mul_add 2, Int.add_mul, Int.mul_assoc, Int.mul_assoc, Int.mul_comm (at0 c k) (at0 b k)]
    omega
/-- all that the linear law compares -/
theorem lin_facts {a b c : List Int} (sa : smallV a = true) (sb : smallV b = true) (sc : smallV c = true) (hb : a.length = b.length) (hc : a.length = c.length) :
    ∃ (L : List Int) (y z : Int), cmbV a 3 b (-2) = (L, 0) ∧ L.length = a.length ∧ In64 L ∧ dotV L c = (3 * y - 2 * z, 0) ∧ dotV a c = (y, 0) ∧ dotV c b = (z, 0) ∧ dotV c a = (y, 0) ∧
      -100000000000000000 ≤ y ∧ y ≤ 100000000000000000 ∧ -100000000000000000 ≤ z ∧ z ≤ 100000000000000000 := by
  have ha20 := smallV_len sa
  have hL : cmbV a 3 b (-2) = ((List.range a.length).map fun k => 3 * at0 a k + -2 * at0 b k, 0) := by
    unfold cmbV pairF
    rw [if_pos hb]
    refine trF_is _ fun k _ => ?_
    have h1 := smallV_at sa k
    have h2 := smallV_at sb k
    exact cmbP_is (by omega) (by omega) (by omega) (by omega)
  have e1 : dotV a c = (dotS a c a.length, 0) := dotV_is hc ha20 (1048576 * 1048576) (by omega) fun k => mul_le _ _ _ _ (by have := smallV_at sa k; omega) (by have := smallV_at sc k; omega)
  have e2 : dotV c b = (dotS c b a.length, 0) := by
    rw [hc]
    exact dotV_is (by omega) (by omega) (1048576 * 1048576) (by omega) fun k => mul_le _ _ _ _ (by have := smallV_at sc k; omega) (by have := smallV_at sb k; omega)
  have e3 : dotV c a = (dotS a c a.length, 0) := by
    rw [dotS_comm, hc]
    exact dotV_is (by omega) (by omega) (1048576 * 1048576) (by omega) fun k => mul_le _ _ _ _ (by have := smallV_at sc k; omega) (by have := smallV_at sa k; omega)
  have e4 : dotV ((List.range a.length).map fun k => 3 * at0 a k + -2 * at0 b k) c = (3 * dotS a c a.length - 2 * dotS c b a.length, 0) := by
    rw [dotV_is (by simpa using hc) (by simpa using ha20) (5242880 * 1048576) (by omega) fun k => ?_]
    · rw [List.length_map, List.length_range, dotS_lin a b c a.length a.length (Nat.le_refl _)]
    · refine mul_le _ _ _ _ ?_ (by have := smallV_at sc k; omega)
      by_cases hk : k < a.length
      · rw [map_at _ k hk]
        have h1 := smallV_at sa k
        have h2 := smallV_at sb k
        omega
      · rw [map_at_out _ k (by omega)]
        simp
  have b1 := dotS_le a c (1048576 * 1048576) (fun k => mul_le _ _ _ _ (by have := smallV_at sa k; omega) (by have := smallV_at sc k; omega)) a.length
  have b2 := dotS_le c b (1048576 * 1048576) (fun k => mul_le _ _ _ _ (by have := smallV_at sc k; omega) (by have := smallV_at sb k; omega)) a.length
  have b3 : a.length * (1048576 * 1048576) ≤ 20 * (1048576 * 1048576) := Nat.mul_le_mul_right _ ha20
  refine ⟨_, _, _, hL, by simp, in64_map _ fun k _ => ?_, e4, e1, e2, e3, by omega, by omega, by omega, by omega⟩
  have h1 := smallV_at sa k
  have h2 := smallV_at sb k
  omega

/-- comparison by the first difference is a total order -/
theorem cmpL_cases : ∀ a b : List Int, cmpL a b = -1 ∨ cmpL a b = 0 ∨ cmpL a b = 1
  | [], [] => .inr (.inl rfl)
  | [], _ :: _ => .inl rfl
  | _ :: _, [] => .inr (.inr rfl)
  | x :: a, y :: b => by
    unfold cmpL
    split
    · exact .inl rfl
    · split
      · exact .inr (.inr rfl)
      · exact cmpL_cases a b
theorem cmpL_neg : ∀ a b : List Int, cmpL b a = -cmpL a b
  | [], [] => rfl
  | [], _ :: _ => rfl
  | _ :: _, [] => rfl
  | x :: a, y :: b => by
    unfold cmpL
    rcases Int.lt_trichotomy x y with h | h | h
    · rw [if_neg (by omega), if_pos h, if_pos h]; rfl
    · subst h
      rw [if_neg (by omega), if_neg (by omega), if_neg (by omega), if_neg (by omega)]
      exact cmpL_neg a b
    · rw [if_pos h, if_neg (by omega), if_pos h]
theorem cmpL_zero : ∀ {a b : List Int}, cmpL a b = 0 → a = b
  | [], [], _ => rfl
  | [], _ :: _, h => by simp [cmpL] at h
  | _ :: _, [], h => by simp [cmpL] at h
  | x :: a, y :: b, h => by
    unfold cmpL at h
    split at h
    · simp at h
    · split at h
      · simp at h
      · have e : x = y := by omega
        rw [e, cmpL_zero h]
theorem cmpL_lt : ∀ {a b c : List Int}, cmpL a b = -1 → cmpL b c = -1 → cmpL a c = -1
  | [], [], _, h, _ => by simp [cmpL] at h
  | [], _ :: _, [], _, h => by simp [cmpL] at h
  | [], _ :: _, _ :: _, _, _ => rfl
  | _ :: _, [], _, h, _ => by simp [cmpL] at h
  | _ :: _, _ :: _, [], _, h => by simp [cmpL] at h
  | x :: a, y :: b, z :: c, h1, h2 => by
    unfold cmpL at h1 h2 ⊢
    split at h1
    · split at h2
      · rw [if_pos (by omega)]
      · split at h2
        · simp at h2
        · rw [if_pos (by omega)]
    · split at h1
      · simp at h1
      · split at h2
        · rw [if_pos (by omega)]
        · split at h2
          · simp at h2
          · rw [if_neg (by omega), if_neg (by omega)]
            exact cmpL_lt h1 h2
/-- an element-wise smaller vector comes first -/
theorem cmpL_le : ∀ {a b : List Int}, a.length = b.length → (∀ k, k < a.length → at0 a k ≤ at0 b k) → cmpL a b = -1 ∨ cmpL a b = 0
  | [], [], _, _ => .inr rfl
  | [], _ :: _, h, _ => by simp at h
  | _ :: _, [], h, _ => by simp at h
  | x :: a, y :: b, h, hk => by
    have h0 : x ≤ y := hk 0 (by simp)
    unfold cmpL
    split
    · exact .inl rfl
    · rw [if_neg (by omega)]
      refine cmpL_le (by simpa using h) fun k h2 => ?_
      have := hk (k + 1) (by simpa using h2)
      simpa [at0] using this
theorem leqV_of {a b : List Int} (h : leqV a b = true) : a.length = b.length ∧ ∀ k, k < a.length → at0 a k ≤ at0 b k := by
  unfold leqV at h
  rw [Bool.and_eq_true, decide_eq_true_eq, List.all_eq_true] at h
  exact ⟨h.1, fun k hk => by simpa using h.2 k (List.mem_range.2 hk)⟩
theorem leqV_self (a : List Int) : leqV a a = true := leqV_yes rfl fun _ _ => Int.le_refl _
theorem leq_cmp {a b : List Int} (h : leqV a b = true) : cmpL a b = -1 ∨ cmpL a b = 0 := cmpL_le (leqV_of h).1 (leqV_of h).2
theorem leq_both {a b : List Int} (h1 : leqV a b = true) (h2 : leqV b a = true) : cmpL a b = 0 := by
  have h3 := leq_cmp h1
  have h4 := leq_cmp h2
  rw [cmpL_neg a b] at h4
  omega
end Go.Proofs.Ytcihdecfganohaa
