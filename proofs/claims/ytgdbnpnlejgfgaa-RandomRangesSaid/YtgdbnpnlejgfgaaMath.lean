/- Plain arithmetic and lists for the statements about random numbers: no program in sight. -/
import Derived.WalkKit
namespace Go.Proofs.Ytgdbnpnlejgfgaa
open Go.RowKit

def stepR (s : Nat) : Nat := (s * 6364136223846793005 + 1442695040888963407) % 18446744073709551616
theorem stepR_lt (s : Nat) : stepR s < 18446744073709551616 := Nat.mod_lt _ (by omega)

def xorR (a b : Nat) : Nat := a ^^^ b
/-- the output of a state -/
def outR (s : Nat) : Nat := xorR (s / 8589934592 % 2147483648) (s / 32768 % 2147483648)
theorem outR_lt (s : Nat) : outR s < 2147483648 := by
  have h : (s / 8589934592 % 2147483648) ^^^ (s / 32768 % 2147483648) < 2 ^ 31 := Nat.xor_lt_two_pow (Nat.mod_lt _ (by decide)) (Nat.mod_lt _ (by decide))
  exact h

theorem xor_bit (x y : Nat) (hx : x < 2) (hy : y < 2) : x ^^^ y = if x = y then 0 else 1 := by
  have h1 : x = 0 ∨ x = 1 := by omega
  have h2 : y = 0 ∨ y = 1 := by omega
  rcases h1 with rfl | rfl <;> rcases h2 with rfl | rfl <;> decide
theorem xor_step (a b i : Nat) : xorR a b % 2 ^ (i + 1) = xorR a b % 2 ^ i + (if a / 2 ^ i % 2 = b / 2 ^ i % 2 then 0 else 2 ^ i) := by
  unfold xorR
  rw [Nat.mod_pow_succ, Nat.xor_div_two_pow]
  have e : (a / 2 ^ i ^^^ b / 2 ^ i) % 2 = if a / 2 ^ i % 2 = b / 2 ^ i % 2 then 0 else 1 := by
    have h := Nat.xor_mod_two_pow (a := a / 2 ^ i) (b := b / 2 ^ i) (n := 1)
    rw [Nat.pow_one] at h
    rw [h, xor_bit _ _ (Nat.mod_lt _ (by decide)) (Nat.mod_lt _ (by decide))]
  rw [e]
  split <;> simp

/-- a function applied k times -/
def iterF (f : Nat → Nat) : Nat → Nat → Nat
  | 0, s => s
  | n + 1, s => iterF f n (f s)
theorem iterF_zero (f : Nat → Nat) (s : Nat) : iterF f 0 s = s := rfl
theorem iterF_add (f : Nat → Nat) (k m s : Nat) : iterF f (k + m) s = iterF f m (iterF f k s) := by
  induction k generalizing s with
  | zero => rw [Nat.zero_add, iterF]
  | succ k ih => rw [Nat.succ_add, iterF, iterF, ih]
theorem iterF_succ (f : Nat → Nat) (k s : Nat) : iterF f (k + 1) s = f (iterF f k s) := by rw [iterF_add, iterF, iterF]
theorem iterF_lt (f : Nat → Nat) (b : Nat) (hf : ∀ s, f s < b) (k s : Nat) (h : s < b) : iterF f k s < b := by
  cases k with
  | zero => exact h
  | succ k => rw [iterF_succ]; exact hf _

/-- a number below n and the new state -/
def belV (s : Nat) (n : Int) : Int := if 1 ≤ n ∧ n ≤ 2147483647 then (outR (stepR s) : Int) % n else -1
def belS (s : Nat) (n : Int) : Nat := if 1 ≤ n ∧ n ≤ 2147483647 then stepR s else s


/-- the partial result of the reference's loop on bits -/
def OutInv (a b i p q n u : Nat) : Prop := p = a / 2 ^ i ∧ q = b / 2 ^ i ∧ n = xorR a b % 2 ^ i ∧ u = 2 ^ i
theorem OutInv.start (a b : Nat) : OutInv a b 0 a b 0 1 := ⟨by simp, by simp, by rw [Nat.pow_zero, Nat.mod_one], rfl⟩
theorem OutInv.same {a b i p q n u : Nat} (h : OutInv a b i p q n u) (e : p % 2 = q % 2) : OutInv a b (i + 1) (p / 2) (q / 2) n (2 * u) := by
  obtain ⟨rfl, rfl, rfl, rfl⟩ := h
  refine ⟨by rw [Nat.pow_succ, Nat.div_div_eq_div_mul], by rw [Nat.pow_succ, Nat.div_div_eq_div_mul], ?_, by rw [Nat.pow_succ, Nat.mul_comm]⟩
  rw [xor_step, if_pos e, Nat.add_zero]
theorem OutInv.other {a b i p q n u : Nat} (h : OutInv a b i p q n u) (e : ¬ p % 2 = q % 2) : OutInv a b (i + 1) (p / 2) (q / 2) (n + u) (2 * u) := by
  obtain ⟨rfl, rfl, rfl, rfl⟩ := h
  refine ⟨by rw [Nat.pow_succ, Nat.div_div_eq_div_mul], by rw [Nat.pow_succ, Nat.div_div_eq_div_mul], ?_, by rw [Nat.pow_succ, Nat.mul_comm]⟩
  rw [xor_step, if_neg e]
theorem OutInv.done {a b p q n u : Nat} (h : OutInv a b 31 p q n u) (ha : a < 2147483648) (hb : b < 2147483648) : n = xorR a b := by
  obtain ⟨_, _, rfl, _⟩ := h
  have h : a ^^^ b < 2 ^ 31 := Nat.xor_lt_two_pow ha hb
  exact Nat.mod_eq_of_lt h
theorem OutInv.le {a b i p q n u : Nat} (h : OutInv a b i p q n u) (hi : i ≤ 31) (ha : a < 2147483648) (hb : b < 2147483648) :
    p ≤ 2147483647 ∧ q ≤ 2147483647 ∧ n < u ∧ u ≤ 2147483648 := by
  obtain ⟨rfl, rfl, rfl, rfl⟩ := h
  have h1 := Nat.div_le_self a (2 ^ i)
  have h2 := Nat.div_le_self b (2 ^ i)
  have h3 : 2 ^ i ≤ 2 ^ 31 := Nat.pow_le_pow_right (by decide) hi
  have h4 : (2 : Nat) ^ 31 = 2147483648 := by decide
  have h5 : xorR a b % 2 ^ i < 2 ^ i := Nat.mod_lt _ (Nat.pow_pos (by decide))
  omega

/-- the sum of a list -/
def sumI : List Int → Int
  | [] => 0
  | x :: l => x + sumI l
theorem sumI_snoc (l : List Int) (x : Int) : sumI (l ++ [x]) = sumI l + x := by
  induction l with
  | nil => simp [sumI]
  | cons y l ih => simp [sumI, ih]; omega
def okI (l : List Int) : Bool := l.all fun x => decide (0 ≤ x ∧ x ≤ 1000)
theorem okI_snoc (l : List Int) (x : Int) : okI (l ++ [x]) = (okI l && decide (0 ≤ x ∧ x ≤ 1000)) := by simp [okI]
theorem sumI_le (l : List Int) (h : okI l = true) : 0 ≤ sumI l ∧ sumI l ≤ 1000 * l.length := by
  induction l with
  | nil => simp [sumI]
  | cons x l ih =>
    simp only [okI, List.all_cons, Bool.and_eq_true, decide_eq_true_eq] at h
    have := ih h.2
    simp only [sumI, List.length_cons]
    omega
/-- the sum of the weights, 0 if they are not valid -/
def totR (l : List Int) : Int := if l.length ≤ 64 ∧ okI l = true then sumI l else 0
theorem totR_le (l : List Int) : 0 ≤ totR l ∧ totR l ≤ 64000 := by
  unfold totR; split
  · rename_i h; have := sumI_le l h.2; omega
  · omega
/-- the index at which the sum of the weights passes x, -1 if none -/
def pickR : List Int → Int → Int
  | [], _ => -1
  | w :: l, x => if x < w then 0 else if pickR l (x - w) < 0 then -1 else pickR l (x - w) + 1
theorem take_snocI (l : List Int) (k : Nat) (h : k < l.length) : l.take (k + 1) = l.take k ++ [l[k]?.getD 0] := by
  rw [List.take_add_one, List.getElem?_eq_getElem h]; rfl
theorem okI_take (l : List Int) (k : Nat) (h : okI l = true) : okI (l.take k) = true := by
  simp only [okI, List.all_eq_true] at h ⊢
  exact fun x hx => h x (List.mem_of_mem_take hx)
theorem okI_at (l : List Int) (k : Nat) (hk : k < l.length) (h : okI l = true) : 0 ≤ l[k]?.getD 0 ∧ l[k]?.getD 0 ≤ 1000 := by
  simp only [okI, List.all_eq_true, decide_eq_true_eq] at h
  rw [List.getElem?_eq_getElem hk]
  exact h _ (List.getElem_mem hk)
theorem okI_not (l : List Int) (k : Nat) (hk : k < l.length) (h : l[k]?.getD 0 < 0 ∨ 1000 < l[k]?.getD 0) : okI l = false := by
  rcases Bool.eq_false_or_eq_true (okI l) with e | e
  · have := okI_at l k hk e; omega
  · exact e

/-- the chosen index and the new state -/
def chV (s : Nat) (l : List Int) : Int := if totR l < 1 then -1 else pickR l (belV s (totR l))
def chS (s : Nat) (l : List Int) : Nat := if totR l < 1 then s else stepR s

/-- the search for the index has come to place k with x0 lessened by the weights so far -/
def PickInv (l : List Int) (x0 : Int) (k : Nat) (x : Int) : Prop :=
  x = x0 - sumI (l.take k) ∧ pickR l x0 = if pickR (l.drop k) x < 0 then -1 else pickR (l.drop k) x + k
theorem pickR_ge (l : List Int) (x : Int) : -1 ≤ pickR l x := by
  cases l with
  | nil => simp [pickR]
  | cons w l => unfold pickR; split; · omega
                split <;> omega
theorem PickInv.start (l : List Int) (x0 : Int) : PickInv l x0 0 x0 := by
  have h := pickR_ge l x0
  refine ⟨by simp [sumI], ?_⟩
  rw [List.drop_zero]
  split <;> omega
theorem drop_at (l : List Int) (k : Nat) (hk : k < l.length) : l.drop k = l[k]?.getD 0 :: l.drop (k + 1) := by
  rw [List.drop_eq_getElem_cons hk, List.getElem?_eq_getElem hk]; rfl
theorem PickInv.hit {l : List Int} {x0 x : Int} {k : Nat} (h : PickInv l x0 k x) (hk : k < l.length) (hx : x < l[k]?.getD 0) : pickR l x0 = k := by
  rw [h.2, drop_at l k hk]
  simp only [pickR, if_pos hx]
  simp
theorem PickInv.next {l : List Int} {x0 x : Int} {k : Nat} (h : PickInv l x0 k x) (hk : k < l.length) (hx : ¬ x < l[k]?.getD 0) : PickInv l x0 (k + 1) (x - l[k]?.getD 0) := by
  refine ⟨by rw [take_snocI l k hk, sumI_snoc, h.1]; omega, ?_⟩
  rw [h.2, drop_at l k hk]
  simp only [pickR, if_neg hx]
  generalize pickR (List.drop (k + 1) l) (x - l[k]?.getD 0) = q
  split
  · split
    · rfl
    · omega
  · split
    · omega
    · omega
theorem totR_pos {l : List Int} (h : 1 ≤ totR l) : l.length ≤ 64 ∧ okI l = true ∧ sumI l = totR l := by
  unfold totR at h ⊢
  split at h
  · rename_i c; rw [if_pos c]; exact ⟨c.1, c.2, rfl⟩
  · omega

end Go.Proofs.Ytgdbnpnlejgfgaa
