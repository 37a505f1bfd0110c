/- Plain arithmetic and lists for the statements about random numbers: no program in sight. Contracts of the steps and outputs of the random numbers and of their references. Contracts of the choice by weights and of its reference. -/
import Derived.WalkKit
import Derived.Test.YtpfkkjgklhcejaaRows
import Derived.WalkLawsBesides
import Derived.Lib.Hide
import Derived.Laws.BitsAllLaws
import Derived.Laws.Bits64b
namespace Go.Proofs.Ytpfkkjgklhcejaa.Rd
open Go.RowKit

def stepR (s : Nat) : Nat := (s * 6364136223846793005 + 1442695040888963407) % 18446744073709551616
theorem stepR_lt (s : Nat) : stepR s < 18446744073709551616 := Nat.mod_lt _ (by omega)

def xorR (a b : Nat) : Nat := a ^^^ b
/-- the output of a state -/
def outR (s : Nat) : Nat := xorR (s / 8589934592 % 2147483648) (s / 32768 % 2147483648)
theorem outR_lt (s : Nat) : outR s < 2147483648 := by
  have h : (s / 8589934592 % 2147483648) ^^^ (s / 32768 % 2147483648) < 2 ^ 31 := Nat.xor_lt_two_pow (Nat.mod_lt _ (by decide)) (Nat.mod_lt _ (by decide))
  exact h

theorem xor_bit (x y : Nat) (hx : x < 2) (hy : y < 2) : x ^^^ y = if x = y then 0 else 1 := by
  have h1 : x = 0 ∨ x = 1 := by omega
  have h2 : y = 0 ∨ y = 1 := by omega
  rcases h1 with rfl | rfl <;> rcases h2 with rfl | rfl <;> decide
theorem xor_step (a b i : Nat) : xorR a b % 2 ^ (i + 1) = xorR a b % 2 ^ i + (if a / 2 ^ i % 2 = b / 2 ^ i % 2 then 0 else 2 ^ i) := by
  unfold xorR
  rw [Nat.mod_pow_succ, Nat.xor_div_two_pow]
  have e : (a / 2 ^ i ^^^ b / 2 ^ i) % 2 = if a / 2 ^ i % 2 = b / 2 ^ i % 2 then 0 else 1 := by
    have h := Nat.xor_mod_two_pow (a := a / 2 ^ i) (b := b / 2 ^ i) (n := 1)
    rw [Nat.pow_one] at h
    rw [h, xor_bit _ _ (Nat.mod_lt _ (by decide)) (Nat.mod_lt _ (by decide))]
  rw [e]
  split <;> simp

/-- a function applied k times -/
def iterF (f : Nat → Nat) : Nat → Nat → Nat
  | 0, s => s
  | n + 1, s => iterF f n (f s)
theorem iterF_zero (f : Nat → Nat) (s : Nat) : iterF f 0 s = s := rfl
theorem iterF_add (f : Nat → Nat) (k m s : Nat) : iterF f (k + m) s = iterF f m (iterF f k s) := by
  induction k generalizing s with
  | zero => rw [Nat.zero_add, iterF]
  | succ k ih => rw [Nat.succ_add, iterF, iterF, ih]
theorem iterF_succ (f : Nat → Nat) (k s : Nat) : iterF f (k + 1) s = f (iterF f k s) := by rw [iterF_add, iterF, iterF]
theorem iterF_lt (f : Nat → Nat) (b : Nat) (hf : ∀ s, f s < b) (k s : Nat) (h : s < b) : iterF f k s < b := by
  cases k with
  | zero => exact h
  | succ k => rw [iterF_succ]; exact hf _

/-- a number below n and the new state -/
def belV (s : Nat) (n : Int) : Int := if 1 ≤ n ∧ n ≤ 2147483647 then (outR (stepR s) : Int) % n else -1
def belS (s : Nat) (n : Int) : Nat := if 1 ≤ n ∧ n ≤ 2147483647 then stepR s else s


/-- the partial result of the reference's loop on bits -/
def OutInv (a b i p q n u : Nat) : Prop := p = a / 2 ^ i ∧ q = b / 2 ^ i ∧ n = xorR a b % 2 ^ i ∧ u = 2 ^ i
theorem OutInv.start (a b : Nat) : OutInv a b 0 a b 0 1 := ⟨by simp, by simp, by rw [Nat.pow_zero, Nat.mod_one], rfl⟩
theorem OutInv.same {a b i p q n u : Nat} (h : OutInv a b i p q n u) (e : p % 2 = q % 2) : OutInv a b (i + 1) (p / 2) (q / 2) n (2 * u) := by
  obtain ⟨rfl, rfl, rfl, rfl⟩ := h
  refine ⟨by rw [Nat.pow_succ, Nat.div_div_eq_div_mul], by rw [Nat.pow_succ, Nat.div_div_eq_div_mul], ?_, by rw [Nat.pow_succ, Nat.mul_comm]⟩
  rw [xor_step, if_pos e, Nat.add_zero]
theorem OutInv.other {a b i p q n u : Nat} (h : OutInv a b i p q n u) (e : ¬ p % 2 = q % 2) : OutInv a b (i + 1) (p / 2) (q / 2) (n + u) (2 * u) := by
  obtain ⟨rfl, rfl, rfl, rfl⟩ := h
  refine ⟨by rw [Nat.pow_succ, Nat.div_div_eq_div_mul], by rw [Nat.pow_succ, Nat.div_div_eq_div_mul], ?_, by rw [Nat.pow_succ, Nat.mul_comm]⟩
  rw [xor_step, if_neg e]
theorem OutInv.done {a b p q n u : Nat} (h : OutInv a b 31 p q n u) (ha : a < 2147483648) (hb : b < 2147483648) : n = xorR a b := by
  obtain ⟨_, _, rfl, _⟩ := h
  have h : a ^^^ b < 2 ^ 31 := Nat.xor_lt_two_pow ha hb
  exact Nat.mod_eq_of_lt h
theorem OutInv.le {a b i p q n u : Nat} (h : OutInv a b i p q n u) (hi : i ≤ 31) (ha : a < 2147483648) (hb : b < 2147483648) :
    p ≤ 2147483647 ∧ q ≤ 2147483647 ∧ n < u ∧ u ≤ 2147483648 := by
  obtain ⟨rfl, rfl, rfl, rfl⟩ := h
  have h1 := Nat.div_le_self a (2 ^ i)
  have h2 := Nat.div_le_self b (2 ^ i)
  have h3 : 2 ^ i ≤ 2 ^ 31 := Nat.pow_le_pow_right (by decide) hi
  have h4 : (2 : Nat) ^ 31 = 2147483648 := by decide
  have h5 : xorR a b % 2 ^ i < 2 ^ i := Nat.mod_lt _ (Nat.pow_pos (by decide))
  omega

/-- the sum of a list -/
def sumI : List Int → Int
  | [] => 0
  | x :: l => x + sumI l
theorem sumI_snoc (l : List Int) (x : Int) : sumI (l ++ [x]) = sumI l + x := by
  induction l with
  | nil => simp [sumI]
  | cons y l ih => simp [sumI, ih]; omega
def okI (l : List Int) : Bool := l.all fun x => decide (0 ≤ x ∧ x ≤ 1000)
theorem okI_snoc (l : List Int) (x : Int) : okI (l ++ [x]) = (okI l && decide (0 ≤ x ∧ x ≤ 1000)) := by simp [okI]
theorem sumI_le (l : List Int) (h : okI l = true) : 0 ≤ sumI l ∧ sumI l ≤ 1000 * l.length := by
  induction l with
  | nil => simp [sumI]
  | cons x l ih =>
    simp only [okI, List.all_cons, Bool.and_eq_true, decide_eq_true_eq] at h
    have := ih h.2
    simp only [sumI, List.length_cons]
    omega
/-- the sum of the weights, 0 if they are not valid -/
def totR (l : List Int) : Int := if l.length ≤ 64 ∧ okI l = true then sumI l else 0
theorem totR_le (l : List Int) : 0 ≤ totR l ∧ totR l ≤ 64000 := by
  unfold totR; split
  · rename_i h; have := sumI_le l h.2; omega
  · omega
/-- the index at which the sum of the weights passes x, -1 if none -/
def pickR : List Int → Int → Int
  | [], _ => -1
  | w :: l, x => if x < w then 0 else if pickR l (x - w) < 0 then -1 else pickR l (x - w) + 1
theorem take_snocI (l : List Int) (k : Nat) (h : k < l.length) : l.take (k + 1) = l.take k ++ [l[k]?.getD 0] := by
  rw [List.take_add_one, List.getElem?_eq_getElem h]; rfl
theorem okI_take (l : List Int) (k : Nat) (h : okI l = true) : okI (l.take k) = true := by
  simp only [okI, List.all_eq_true] at h ⊢
  exact fun x hx => h x (List.mem_of_mem_take hx)
theorem okI_at (l : List Int) (k : Nat) (hk : k < l.length) (h : okI l = true) : 0 ≤ l[k]?.getD 0 ∧ l[k]?.getD 0 ≤ 1000 := by
  simp only [okI, List.all_eq_true, decide_eq_true_eq] at h
  rw [List.getElem?_eq_getElem hk]
  exact h _ (List.getElem_mem hk)
theorem okI_not (l : List Int) (k : Nat) (hk : k < l.length) (h : l[k]?.getD 0 < 0 ∨ 1000 < l[k]?.getD 0) : okI l = false := by
  rcases Bool.eq_false_or_eq_true (okI l) with e | e
  · have := okI_at l k hk e; omega
  · exact e

/-- the chosen index and the new state -/
def chV (s : Nat) (l : List Int) : Int := if totR l < 1 then -1 else pickR l (belV s (totR l))
def chS (s : Nat) (l : List Int) : Nat := if totR l < 1 then s else stepR s

/-- the search for the index has come to place k with x0 lessened by the weights so far -/
def PickInv (l : List Int) (x0 : Int) (k : Nat) (x : Int) : Prop :=
  x = x0 - sumI (l.take k) ∧ pickR l x0 = if pickR (l.drop k) x < 0 then -1 else pickR (l.drop k) x + k
theorem pickR_ge (l : List Int) (x : Int) : -1 ≤ pickR l x := by
  cases l with
  | nil => simp [pickR]
  | cons w l => unfold pickR; split; · omega
                split <;> omega
theorem PickInv.start (l : List Int) (x0 : Int) : PickInv l x0 0 x0 := by
  have h := pickR_ge l x0
  refine ⟨by simp [sumI], ?_⟩
  rw [List.drop_zero]
  split <;> omega
theorem drop_at (l : List Int) (k : Nat) (hk : k < l.length) : l.drop k = l[k]?.getD 0 :: l.drop (k + 1) := by
  rw [List.drop_eq_getElem_cons hk, List.getElem?_eq_getElem hk]; rfl
theorem PickInv.hit {l : List Int} {x0 x : Int} {k : Nat} (h : PickInv l x0 k x) (hk : k < l.length) (hx : x < l[k]?.getD 0) : pickR l x0 = k := by
  rw [h.2, drop_at l k hk]
  simp only [pickR, if_pos hx]
  simp
theorem PickInv.next {l : List Int} {x0 x : Int} {k : Nat} (h : PickInv l x0 k x) (hk : k < l.length) (hx : ¬ x < l[k]?.getD 0) : PickInv l x0 (k + 1) (x - l[k]?.getD 0) := by
  refine ⟨by rw [take_snocI l k hk, sumI_snoc, h.1]; omega, ?_⟩
  rw [h.2, drop_at l k hk]
  simp only [pickR, if_neg hx]
  generalize pickR (List.drop (k + 1) l) (x - l[k]?.getD 0) = q
  split
  · split
    · rfl
    · omega
  · split
    · omega
    · omega
theorem totR_pos {l : List Int} (h : 1 ≤ totR l) : l.length ≤ 64 ∧ okI l = true ∧ sumI l = totR l := by
  unfold totR at h ⊢
  split at h
  · rename_i c; rw [if_pos c]; exact ⟨c.1, c.2, rfl⟩
  · omega

end Go.Proofs.Ytpfkkjgklhcejaa.Rd

namespace Go.Proofs.Ytpfkkjgklhcejaa.Rd
open Go.RowKit

theorem ret_i {a b : Int} (h : a = b) : Ending.returned (.int .i64 a) = .returned (.int .i64 b) := by rw [h]
theorem ret_u {a b : Int} (h : a = b) : Ending.returned (.int .u64 a) = .returned (.int .u64 b) := by rw [h]
theorem ret_uu {a b c d : Int} (h : a = b) (k : c = d) : Ending.returned (.tuple #[.int .u64 a, .int .u64 c]) = .returned (.tuple #[.int .u64 b, .int .u64 d]) := by rw [h, k]
theorem ret_iu {a b c d : Int} (h : a = b) (k : c = d) : Ending.returned (.tuple #[.int .i64 a, .int .u64 c]) = .returned (.tuple #[.int .i64 b, .int .u64 d]) := by rw [h, k]

theorem step_val (s : Nat) : IntKind.u64.wrap (IntKind.u64.wrap ((s : Int) * 6364136223846793005) + 1442695040888963407) = (stepR s : Int) := by
  rw [IntKind.wrap_u64, IntKind.wrap_u64]; unfold stepR; omega

theorem step_any (s : Nat) (w : World) :
    Calls Try.prog 86 #[.int .u64 s] w fun e w' => e = .returned (.int .u64 (stepR s)) ∧ w = w' := by
  go_enter Try.func86, Try.ntmps86
  go_wp2
  go_ret
  exact ⟨ret_u (step_val s), rfl⟩
theorem rstep_any (s : Nat) (w : World) :
    Calls Try.prog 66 #[.int .u64 s] w fun e w' => e = .returned (.int .u64 (stepR s)) ∧ w = w' := by
  go_enter Try.func66, Try.ntmps66
  go_wp2
  go_ret
  exact ⟨ret_u (step_val s), rfl⟩

theorem out_val (s : Nat) (hs : s < 18446744073709551616) :
    bits .and .u64 (bits .xor .u64 ((s : Int) / 8589934592) ((s : Int) / 32768)) 2147483647 = (outR s : Int) := by
  have e1 : (s : Int) / 8589934592 = ((s / 8589934592 : Nat) : Int) := by omega
  have e2 : (s : Int) / 32768 = ((s / 32768 : Nat) : Int) := by omega
  have b1 : s / 8589934592 < 2 ^ 49 := by omega
  have b2 : s / 32768 < 2 ^ 49 := by omega
  rw [e1, e2, bits_xor_u64_nat _ _ (by omega) (by omega)]
  have hx : s / 8589934592 ^^^ s / 32768 < 2 ^ 49 := Nat.xor_lt_two_pow b1 b2
  have h := bits_and_u64_nat (s / 8589934592 ^^^ s / 32768) 2147483647 (by omega) (by omega)
  have m : (s / 8589934592 ^^^ s / 32768) &&& 2147483647 = (s / 8589934592 ^^^ s / 32768) % 2 ^ 31 := Nat.and_two_pow_sub_one_eq_mod _ 31
  rw [m, Nat.xor_mod_two_pow] at h
  exact h

theorem next_any (s : Nat) (w : World) :
    Calls Try.prog 75 #[.int .u64 s] w fun e w' => e = .returned (.tuple #[.int .u64 (outR (stepR s)), .int .u64 (stepR s)]) ∧ w = w' := by
  have hs := stepR_lt s
  go_enter Try.func75, Try.ntmps75
  go_wp2_with fail
  refine (step_any s _).mono ?_
  rintro e w1 ⟨rfl, rfl⟩
  go_wp2
  go_ret2
  exact ⟨ret_uu (out_val _ hs) rfl, rfl⟩

theorem output_any (s : Nat) (hs : s < 18446744073709551616) (w : World) :
    Calls Try.prog 65 #[.int .u64 s] w fun e w' => e = .returned (.int .i64 (outR s)) ∧ w = w' := by
  have ha : s / 8589934592 % 2147483648 < 2147483648 := Nat.mod_lt _ (by decide)
  have hb : s / 32768 % 2147483648 < 2147483648 := Nat.mod_lt _ (by decide)
  have HO : Hid (outR s = xorR (s / 8589934592 % 2147483648) (s / 32768 % 2147483648)) := rfl
  have HA : Hid (((s / 8589934592 % 2147483648 : Nat) : Int) = (s : Int) / 8589934592 % 2147483648) := by show _ = _; omega
  have HB : Hid (((s / 32768 % 2147483648 : Nat) : Int) = (s : Int) / 32768 % 2147483648) := by show _ = _; omega
  generalize s / 8589934592 % 2147483648 = a at *
  generalize s / 32768 % 2147483648 = b at *
  go_enter Try.func65, Try.ntmps65
  go_wp2
  go_loop [3, 4, 5, 6, 7] (fun x y m v c => ∃ i p q n u : Nat, i ≤ 31 ∧ x = .int .u64 p ∧ y = .int .u64 q ∧ m = .int .i64 n ∧ v = .int .i64 u ∧ c = .int .i64 i ∧ OutInv a b i p q n u)
    (fun _ _ _ _ c => 31 - (intOf c).toNat)
  case atStart =>
    have h1 := HA.out
    have h2 := HB.out
    exact ⟨0, a, b, 0, 1, by omega, by rw [h1], by rw [h2], rfl, rfl, rfl, OutInv.start a b⟩
  case round =>
    obtain ⟨i, p, q, n, u, hi, rfl, rfl, rfl, rfl, rfl, hinv⟩ := hrel
    obtain ⟨l1, l2, l3, l4⟩ := hinv.le hi ha hb
    have HI := Lib.hid hinv
    clear hinv
    by_cases hlt : i < 31
    · have l5 : 2 * u ≤ 2147483648 := by
        have h3 : 2 ^ (i + 1) ≤ 2 ^ 31 := Nat.pow_le_pow_right (by decide) hlt
        have h4 : (2 : Nat) ^ 31 = 2147483648 := by decide
        have h5 := HI.out.2.2.2
        rw [Nat.pow_succ] at h3
        omega
      go_wp2
      · have ne : ¬ p % 2 = q % 2 := by have := WalkArith.int_ne' (by assumption : ((p : Int) % 2 != (q : Int) % 2) = true); omega
        go_round
        case rel => exact ⟨i + 1, p / 2, q / 2, n + u, 2 * u, by omega, by go_num, by go_num, by go_num, by go_num, by go_num, HI.out.other ne⟩
        case measure => simp [intOf]; omega
      · have eq : p % 2 = q % 2 := by have := WalkArith.int_eq' (by assumption : ((p : Int) % 2 != (q : Int) % 2) = false); omega
        go_round
        case rel => exact ⟨i + 1, p / 2, q / 2, n, 2 * u, by omega, by go_num, by go_num, rfl, by go_num, by go_num, HI.out.same eq⟩
        case measure => simp [intOf]; omega
    · go_wp2
      go_ret
      obtain rfl : i = 31 := by omega
      refine ⟨ret_i ?_, rfl⟩
      rw [HO.out, HI.out.done ha hb]

theorem step_ex (s : Nat) (w : World) :
    Calls Try.prog 86 #[.int .u64 s] w fun e w' => ∃ n : Nat, e = .returned (.int .u64 n) ∧ Hid (n = stepR s) ∧ w = w' :=
  (step_any s w).mono fun _ _ ⟨he, hw⟩ => ⟨_, he, rfl, hw⟩
theorem rstep_ex (s : Nat) (w : World) :
    Calls Try.prog 66 #[.int .u64 s] w fun e w' => ∃ n : Nat, e = .returned (.int .u64 n) ∧ Hid (n = stepR s) ∧ w = w' :=
  (rstep_any s w).mono fun _ _ ⟨he, hw⟩ => ⟨_, he, rfl, hw⟩

theorem rnext_any (s : Nat) (w : World) :
    Calls Try.prog 50 #[.int .u64 s] w fun e w' => e = .returned (.tuple #[.int .i64 (outR (stepR s)), .int .u64 (stepR s)]) ∧ w = w' := by
  have hs := stepR_lt s
  go_enter Try.func50, Try.ntmps50
  go_wp2_with fail
  refine (rstep_any s _).mono ?_
  rintro e w1 ⟨rfl, rfl⟩
  go_wp2_with fail
  refine (output_any _ hs _).mono ?_
  rintro e w1 ⟨rfl, rfl⟩
  go_wp2_with fail
  refine (rstep_any s _).mono ?_
  rintro e w1 ⟨rfl, rfl⟩
  go_wp2
  go_ret2
  exact ⟨rfl, rfl⟩

theorem belV_yes {s : Nat} {n : Int} (h1 : 1 ≤ n) (h2 : n ≤ 2147483647) : belV s n = (outR (stepR s) : Int) % n ∧ belS s n = stepR s := by
  unfold belV belS; rw [if_pos ⟨h1, h2⟩, if_pos ⟨h1, h2⟩]; exact ⟨rfl, rfl⟩
theorem belV_no {s : Nat} {n : Int} (h : n < 1 ∨ 2147483647 < n) : belV s n = -1 ∧ belS s n = s := by
  have k : ¬ (1 ≤ n ∧ n ≤ 2147483647) := by omega
  unfold belV belS; rw [if_neg k, if_neg k]; exact ⟨rfl, rfl⟩

theorem below_any (s : Nat) (n : Int) (w : World) :
    Calls Try.prog 61 #[.int .u64 s, .int .i64 n] w fun e w' => e = .returned (.tuple #[.int .i64 (belV s n), .int .u64 (belS s n)]) ∧ w = w' := by
  have C := Lib.hid (next_any s)
  by_cases h1 : n < 1
  · obtain ⟨e1, e2⟩ := belV_no (s := s) (.inl h1)
    rw [e1, e2]; clear e1 e2
    go_enter Try.func61, Try.ntmps61
    go_wp2
    go_ret2
    exact ⟨rfl, rfl⟩
  by_cases h2 : 2147483647 < n
  · obtain ⟨e1, e2⟩ := belV_no (s := s) (.inr h2)
    rw [e1, e2]; clear e1 e2
    go_enter Try.func61, Try.ntmps61
    go_wp2
    go_ret2
    exact ⟨rfl, rfl⟩
  · have h3 : 1 ≤ n := by omega
    obtain ⟨e1, e2⟩ := belV_yes (s := s) h3 (by omega : n ≤ 2147483647)
    rw [e1, e2]; clear e1 e2
    have ho := outR_lt (stepR s)
    have hs := stepR_lt s
    generalize outR (stepR s) = o at *
    generalize stepR s = t at *
    have m1 := Int.emod_nonneg (o : Int) (show n ≠ 0 by omega)
    have m2 := Int.emod_lt_of_pos (o : Int) (show 0 < n by omega)
    go_enter Try.func61, Try.ntmps61
    go_wp2_with fail
    refine (C.out _).mono ?_
    rintro e w1 ⟨rfl, rfl⟩
    go_wp2
    go_ret2
    exact ⟨rfl, rfl⟩
end Go.Proofs.Ytpfkkjgklhcejaa.Rd

namespace Go.Proofs.Ytpfkkjgklhcejaa.Rd
open Go.RowKit

/-- the slice's address A reads the numbers zs -/
def ReadsI (w : World) (A : Option Addr) (zs : List Int) : Prop :=
  ∀ j, j < zs.length → ∃ b off, A = some ⟨b, off, none⟩ ∧ w.cell? ⟨b, off + j, none⟩ = some (.int .i64 (zs[j]?.getD 0))

theorem total_any (A : Option Addr) (zs : List Int) (c : Nat) (w : World) (hr : ReadsI w A zs) (hl : zs.length ≤ 9223372036854775807) :
    Calls Try.prog 62 #[.slice A zs.length c] w fun e w' => e = .returned (.int .i64 (totR zs)) ∧ w = w' := by
  have HR := Lib.hid hr
  clear hr
  generalize hT0 : totR zs = T
  have HT0 := Lib.hid hT0
  clear hT0
  by_cases h64 : zs.length ≤ 64
  · have g64 : ¬ (64 : Int) < (zs.length : Int) := by omega
    generalize hn : zs.length = n at *
    have HN := Lib.hid hn
    clear hn
    go_enter Try.func62, Try.ntmps62
    go_wp2
    go_loop [3, 11] (fun x q => ∃ (k : Nat) (t : Int), k ≤ n ∧ x = .int .i64 t ∧ q = .int .i64 k ∧ 0 ≤ t ∧ t ≤ 1000 * k ∧ Hid (t = sumI (zs.take k) ∧ okI (zs.take k) = true)) (fun _ q => n - (intOf q).toNat)
    case atStart => exact ⟨0, 0, by omega, rfl, rfl, by omega, by omega, by show _ ∧ _; simp [sumI, okI]⟩
    case round =>
      obtain ⟨k, t, hk, rfl, rfl, t1, t2, HT⟩ := hrel
      by_cases hlt : k < n
      · obtain ⟨b, off, rfl, hcell⟩ := HR.out k (by rw [HN.out]; exact hlt)
        have hkz : k < zs.length := by rw [HN.out]; exact hlt
        have HZ : Hid (okI zs = false → 0 = T) := by
          intro h; rw [← HT0.out]; unfold totR; rw [if_neg]; rintro ⟨_, h2⟩; rw [h] at h2; cases h2
        have HX : Hid (zs[k]?.getD 0 < 0 ∨ 1000 < zs[k]?.getD 0 → okI zs = false) := okI_not zs k hkz
        have HS : Hid (0 ≤ zs[k]?.getD 0 → zs[k]?.getD 0 ≤ 1000 → t + zs[k]?.getD 0 = sumI (zs.take (k + 1)) ∧ okI (zs.take (k + 1)) = true) := by
          intro a1 a2
          rw [take_snocI zs k hkz, sumI_snoc, okI_snoc, HT.out.1, HT.out.2]
          exact ⟨rfl, by simp [a1, a2]⟩
        generalize zs[k]?.getD 0 = x at *
        by_cases x1 : x < 0
        · have e := HZ.out (HX.out (.inl x1))
          have E := Lib.hid e
          clear e
          go_wp2
          go_ret
          exact ⟨ret_i E.out, rfl⟩
        by_cases x2 : 1000 < x
        · have e := HZ.out (HX.out (.inr x2))
          have E := Lib.hid e
          clear e
          go_wp2
          go_ret
          exact ⟨ret_i E.out, rfl⟩
        go_wp2
        go_round
        case rel => exact ⟨k + 1, t + x, by omega, rfl, by go_num, by omega, by omega, HS.out (by omega) (by omega)⟩
        case measure => simp [intOf]; omega
      · go_wp2
        go_ret
        obtain rfl : k = n := by omega
        refine ⟨ret_i ?_, rfl⟩
        have h := HT.out
        rw [← HN.out, List.take_length] at h
        rw [← HT0.out]
        unfold totR
        rw [if_pos ⟨by rw [HN.out]; exact h64, h.2⟩]
        exact h.1
  · have g64 : (64 : Int) < (zs.length : Int) := by omega
    have ht : 0 = T := by rw [← HT0.out]; unfold totR; rw [if_neg (by omega)]
    have HT := Lib.hid ht
    clear ht
    go_enter Try.func62, Try.ntmps62
    go_wp2
    go_ret
    exact ⟨ret_i HT.out, rfl⟩

theorem choose_any (s : Nat) (A : Option Addr) (zs : List Int) (c : Nat) (w : World) (hr : ReadsI w A zs) (hl : zs.length ≤ 9223372036854775807) :
    Calls Try.prog 44 #[.int .u64 s, .slice A zs.length c] w fun e w' => e = .returned (.tuple #[.int .i64 (chV s zs), .int .u64 (chS s zs)]) ∧ w = w' := by
  have C1 := Lib.hid (total_any A zs c w hr hl)
  have C2 := Lib.hid (below_any s (totR zs) w)
  have HR := Lib.hid hr
  clear hr
  by_cases ht : totR zs < 1
  · have e1 : chV s zs = -1 := by unfold chV; rw [if_pos ht]
    have e2 : chS s zs = s := by unfold chS; rw [if_pos ht]
    obtain ⟨e3, e4⟩ := belV_no (s := s) (n := totR zs) (.inl ht)
    rw [e3, e4] at C2
    rw [e1, e2]
    clear e1 e2 e3 e4
    go_enter Try.func44, Try.ntmps44
    go_wp2_with fail
    refine C1.out.mono ?_
    rintro e w1 ⟨rfl, rfl⟩
    go_wp2_with fail
    refine C2.out.mono ?_
    rintro e w1 ⟨rfl, rfl⟩
    go_wp2
    go_ret2
    exact ⟨rfl, rfl⟩
  · have ht1 : 1 ≤ totR zs := by omega
    obtain ⟨z1, z2, z3⟩ := totR_pos ht1
    have ht2 := (totR_le zs).2
    obtain ⟨e3, e4⟩ := belV_yes (s := s) ht1 (by omega)
    have e1 : chV s zs = pickR zs (belV s (totR zs)) := by unfold chV; rw [if_neg ht]
    have e2 : chS s zs = stepR s := by unfold chS; rw [if_neg ht]
    have b1 : 0 ≤ belV s (totR zs) := by rw [e3]; exact Int.emod_nonneg _ (by omega)
    have b2 : belV s (totR zs) < totR zs := by rw [e3]; exact Int.emod_lt_of_pos _ (by omega)
    rw [e4] at C2
    rw [e1, e2]
    clear e1 e2 e3 e4 ht
    generalize belV s (totR zs) = x0 at *
    generalize stepR s = s1 at *
    have Z2 := Lib.hid z2
    have Z3 := Lib.hid z3
    clear z2 z3
    generalize totR zs = tt at *
    generalize hP : pickR zs x0 = P
    have HP := Lib.hid hP
    clear hP
    generalize hn : zs.length = n at *
    have HN := Lib.hid hn
    clear hn
    go_enter Try.func44, Try.ntmps44
    go_wp2_with fail
    refine C1.out.mono ?_
    rintro e w1 ⟨rfl, rfl⟩
    go_wp2_with fail
    refine C2.out.mono ?_
    rintro e w1 ⟨rfl, rfl⟩
    go_wp2
    go_loop [6, 22] (fun v q => ∃ (k : Nat) (x : Int), k ≤ n ∧ v = .int .i64 x ∧ q = .int .i64 k ∧ 0 ≤ x ∧ x ≤ 64000 ∧ Hid (PickInv zs x0 k x)) (fun _ q => n - (intOf q).toNat)
    case atStart => exact ⟨0, x0, by omega, rfl, rfl, b1, by omega, PickInv.start zs x0⟩
    case round =>
      obtain ⟨k, x, hk, rfl, rfl, x1, x2, HI⟩ := hrel
      by_cases hlt : k < n
      · have hkz : k < zs.length := by rw [HN.out]; exact hlt
        obtain ⟨b, off, rfl, hcell⟩ := HR.out k hkz
        obtain ⟨y1, y2⟩ := okI_at zs k hkz Z2.out
        have H1 : Hid (x < zs[k]?.getD 0 → pickR zs x0 = k) := fun h => HI.out.hit hkz h
        have H2 : Hid (¬ x < zs[k]?.getD 0 → PickInv zs x0 (k + 1) (x - zs[k]?.getD 0)) := fun h => HI.out.next hkz h
        generalize zs[k]?.getD 0 = y at *
        by_cases hxy : x < y
        · have E := Lib.hid (H1.out hxy)
          go_wp2
          go_ret2
          exact ⟨ret_iu (by rw [← HP.out, E.out]) rfl, rfl⟩
        · go_wp2
          go_round
          case rel => exact ⟨k + 1, x - y, by omega, rfl, by go_num, by omega, by omega, H2.out hxy⟩
          case measure => simp [intOf]; omega
      · exfalso
        obtain rfl : k = n := by omega
        have h := HI.out.1
        rw [← HN.out, List.take_length, Z3.out] at h
        omega

theorem rchoose_any (s : Nat) (A : Option Addr) (zs : List Int) (c : Nat) (w : World) (hr : ReadsI w A zs) (hl : zs.length ≤ 9223372036854775807) :
    Calls Try.prog 30 #[.int .u64 s, .slice A zs.length c] w fun e w' => e = .returned (.tuple #[.int .i64 (chV s zs), .int .u64 (chS s zs)]) ∧ w = w' := by
  have C2 := Lib.hid (rnext_any s)
  have HR := Lib.hid hr
  clear hr
  have HN0 : Hid (okI zs = false → -1 = chV s zs ∧ s = chS s zs) := by
    intro h
    have ht : totR zs = 0 := by unfold totR; rw [if_neg]; rintro ⟨_, h2⟩; rw [h] at h2; cases h2
    unfold chV chS
    rw [ht]
    exact ⟨rfl, rfl⟩
  have HN1 : Hid (64 < zs.length ∨ sumI zs = 0 → -1 = chV s zs ∧ s = chS s zs) := by
    intro h
    have ht : totR zs = 0 := by
      unfold totR; split
      · rename_i c; omega
      · rfl
    unfold chV chS
    rw [ht]
    exact ⟨rfl, rfl⟩
  have HN2 : Hid (zs.length ≤ 64 → okI zs = true → 1 ≤ sumI zs → chV s zs = pickR zs ((outR (stepR s) : Int) % sumI zs) ∧ chS s zs = stepR s) := by
    intro h1 h2 h3
    have ht : totR zs = sumI zs := by unfold totR; rw [if_pos ⟨h1, h2⟩]
    have hb := sumI_le zs h2
    obtain ⟨e1, e2⟩ := belV_yes (s := s) (n := sumI zs) h3 (by omega)
    unfold chV chS
    rw [ht, if_neg (by omega), if_neg (by omega), e1]
    exact ⟨rfl, rfl⟩
  generalize chV s zs = V at *
  generalize chS s zs = S at *
  generalize hn : zs.length = n at *
  have HN := Lib.hid hn
  clear hn
  go_enter Try.func30, Try.ntmps30
  go_wp2
  go_loop [6, 7] (fun x q => ∃ (k : Nat) (t : Int), k ≤ n ∧ k ≤ 65 ∧ x = .int .i64 t ∧ q = .int .i64 k ∧ 0 ≤ t ∧ t ≤ 1000 * k ∧ Hid (t = sumI (zs.take k) ∧ okI (zs.take k) = true)) (fun _ q => n - (intOf q).toNat)
  case atStart => exact ⟨0, 0, by omega, by omega, rfl, rfl, by omega, by omega, by show _ ∧ _; simp [sumI, okI]⟩
  case round =>
    obtain ⟨k, t, hk, hk65, rfl, rfl, t1, t2, HT⟩ := hrel
    by_cases hlt : k < n ∧ k < 65
    · obtain ⟨hl1, hl2⟩ := hlt
      obtain ⟨b, off, rfl, hcell⟩ := HR.out k (by rw [HN.out]; exact hl1)
      have hkz : k < zs.length := by rw [HN.out]; exact hl1
      have HX : Hid (zs[k]?.getD 0 < 0 ∨ 1000 < zs[k]?.getD 0 → okI zs = false) := okI_not zs k hkz
      have HS : Hid (0 ≤ zs[k]?.getD 0 → zs[k]?.getD 0 ≤ 1000 → t + zs[k]?.getD 0 = sumI (zs.take (k + 1)) ∧ okI (zs.take (k + 1)) = true) := by
        intro a1 a2
        rw [take_snocI zs k hkz, sumI_snoc, okI_snoc, HT.out.1, HT.out.2]
        exact ⟨rfl, by simp [a1, a2]⟩
      generalize zs[k]?.getD 0 = x at *
      by_cases x1 : x < 0
      · have E := Lib.hid (HN0.out (HX.out (.inl x1)))
        go_wp2
        go_ret2
        exact ⟨ret_iu E.out.1 (by rw [← E.out.2]), rfl⟩
      by_cases x2 : 1000 < x
      · have E := Lib.hid (HN0.out (HX.out (.inr x2)))
        go_wp2
        go_ret2
        exact ⟨ret_iu E.out.1 (by rw [← E.out.2]), rfl⟩
      go_wp2
      go_round
      case rel => exact ⟨k + 1, t + x, by omega, by omega, rfl, by go_num, by omega, by omega, HS.out (by omega) (by omega)⟩
      case measure => simp [intOf]; omega
    · by_cases hl1 : k < n
      · have hl2 : ¬ k < 65 := by omega
        have hn64 : 64 < n := by omega
        clear hlt
        have E := Lib.hid (HN1.out (.inl hn64))
        go_wp2
        go_ret2
        exact ⟨ret_iu E.out.1 (by rw [← E.out.2]), rfl⟩
      · obtain rfl : k = n := by omega
        clear hlt
        have h := HT.out
        rw [← HN.out, List.take_length] at h
        have HT1 := Lib.hid h
        clear h HT
        by_cases h64 : 64 < k
        · have E := Lib.hid (HN1.out (.inl h64))
          go_wp2
          go_ret2
          exact ⟨ret_iu E.out.1 (by rw [← E.out.2]), rfl⟩
        by_cases t0 : t = 0
        · subst t0
          have E := Lib.hid (HN1.out (.inr HT1.out.1.symm))
          go_wp2
          go_ret2
          exact ⟨ret_iu E.out.1 (by rw [← E.out.2]), rfl⟩
        have t3 : 1 ≤ t := by omega
        have tz : (t == 0) = false := by simp; omega
        have E := HN2.out (by omega) HT1.out.2 (by rw [← HT1.out.1]; exact t3)
        rw [← HT1.out.1] at E
        have ho := outR_lt (stepR s)
        generalize outR (stepR s) = o at *
        generalize stepR s = s1 at *
        have m1 := Int.emod_nonneg (o : Int) (show t ≠ 0 by omega)
        have m2 := Int.emod_lt_of_pos (o : Int) (show 0 < t by omega)
        have E1 := Lib.hid E.1
        have E2 := Lib.hid E.2
        clear E
        go_wp2_with fail
        refine (C2.out _).mono ?_
        rintro e w1 ⟨rfl, rfl⟩
        generalize hX0 : (o : Int) % t = x0 at *
        have HX0 := Lib.hid hX0
        clear hX0
        have HX1 : Hid (x0 = (o : Int) % t) := HX0.out.symm
        go_wp2
        go_loop [8, 10] (fun v q => ∃ (j : Nat) (x : Int), j ≤ k ∧ v = .int .i64 x ∧ q = .int .i64 j ∧ 0 ≤ x ∧ x ≤ 65000 ∧ Hid (PickInv zs x0 j x)) (fun _ q => k - (intOf q).toNat)
        case atStart => exact ⟨0, x0, by omega, by rw [HX1.out], rfl, m1, by omega, PickInv.start zs x0⟩
        case round =>
          obtain ⟨j, x, hj, rfl, rfl, x1, x2, HI⟩ := hrel
          have hjk : j < k := by
            rcases Nat.lt_or_ge j k with h | h
            · exact h
            · exfalso
              obtain rfl : j = k := by omega
              have h := HI.out.1
              rw [← HN.out, List.take_length, ← HT1.out.1] at h
              omega
          have hkz : j < zs.length := by rw [HN.out]; exact hjk
          obtain ⟨b, off, rfl, hcell⟩ := HR.out j hkz
          obtain ⟨y1, y2⟩ := okI_at zs j hkz HT1.out.2
          have H1 : Hid (x < zs[j]?.getD 0 → pickR zs x0 = j) := fun h => HI.out.hit hkz h
          have H2 : Hid (¬ x < zs[j]?.getD 0 → PickInv zs x0 (j + 1) (x - zs[j]?.getD 0)) := fun h => HI.out.next hkz h
          generalize zs[j]?.getD 0 = y at *
          by_cases hxy : x < y
          · have E := Lib.hid (H1.out hxy)
            go_wp2
            go_ret2
            exact ⟨ret_iu (by rw [E1.out, E.out]) (by rw [E2.out]), rfl⟩
          · have hyx : y ≤ x := by omega
            go_wp2
            go_round
            case rel => exact ⟨j + 1, x - y, by omega, rfl, by go_num, by omega, by omega, H2.out hxy⟩
            case measure => simp [intOf]; omega

theorem step0 : stepR 0 = 1442695040888963407 := by decide +kernel
theorem out0 : outR 1442695040888963407 = 2097107824 := by decide +kernel
theorem ch0 (s : Nat) : chV s [0, 5] = 1 := by
  have ht : totR [0, 5] = 5 := by decide
  have e := (belV_yes (s := s) (n := 5) (by omega) (by omega)).1
  have m1 := Int.emod_nonneg (outR (stepR s) : Int) (show (5 : Int) ≠ 0 by omega)
  have m2 := Int.emod_lt_of_pos (outR (stepR s) : Int) (show (0 : Int) < 5 by omega)
  unfold chV
  rw [ht, if_neg (by omega), e]
  generalize (outR (stepR s) : Int) % 5 = x at *
  simp [pickR, show ¬ x < 0 by omega, show x < 5 by omega]

end Go.Proofs.Ytpfkkjgklhcejaa.Rd
