/- Regions: the list of all, the minimal ones, and sums of minimal ones: mathematics. -/
import Derived.Test.YtnlgfkokaphhjaaRU
import Derived.Test.YtnlgfkokaphhjaaRL
namespace Go.Proofs.Ytnlgfkokaphhjaa
open Go.RowKit

def resL (s : SysV) : List Bt.U64 := if (allR s).length ≤ 512 then allR s else []
def resE (s : SysV) : Int := if (allR s).length ≤ 512 then 0 else 14
/-- all regions, or the error -/
def anyL (s : SysV) : List Bt.U64 := if okS s = true ∧ s.st ≤ 12 then resL s else []
def anyE (s : SysV) : Int := if okS s = true then (if s.st ≤ 12 then resE s else 2) else 15
theorem resL_yes {s : SysV} (h : (allR s).length ≤ 512) : resL s = allR s ∧ resE s = 0 := ⟨if_pos h, if_pos h⟩
theorem resL_no {s : SysV} (h : 512 < (allR s).length) : resL s = [] ∧ resE s = 14 := ⟨if_neg (by omega), if_neg (by omega)⟩
theorem any_bad {s : SysV} (h : okS s = false) : anyL s = [] ∧ anyE s = 15 := by
  unfold anyL anyE
  rw [h]
  exact ⟨rfl, rfl⟩
theorem any_wide {s : SysV} (h : okS s = true) (h2 : 12 < s.st) : anyL s = [] ∧ anyE s = 2 := by
  unfold anyL anyE
  rw [if_neg (by omega), if_pos h, if_neg (by omega)]
  exact ⟨rfl, rfl⟩
theorem any_ok {s : SysV} (h : okS s = true) (h2 : s.st ≤ 12) : anyL s = resL s ∧ anyE s = resE s := by
  unfold anyL anyE
  rw [if_pos ⟨h, h2⟩, if_pos h, if_pos h2]
  exact ⟨rfl, rfl⟩
theorem allR_len (s : SysV) : (allR s).length ≤ 2 ^ s.st.toNat := Nat.le_trans (rgU_len _ _) (by rw [zU_len]; exact Nat.le_refl _)
theorem any_few {s : SysV} (h : okS s = true) (h2 : s.st ≤ 8) : anyL s = allR s ∧ anyE s = 0 := by
  obtain ⟨e1, e2⟩ := any_ok h (show s.st ≤ 12 by omega)
  have h1 := allR_len s
  have h3 : (2 : Nat) ^ s.st.toNat ≤ 2 ^ 8 := Nat.pow_le_pow_right (by decide) (by omega)
  have h4 : (2 : Nat) ^ 8 = 256 := by decide
  obtain ⟨e3, e4⟩ := resL_yes (s := s) (by omega)
  exact ⟨e1.trans e3, e2.trans e4⟩
theorem rgU_pre (s : SysV) {L M : List Bt.U64} (h : L <+: M) : (rgU s L).length ≤ (rgU s M).length := by
  obtain ⟨r, rfl⟩ := h
  unfold rgU
  rw [List.filter_append, List.length_append]
  omega
theorem allV_pow {s : SysV} {p : Nat} (hp : s.st = p) (h : p ≤ 63) : Bt.allV s.st = 2 ^ p - 1 := by
  unfold Bt.allV
  rw [hp, Int.toNat_natCast, Nat.min_eq_left (by omega)]
theorem rg_zero {s : SysV} (h : okS s = true) (h64 : s.st ≤ 64) : isRg s 0 = true := by
  rw [rg_iff, good_iff (by decide)]
  refine ⟨⟨h, h64, fun i hi => by simp at hi⟩, fun x _ y _ _ => ?_⟩
  unfold crossZ ind Bt.hasV
  simp
theorem rg_full {s : SysV} (h : okS s = true) (h64 : s.st ≤ 64) : isRg s (Bt.allV s.st) = true := (comp_ok (by decide) (rg_zero h h64)).1
theorem rg_reg {s : SysV} {S : Nat} (h : isRg s S = true) : regB s.ar s.el S = true := by
  unfold isRg at h
  rw [Bool.and_eq_true] at h
  exact h.2
theorem rg_of {s : SysV} {S p : Nat} (h : okS s = true) (hp : s.st = p) (h63 : p ≤ 63) (hS : S < 2 ^ p) (hr : regB s.ar s.el S = true) : isRg s S = true := by
  unfold isRg goodS
  rw [h, hr, allV_pow hp h63, sub_all_lt h63 hS, decide_eq_true (by omega)]
  rfl
theorem rg_lt {s : SysV} {S p : Nat} (hp : s.st = p) (h63 : p ≤ 63) (hS : S < 18446744073709551616) (h : isRg s S = true) : S < 2 ^ p := by
  have hs := ((good_iff hS).1 (rg_iff.1 h).1).2.2
  rw [allV_pow hp h63] at hs
  refine Nat.lt_pow_two_of_testBit _ fun i hi => ?_
  cases e : S.testBit i with
  | false => rfl
  | true =>
    have := hs i e
    rw [Nat.testBit_two_pow_sub_one, decide_eq_true_eq] at this
    omega
/-- the sets between the empty one and that of all -/
def midZ (m : Nat) : List Bt.U64 := (List.range' 1 (m - 2)).map toU
def midR (s : SysV) : List Bt.U64 := rgU s (midZ (2 ^ s.st.toNat))
theorem zU_split {m : Nat} (h : 2 ≤ m) : zU m = [toU 0] ++ midZ m ++ [toU (m - 1)] := by
  obtain ⟨k, rfl⟩ : ∃ k, m = k + 2 := ⟨m - 2, by omega⟩
  unfold zU midZ
  rw [List.range_eq_range', List.range'_succ, List.range'_concat]
  simp only [List.map_cons, List.map_append, List.map_nil, Nat.add_sub_cancel, Nat.zero_add, Nat.one_mul, Nat.mul_one]
  rw [show 1 + k = k + 2 - 1 by omega]
  simp
theorem rgU_app (s : SysV) (L M : List Bt.U64) : rgU s (L ++ M) = rgU s L ++ rgU s M := by unfold rgU; rw [List.filter_append]
theorem rgU_one {s : SysV} {x : Bt.U64} (h : regB s.ar s.el x.1 = true) : rgU s [x] = [x] := by
  unfold rgU
  simp [h]
theorem two_le {p : Nat} (h : 1 ≤ p) : 2 ≤ 2 ^ p := by
  have := Nat.pow_le_pow_right (n := 2) (by decide) h
  simpa using this
theorem pow_12 {p : Nat} (h : p ≤ 12) : 2 ^ p ≤ 4096 := by
  have h1 := Nat.pow_le_pow_right (n := 2) (by decide) h
  have h2 : (2 : Nat) ^ 12 = 4096 := by decide
  omega
theorem allR_split {s : SysV} (h : okS s = true) (h12 : s.st ≤ 12) : allR s = [toU 0] ++ midR s ++ [toU (Bt.allV s.st)] := by
  have hp := okS_parts h
  obtain ⟨p, hp'⟩ : ∃ p : Nat, s.st = p := ⟨s.st.toNat, by omega⟩
  have hA := allV_pow hp' (by omega)
  unfold allR midR
  rw [hp', Int.toNat_natCast, ← hp', zU_split (two_le (by omega)), rgU_app, rgU_app, hA]
  have h4 := pow_12 (p := p) (by omega)
  rw [rgU_one (x := toU 0) (by rw [toU_val (by decide)]; exact rg_reg (rg_zero h (by omega)))]
  rw [rgU_one (x := toU (2 ^ p - 1)) (by rw [toU_val (by omega), ← hA]; exact rg_reg (rg_full h (by omega)))]
theorem mem_mid {m : Nat} (h : m ≤ 4096) {x : Bt.U64} : x ∈ midZ m ↔ 1 ≤ x.1 ∧ x.1 < m - 1 := by
  unfold midZ
  rw [List.mem_map]
  constructor
  · rintro ⟨k, hk, rfl⟩
    rw [List.mem_range'_1] at hk
    rw [toU_val (by omega)]
    omega
  · intro hx
    exact ⟨x.1, by rw [List.mem_range'_1]; omega, Bt.U64.ext (by rw [toU_val x.2])⟩
theorem mem_midR {s : SysV} (h : okS s = true) (h12 : s.st ≤ 12) {x : Bt.U64} : x ∈ midR s ↔ isRg s x.1 = true ∧ x.1 ≠ 0 ∧ x.1 ≠ Bt.allV s.st := by
  have hp := okS_parts h
  obtain ⟨p, hp'⟩ : ∃ p : Nat, s.st = p := ⟨s.st.toNat, by omega⟩
  have hA := allV_pow hp' (by omega)
  have h4 := pow_12 (p := p) (by omega)
  have h2 := two_le (p := p) (by omega)
  unfold midR rgU
  rw [List.mem_filter, hp', Int.toNat_natCast, ← hp', mem_mid h4, hA]
  constructor
  · rintro ⟨h1, h3⟩
    exact ⟨rg_of h hp' (by omega) (by omega) h3, by omega, by omega⟩
  · rintro ⟨h1, h3, h5⟩
    have := rg_lt hp' (by omega) x.2 h1
    exact ⟨by omega, rg_reg h1⟩
/-- what the reference keeps of all regions -/
theorem mid_filter {s : SysV} (h : okS s = true) (h12 : s.st ≤ 12) : (allR s).filter (fun x => decide (x.1 ≠ 0) && decide (x.1 ≠ Bt.allV s.st)) = midR s := by
  have hb := allV_lt s.st
  rw [allR_split h h12, List.filter_append, List.filter_append]
  have e1 : [toU 0].filter (fun x => decide (x.1 ≠ 0) && decide (x.1 ≠ Bt.allV s.st)) = [] := by
    rw [List.filter_cons, if_neg (by rw [toU_val (by decide)]; simp)]; rfl
  have e2 : [toU (Bt.allV s.st)].filter (fun x => decide (x.1 ≠ 0) && decide (x.1 ≠ Bt.allV s.st)) = [] := by
    rw [List.filter_cons, if_neg (by rw [toU_val hb]; simp)]; rfl
  have e3 : (midR s).filter (fun x => decide (x.1 ≠ 0) && decide (x.1 ≠ Bt.allV s.st)) = midR s := by
    rw [List.filter_eq_self]
    intro x hx
    obtain ⟨_, h1, h2⟩ := (mem_midR h h12).1 hx
    rw [decide_eq_true h1, decide_eq_true h2]
    rfl
  rw [e1, e2, e3]
  simp
def minR (s : SysV) : List Bt.U64 := Bt.minU (midR s)
/-- the minimal regions, or the error -/
def mnL (s : SysV) : List Bt.U64 := if anyE s = 0 then minR s else []
theorem mnL_yes {s : SysV} (h : anyE s = 0) : mnL s = minR s := if_pos h
theorem mnL_no {s : SysV} (h : anyE s ≠ 0) : mnL s = [] := if_neg h
theorem anyE_zero {s : SysV} (h : anyE s = 0) : okS s = true ∧ s.st ≤ 12 ∧ (allR s).length ≤ 512 := by
  unfold anyE resE at h
  by_cases h1 : okS s = true
  · rw [if_pos h1] at h
    by_cases h2 : s.st ≤ 12
    · rw [if_pos h2] at h
      by_cases h3 : (allR s).length ≤ 512
      · exact ⟨h1, h2, h3⟩
      · rw [if_neg h3] at h; exact absurd h (by decide)
    · rw [if_neg h2] at h; exact absurd h (by decide)
  · rw [if_neg h1] at h; exact absurd h (by decide)
theorem midR_len {s : SysV} (h : okS s = true) (h12 : s.st ≤ 12) : (allR s).length = (midR s).length + 2 := by
  rw [allR_split h h12]
  simp
/-! ### sums of minimal ones -/
def stR (r : Nat) (x : Bt.U64) : Nat := if x.1 ≠ 0 ∧ r &&& x.1 = x.1 then r - x.1 else r
def restK (l : List Bt.U64) (S : Nat) : Nat → Nat
  | 0 => S
  | k + 1 => stR (restK l S k) (Bt.ug l k)
theorem stR_le (r : Nat) (x : Bt.U64) : stR r x ≤ r := by unfold stR; split <;> omega
theorem restK_le (l : List Bt.U64) (S : Nat) : ∀ k, restK l S k ≤ S
  | 0 => Nat.le_refl _
  | k + 1 => Nat.le_trans (stR_le _ _) (restK_le l S k)
theorem stR_sub {r : Nat} {x : Bt.U64} (hr : r < 18446744073709551616) : SubB (stR r x) r := by
  unfold stR
  split
  · rename_i h
    have hs : SubB x.1 r := and_sub (by rw [Nat.and_comm]; exact h.2)
    intro i hi
    rw [diff_bit hr x.2 hs, Bool.and_eq_true] at hi
    exact hi.1
  · exact fun i hi => hi
theorem restK_sub {l : List Bt.U64} {S : Nat} (hS : S < 18446744073709551616) {j : Nat} : ∀ {k : Nat}, j ≤ k → SubB (restK l S k) (restK l S j)
  | 0, h => by obtain rfl : j = 0 := by omega
               exact fun i hi => hi
  | k + 1, h => by
    by_cases e : j = k + 1
    · rw [e]; exact fun i hi => hi
    · intro i hi
      exact restK_sub hS (show j ≤ k by omega) i (stR_sub (Nat.lt_of_le_of_lt (restK_le l S k) hS) i hi)
theorem restK_reg {s : SysV} {l : List Bt.U64} {S : Nat} (hS : S < 18446744073709551616) (h : isRg s S = true) (hl : ∀ x ∈ l, isRg s x.1 = true) : ∀ k, k ≤ l.length → isRg s (restK l S k) = true
  | 0, _ => h
  | k + 1, hk => by
    have ih := restK_reg hS h hl k (by omega)
    have hb := Nat.lt_of_le_of_lt (restK_le l S k) hS
    show isRg s (stR (restK l S k) (Bt.ug l k)) = true
    unfold stR
    split
    · rename_i hc
      refine diff_ok (Bt.ug l k).2 hb (hl _ ?_) ih (and_sub (by rw [Nat.and_comm]; exact hc.2))
      rw [Bt.ug_lt (by omega)]
      exact List.getElem_mem _
    · exact ih
theorem sub_and {a b : Nat} (h : SubB a b) : b &&& a = a := by
  apply Nat.eq_of_testBit_eq
  intro i
  rw [Nat.testBit_and]
  cases e : a.testBit i with
  | false => simp
  | true => rw [h i e]; rfl
theorem zero_of {a : Nat} (h : ∀ i, a.testBit i = false) : a = 0 := by
  apply Nat.eq_of_testBit_eq
  intro i
  rw [h i, Nat.zero_testBit]
theorem parts_zero {s : SysV} (h : okS s = true) (h12 : s.st ≤ 12) {S : Nat} (hS : S < 18446744073709551616) (hr : isRg s S = true) (hn : S ≠ Bt.allV s.st) :
    restK (minR s) S (minR s).length = 0 := by
  obtain ⟨_, hm, _, hc⟩ := Bt.minU_spec (midR s)
  have hmem : ∀ x ∈ minR s, isRg s x.1 = true ∧ x.1 ≠ 0 ∧ x.1 ≠ Bt.allV s.st := fun x hx => (mem_midR h h12).1 ((hm x).1 hx).1
  obtain ⟨R, hR⟩ : ∃ R, R = restK (minR s) S (minR s).length := ⟨_, rfl⟩
  have hle := restK_le (minR s) S (minR s).length
  have hreg := restK_reg hS hr (fun x hx => (hmem x hx).1) _ (Nat.le_refl _)
  have hsub := restK_sub (l := minR s) hS (Nat.zero_le (minR s).length)
  rw [← hR] at hle hreg hsub ⊢
  apply Classical.byContradiction
  intro h0
  have hA : R ≠ Bt.allV s.st := by
    intro e
    apply hn
    have hs := ((good_iff hS).1 (rg_iff.1 hr).1).2.2
    rw [e] at hsub
    apply Nat.eq_of_testBit_eq
    intro i
    cases e1 : S.testBit i with
    | true => rw [hs i e1]
    | false =>
      cases e2 : (Bt.allV s.st).testBit i with
      | false => rfl
      | true =>
        have := hsub i e2
        rw [show restK (minR s) S 0 = S from rfl, e1] at this
        exact this
  have hRb : R < 18446744073709551616 := by omega
  obtain ⟨k, hk, hks⟩ := hc ⟨R, hRb⟩ ((mem_midR h h12).2 ⟨hreg, h0, hA⟩)
  have hk' : k ∈ minR s := hk
  rw [Bt.sub_iff k.2 hRb] at hks
  have hks : SubB k.1 R := hks
  obtain ⟨j, hj, e⟩ := List.getElem_of_mem hk'
  have hb := Nat.lt_of_le_of_lt (restK_le (minR s) S j) hS
  have h1 : SubB k.1 (restK (minR s) S j) := fun i hi => restK_sub hS (show j ≤ (minR s).length by omega) i (by rw [← hR]; exact hks i hi)
  have h2 : SubB k.1 (restK (minR s) S (j + 1)) := fun i hi => restK_sub hS (show j + 1 ≤ (minR s).length by omega) i (by rw [← hR]; exact hks i hi)
  have h3 : restK (minR s) S (j + 1) = restK (minR s) S j - k.1 := by
    show stR _ _ = _
    rw [Bt.ug_lt hj, e]
    unfold stR
    rw [if_pos ⟨(hmem k hk').2.1, sub_and h1⟩]
  apply (hmem k hk').2.1
  refine zero_of fun i => ?_
  cases e1 : k.1.testBit i with
  | false => rfl
  | true =>
    have := h2 i e1
    rw [h3, diff_bit hb k.2 h1, e1] at this
    simp at this
end Go.Proofs.Ytnlgfkokaphhjaa
