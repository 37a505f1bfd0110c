/- Numerals, one by one. -/
import Derived.Test.YtengldflpkkkoaaDoorWA
namespace Go.Proofs.YtengldflpkkkoaaDoor
open Go.RowKit Go.Shelf

/-- one numeral -/
def atoiV (x : List UInt8) : Option Int := match Lib.atoiAll x with | .ok v => some v | _ => none
theorem atoiV_in {x : List UInt8} {v : Int} (h : atoiV x = some v) : -9223372036854775808 ≤ v ∧ v ≤ 9223372036854775807 := by
  unfold atoiV at h
  split at h
  · rename_i v' h'
    cases h
    have := Lib.atoiAll_bounds h'
    omega
  · cases h
theorem atoi_ok (x : List UInt8) (v : Int) (h : atoiV x = some v) (hx : x.length ≤ 100000) (w : World) :
    Calls Tryd.prog 51 #[.string ⟨x.toArray⟩] w fun e w' => e = .returned (.tuple #[.int .i64 v, .nilIface]) ∧ Below w.heap.size w w' := by
  have h' : Lib.atoiAll (⟨x.toArray⟩ : ByteArray).data.toList = .ok v := by
    unfold atoiV at h
    split at h
    · rename_i v' h'
      cases h
      exact h'
    · cases h
  refine (Tryd.strconv_Atoi_ok ⟨x.toArray⟩ (by rw [bytes_size]; omega) v h' w).mono ?_
  rintro e w' ⟨rfl, rfl | ⟨t, rfl⟩⟩
  · exact ⟨rfl, Below.refl _ _⟩
  · exact ⟨rfl, Lib.bytesWorld_below _ _ _⟩
theorem atoi_bad (x : List UInt8) (h : atoiV x = none) (hx : x.length ≤ 100000) (w : World) (hL : LaidW w) :
    Calls Tryd.prog 51 #[.string ⟨x.toArray⟩] w fun e w' => (∃ z t p, e = .returned (.tuple #[.int .i64 z, .iface t (.pointer (some p))])) ∧ Below w.heap.size w w' := by
  obtain ⟨tp, p, hs⟩ := hL.syn
  obtain ⟨tq, q, hr⟩ := hL.rng
  have hcase : Lib.atoiAll (⟨x.toArray⟩ : ByteArray).data.toList = Lib.atoiAll [] ∨ Lib.atoiAll (⟨x.toArray⟩ : ByteArray).data.toList = .range := by
    unfold atoiV at h
    show Lib.atoiAll x = _ ∨ Lib.atoiAll x = _
    rcases hc : Lib.atoiAll x with v | _ | _
    · rw [hc] at h; cases h
    · exact .inl rfl
    · exact .inr rfl
  rcases hcase with h' | h'
  · refine (Tryd.strconv_Atoi_syntax_var ⟨x.toArray⟩ (by rw [bytes_size]; omega) h' tp p w hs).mono ?_
    rintro e w' ⟨N, rfl, _, _, hb⟩
    exact ⟨⟨_, _, _, rfl⟩, hb⟩
  · refine (Tryd.strconv_Atoi_range_var ⟨x.toArray⟩ (by rw [bytes_size]; omega) h' tq q w hr).mono ?_
    rintro e w' ⟨N, rfl, _, _, hb⟩
    exact ⟨⟨_, _, _, rfl⟩, hb⟩
theorem keeps_below {D : Nat} {W W' : World} (h : Below W.heap.size W W') : KeepsFrom D W W' := ⟨h.size, fun k o _ hk _ => (h.block k (Array.getElem?_eq_some_iff.1 hk).1).trans hk⟩
theorem boxed_below {W W' : World} {B k : Nat} {t : TypeId} {v : Value} (h : Boxed W k t v) (hb : Below B W W') (hB : W.heap.size ≤ B) : Boxed W' k t v := (hb.block k (by have := h.lt; omega)).trans h
theorem keepB_below {B m : Nat} {W W' : World} (h : Below W.heap.size W W') : KeepB B m W W' := fun k _ _ hk => h.block k hk

def digB (c : UInt8) : Prop := 48 ≤ c.toNat ∧ c.toNat ≤ 57
instance (c : UInt8) : Decidable (digB c) := by unfold digB; infer_instance
theorem dig_of (d : Nat) (h : d < 10) : (UInt8.ofNat (48 + d)).toNat = 48 + d := by
  rw [UInt8.toNat_ofNat']; omega
theorem dec_small {u : Nat} (h : u < 10) : Lib.decDigits u = [UInt8.ofNat (48 + u)] := by rw [Lib.decDigits, dif_pos h]
theorem dec_big {u : Nat} (h : ¬ u < 10) : Lib.decDigits u = Lib.decDigits (u / 10) ++ [UInt8.ofNat (48 + u % 10)] := by rw [Lib.decDigits, dif_neg h]
theorem dec_dig (u : Nat) : ∀ c ∈ Lib.decDigits u, digB c := by
  induction u using Nat.strongRecOn with
  | _ u ih =>
    by_cases h : u < 10
    · rw [dec_small h]
      intro c hc
      obtain rfl := List.mem_singleton.1 hc
      unfold digB
      rw [dig_of u h]; omega
    · rw [dec_big h]
      intro c hc
      rcases List.mem_append.1 hc with hc | hc
      · exact ih _ (by omega) c hc
      · obtain rfl := List.mem_singleton.1 hc
        unfold digB
        rw [dig_of _ (by omega)]; omega
theorem dec_ne (u : Nat) : Lib.decDigits u ≠ [] := by
  by_cases h : u < 10
  · rw [dec_small h]; simp
  · rw [dec_big h]; simp
theorem dec_len : ∀ (k u : Nat), u < 10 ^ (k + 1) → (Lib.decDigits u).length ≤ k + 1
  | 0, u, h => by rw [dec_small (by simpa using h)]; simp
  | k + 1, u, h => by
    by_cases h' : u < 10
    · rw [dec_small h']; simp
    · rw [dec_big h']
      have := dec_len k (u / 10) (by rw [Nat.div_lt_iff_lt_mul (by decide)]; rw [Nat.pow_succ] at h; exact h)
      simp; omega
theorem dec_len7 {u : Nat} (h : u ≤ 1048576) : (Lib.decDigits u).length ≤ 7 := by
  have h7 : (10 : Nat) ^ (6 + 1) = 10000000 := by decide +kernel
  exact dec_len 6 u (by omega)
theorem pu_snoc : ∀ (l : List UInt8) (acc : Nat) (c : UInt8) (v : Nat), Lib.parseUint10 acc l = .ok v → Lib.parseUint10 acc (l ++ [c]) = Lib.parseUint10 v [c]
  | [], acc, c, v, h => by
    simp only [Lib.parseUint10] at h
    injection h with h
    subst h
    rfl
  | b :: r, acc, c, v, h => by
    rw [List.cons_append]
    rw [Lib.parseUint10] at h ⊢
    split at h
    · rename_i hb
      rw [if_pos hb]
      split at h
      · cases h
      · rename_i hb2
        rw [if_neg hb2]
        split at h
        · cases h
        · rename_i hb3
          rw [if_neg hb3]
          exact pu_snoc r _ c v h
    · cases h
theorem pu_one (v d : Nat) (hd : d < 10) (h : v * 10 + d < 18446744073709551616) : Lib.parseUint10 v [UInt8.ofNat (48 + d)] = .ok (v * 10 + d) := by
  rw [Lib.parseUint10, dig_of d hd, if_pos (by omega), if_neg (by omega), show v * 10 + (48 + d - 48) = v * 10 + d by omega, if_neg (by omega)]
  rfl
theorem pu_dec (u : Nat) (h : u < 18446744073709551616) : Lib.parseUint10 0 (Lib.decDigits u) = .ok u := by
  induction u using Nat.strongRecOn with
  | _ u ih =>
    by_cases h' : u < 10
    · rw [dec_small h', pu_one 0 u h' (by omega)]; simp
    · rw [dec_big h', pu_snoc _ _ _ _ (ih (u / 10) (by omega) (by omega)), pu_one _ _ (by omega) (by omega)]
      congr 1; omega
theorem atoi_dec (u : Nat) (h : u ≤ 9223372036854775807) : Lib.atoiAll (Lib.decDigits u) = .ok (u : Int) := by
  have h1 := pu_dec u (by omega)
  have hd := dec_dig u
  cases e : Lib.decDigits u with
  | nil => exact absurd e (dec_ne u)
  | cons c r =>
    rw [e] at h1 hd
    have hc := hd c (List.mem_cons_self ..)
    unfold digB at hc
    rw [Lib.atoiAll_plain c r (by omega) (by omega)]
    unfold Lib.parseMag
    rw [if_neg (by simp), h1]
    unfold Lib.signless
    simp only
    rw [if_neg (by omega)]
theorem atoiV_itoa (v : Int) (h0 : 0 ≤ v) (h1 : v ≤ 9223372036854775807) : atoiV (Lib.itoa v) = some v := by
  obtain ⟨u, rfl⟩ : ∃ u : Nat, v = u := ⟨v.toNat, by omega⟩
  unfold atoiV
  rw [Lib.itoa_nonneg, atoi_dec u (by omega)]

/-- the value of digits -/
def valN (s : List UInt8) : Nat := s.foldl (fun n c => 10 * n + (c.toNat - 48)) 0
theorem valN_snoc (s : List UInt8) (c : UInt8) : valN (s ++ [c]) = 10 * valN s + (c.toNat - 48) := by
  unfold valN; rw [List.foldl_append]; rfl
theorem valN_dec (u : Nat) : valN (Lib.decDigits u) = u := by
  induction u using Nat.strongRecOn with
  | _ u ih =>
    by_cases h : u < 10
    · rw [dec_small h, show [UInt8.ofNat (48 + u)] = [] ++ [UInt8.ofNat (48 + u)] from rfl, valN_snoc, dig_of u h]
      show 10 * 0 + _ = _
      omega
    · rw [dec_big h, valN_snoc, ih _ (by omega), dig_of _ (by omega)]; omega
theorem dec_inj {u v : Nat} (h : Lib.decDigits u = Lib.decDigits v) : u = v := by rw [← valN_dec u, h, valN_dec]
theorem dec_head {u : Nat} {r : List UInt8} : Lib.decDigits u ≠ 45 :: r := fun e => by
  have := dec_dig u 45 (by rw [e]; exact List.mem_cons_self ..)
  exact absurd this (by decide)
theorem itoa_inj {x y : Int} (h : Lib.itoa x = Lib.itoa y) : x = y := by
  unfold Lib.itoa at h
  split at h
  · split at h
    · have := dec_inj (List.cons.inj h).2; omega
    · exact absurd h.symm dec_head
  · split at h
    · exact absurd h dec_head
    · have := dec_inj h; omega
theorem itoa_ne (x : Int) : Lib.itoa x ≠ [] := by
  unfold Lib.itoa
  split
  · simp
  · exact dec_ne _
theorem itoa_minus (x : Int) : Lib.itoa x ≠ [45] := fun h => by
  unfold Lib.itoa at h
  split at h
  · exact dec_ne _ (List.cons.inj h).2
  · exact dec_head h
theorem itoa_comma (x : Int) : ∀ c ∈ Lib.itoa x, c ≠ 44 := by
  intro c hc e
  subst e
  unfold Lib.itoa at hc
  split at hc
  · rcases List.mem_cons.1 hc with h | h
    · exact absurd h (by decide)
    · exact absurd (dec_dig _ _ h) (by decide)
  · exact absurd (dec_dig _ _ hc) (by decide)

/-- what the reference takes for a number -/
def natV (s : List UInt8) (most : Int) : Int := if (∀ c ∈ s, digB c) ∧ s.length ≤ 10 ∧ Lib.itoa (valN s) = s ∧ (valN s : Int) ≤ most then (valN s : Int) else -1
theorem natV_of {s : List UInt8} {most : Int} (h : ¬ natV s most < 0) : Lib.itoa (natV s most) = s ∧ 0 ≤ natV s most ∧ natV s most ≤ most := by
  unfold natV at h ⊢
  split at h
  · rename_i hc
    rw [if_pos hc]
    exact ⟨hc.2.2.1, by omega, hc.2.2.2⟩
  · omega
theorem natV_itoa {v most : Int} (h0 : 0 ≤ v) (h1 : v ≤ most) (h2 : v ≤ 1048576) : natV (Lib.itoa v) most = v := by
  obtain ⟨u, rfl⟩ : ∃ u : Nat, v = u := ⟨v.toNat, by omega⟩
  unfold natV
  have h3 := dec_len7 (u := u) (by omega)
  rw [Lib.itoa_nonneg, valN_dec, if_pos ⟨dec_dig u, by omega, Lib.itoa_nonneg u, h1⟩]
def natO (x : List UInt8) : Option Int := if natV x 1048576 < 0 then none else some (natV x 1048576)
end Go.Proofs.YtengldflpkkkoaaDoor
