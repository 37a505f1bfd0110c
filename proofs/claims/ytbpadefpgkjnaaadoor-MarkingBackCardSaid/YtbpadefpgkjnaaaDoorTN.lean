/- Decimal numerals and lists of them, in plain words: that the program's and the reference's readings agree. -/
import Derived.Test.YtbpadefpgkjnaaaDoorTB
namespace Go.Proofs.YtbpadefpgkjnaaaDoor
open Go.RowKit

def digB (c : UInt8) : Prop := 48 ≤ c.toNat ∧ c.toNat ≤ 57
instance (c : UInt8) : Decidable (digB c) := by unfold digB; infer_instance
theorem dig_of (d : Nat) (h : d < 10) : (UInt8.ofNat (48 + d)).toNat = 48 + d := by
  rw [UInt8.toNat_ofNat']; omega
theorem dec_small {u : Nat} (h : u < 10) : Lib.decDigits u = [UInt8.ofNat (48 + u)] := by rw [Lib.decDigits, dif_pos h]
theorem dec_big {u : Nat} (h : ¬ u < 10) : Lib.decDigits u = Lib.decDigits (u / 10) ++ [UInt8.ofNat (48 + u % 10)] := by rw [Lib.decDigits, dif_neg h]
theorem dec_dig (u : Nat) : ∀ c ∈ Lib.decDigits u, digB c := by
  induction u using Nat.strongRecOn with
  | _ u ih =>
    by_cases h : u < 10
    · rw [dec_small h]
      intro c hc
      obtain rfl := List.mem_singleton.1 hc
      unfold digB
      rw [dig_of u h]; omega
    · rw [dec_big h]
      intro c hc
      rcases List.mem_append.1 hc with hc | hc
      · exact ih _ (by omega) c hc
      · obtain rfl := List.mem_singleton.1 hc
        unfold digB
        rw [dig_of _ (by omega)]; omega
theorem dec_ne (u : Nat) : Lib.decDigits u ≠ [] := by
  by_cases h : u < 10
  · rw [dec_small h]; simp
  · rw [dec_big h]; simp
theorem dec_len : ∀ (k u : Nat), u < 10 ^ (k + 1) → (Lib.decDigits u).length ≤ k + 1
  | 0, u, h => by rw [dec_small (by simpa using h)]; simp
  | k + 1, u, h => by
    by_cases h' : u < 10
    · rw [dec_small h']; simp
    · rw [dec_big h']
      have := dec_len k (u / 10) (by rw [Nat.div_lt_iff_lt_mul (by decide)]; rw [Nat.pow_succ] at h; exact h)
      simp; omega
theorem dec_len7 {u : Nat} (h : u ≤ 1048576) : (Lib.decDigits u).length ≤ 7 := by
  have h7 : (10 : Nat) ^ (6 + 1) = 10000000 := by decide +kernel
  exact dec_len 6 u (by omega)
theorem pu_snoc : ∀ (l : List UInt8) (acc : Nat) (c : UInt8) (v : Nat), Lib.parseUint10 acc l = .ok v → Lib.parseUint10 acc (l ++ [c]) = Lib.parseUint10 v [c]
  | [], acc, c, v, h => by
    simp only [Lib.parseUint10] at h
    injection h with h
    subst h
    rfl
  | b :: r, acc, c, v, h => by
    rw [List.cons_append]
    rw [Lib.parseUint10] at h ⊢
    split at h
    · rename_i hb
      rw [if_pos hb]
      split at h
      · cases h
      · rename_i hb2
        rw [if_neg hb2]
        split at h
        · cases h
        · rename_i hb3
          rw [if_neg hb3]
          exact pu_snoc r _ c v h
    · cases h
theorem pu_one (v d : Nat) (hd : d < 10) (h : v * 10 + d < 18446744073709551616) : Lib.parseUint10 v [UInt8.ofNat (48 + d)] = .ok (v * 10 + d) := by
  rw [Lib.parseUint10, dig_of d hd, if_pos (by omega), if_neg (by omega), show v * 10 + (48 + d - 48) = v * 10 + d by omega, if_neg (by omega)]
  rfl
theorem pu_dec (u : Nat) (h : u < 18446744073709551616) : Lib.parseUint10 0 (Lib.decDigits u) = .ok u := by
  induction u using Nat.strongRecOn with
  | _ u ih =>
    by_cases h' : u < 10
    · rw [dec_small h', pu_one 0 u h' (by omega)]; simp
    · rw [dec_big h', pu_snoc _ _ _ _ (ih (u / 10) (by omega) (by omega)), pu_one _ _ (by omega) (by omega)]
      congr 1; omega
theorem atoi_dec (u : Nat) (h : u ≤ 9223372036854775807) : Lib.atoiAll (Lib.decDigits u) = .ok (u : Int) := by
  have h1 := pu_dec u (by omega)
  have hd := dec_dig u
  cases e : Lib.decDigits u with
  | nil => exact absurd e (dec_ne u)
  | cons c r =>
    rw [e] at h1 hd
    have hc := hd c (List.mem_cons_self ..)
    unfold digB at hc
    rw [Lib.atoiAll_plain c r (by omega) (by omega)]
    unfold Lib.parseMag
    rw [if_neg (by simp), h1]
    unfold Lib.signless
    simp only
    rw [if_neg (by omega)]
theorem atoiV_itoa (v : Int) (h0 : 0 ≤ v) (h1 : v ≤ 9223372036854775807) : atoiV (Lib.itoa v) = some v := by
  obtain ⟨u, rfl⟩ : ∃ u : Nat, v = u := ⟨v.toNat, by omega⟩
  unfold atoiV
  rw [Lib.itoa_nonneg, atoi_dec u (by omega)]

/-- the value of digits -/
def valN (s : List UInt8) : Nat := s.foldl (fun n c => 10 * n + (c.toNat - 48)) 0
theorem valN_snoc (s : List UInt8) (c : UInt8) : valN (s ++ [c]) = 10 * valN s + (c.toNat - 48) := by
  unfold valN; rw [List.foldl_append]; rfl
theorem valN_dec (u : Nat) : valN (Lib.decDigits u) = u := by
  induction u using Nat.strongRecOn with
  | _ u ih =>
    by_cases h : u < 10
    · rw [dec_small h, show [UInt8.ofNat (48 + u)] = [] ++ [UInt8.ofNat (48 + u)] from rfl, valN_snoc, dig_of u h]
      show 10 * 0 + _ = _
      omega
    · rw [dec_big h, valN_snoc, ih _ (by omega), dig_of _ (by omega)]; omega
theorem dec_inj {u v : Nat} (h : Lib.decDigits u = Lib.decDigits v) : u = v := by rw [← valN_dec u, h, valN_dec]
theorem dec_head {u : Nat} {r : List UInt8} : Lib.decDigits u ≠ 45 :: r := fun e => by
  have := dec_dig u 45 (by rw [e]; exact List.mem_cons_self ..)
  exact absurd this (by decide)
theorem itoa_inj {x y : Int} (h : Lib.itoa x = Lib.itoa y) : x = y := by
  unfold Lib.itoa at h
  split at h
  · split at h
    · have := dec_inj (List.cons.inj h).2; omega
    · exact absurd h.symm dec_head
  · split at h
    · exact absurd h dec_head
    · have := dec_inj h; omega
theorem itoa_ne (x : Int) : Lib.itoa x ≠ [] := by
  unfold Lib.itoa
  split
  · simp
  · exact dec_ne _
theorem itoa_minus (x : Int) : Lib.itoa x ≠ [45] := fun h => by
  unfold Lib.itoa at h
  split at h
  · exact dec_ne _ (List.cons.inj h).2
  · exact dec_head h
theorem itoa_comma (x : Int) : ∀ c ∈ Lib.itoa x, c ≠ 44 := by
  intro c hc e
  subst e
  unfold Lib.itoa at hc
  split at hc
  · rcases List.mem_cons.1 hc with h | h
    · exact absurd h (by decide)
    · exact absurd (dec_dig _ _ h) (by decide)
  · exact absurd (dec_dig _ _ hc) (by decide)

/-- what the reference takes for a number -/
def natV (s : List UInt8) (most : Int) : Int := if (∀ c ∈ s, digB c) ∧ s.length ≤ 10 ∧ Lib.itoa (valN s) = s ∧ (valN s : Int) ≤ most then (valN s : Int) else -1
theorem natV_of {s : List UInt8} {most : Int} (h : ¬ natV s most < 0) : Lib.itoa (natV s most) = s ∧ 0 ≤ natV s most ∧ natV s most ≤ most := by
  unfold natV at h ⊢
  split at h
  · rename_i hc
    rw [if_pos hc]
    exact ⟨hc.2.2.1, by omega, hc.2.2.2⟩
  · omega
theorem natV_itoa {v most : Int} (h0 : 0 ≤ v) (h1 : v ≤ most) (h2 : v ≤ 1048576) : natV (Lib.itoa v) most = v := by
  obtain ⟨u, rfl⟩ : ∃ u : Nat, v = u := ⟨v.toNat, by omega⟩
  unfold natV
  have h3 := dec_len7 (u := u) (by omega)
  rw [Lib.itoa_nonneg, valN_dec, if_pos ⟨dec_dig u, by omega, Lib.itoa_nonneg u, h1⟩]
def natO (x : List UInt8) : Option Int := if natV x 1048576 < 0 then none else some (natV x 1048576)
def natsL : List (List UInt8) → Option (List Int)
  | [] => some []
  | x :: r => match natO x, natsL r with
    | some v, some m => some (v :: m)
    | _, _ => none
theorem natsL_snoc : ∀ (pre : List (List UInt8)) (x : List UInt8), natsL (pre ++ [x]) = match natsL pre, natO x with | some m, some v => some (m ++ [v]) | _, _ => none
  | [], x => by
    simp only [List.nil_append, natsL]
    cases natO x <;> rfl
  | y :: r, x => by
    simp only [List.cons_append, natsL, natsL_snoc r x]
    cases natO y <;> cases natsL r <;> cases natO x <;> rfl
theorem natsL_bad : ∀ (a b : List (List UInt8)), natsL a = none → natsL (a ++ b) = none
  | [], b, h => by simp [natsL] at h
  | x :: r, b, h => by
    simp only [List.cons_append, natsL] at h ⊢
    cases h1 : natO x with
    | none => rfl
    | some v =>
      cases h2 : natsL r with
      | none => rw [natsL_bad r b h2]
      | some m' => rw [h1, h2] at h; cases h
/-- what the reference's Parse finds -/
def rparseL (s : List UInt8) : Option (List Int) := if s = [45] then some [] else if 24 < (pieces 44 s).length then none else natsL (pieces 44 s)

def joinL : List (List UInt8) → List UInt8
  | [] => []
  | [x] => x
  | x :: y :: r => x ++ 44 :: joinL (y :: r)
theorem joinL_snoc : ∀ (xs : List (List UInt8)) (x : List UInt8), joinL (xs ++ [x]) = joinL xs ++ (if xs = [] then [] else [44]) ++ x
  | [], x => by simp [joinL]
  | [y], x => by simp [joinL]
  | y :: z :: r, x => by
    have := joinL_snoc (z :: r) x
    simp only [List.cons_append] at this ⊢
    simp only [joinL, this]
    simp
theorem textTo_join (a : List Int) : ∀ k, k ≤ a.length → textTo a k = joinL ((a.take k).map Lib.itoa)
  | 0, _ => by simp [textTo, joinL]
  | k + 1, h => by
    have e : a.take (k + 1) = a.take k ++ [at0 a k] := by
      rw [List.take_succ_eq_append_getElem (by omega)]
      simp [at0, show k < a.length by omega]
    rw [e, List.map_append, List.map_singleton, joinL_snoc, textTo, textTo_join a k (by omega)]
    congr 2
    by_cases h0 : k = 0
    · subst h0; simp
    · rw [if_neg h0, if_neg]
      intro e
      rw [List.map_eq_nil_iff, List.take_eq_nil_iff] at e
      rcases e with e | e
      · exact h0 e
      · subst e; simp at h
theorem textL_join {a : List Int} (h : a ≠ []) : textL a = joinL (a.map Lib.itoa) := by
  unfold textL
  rw [if_neg h, textTo_join a a.length (Nat.le_refl _), List.take_length]
theorem pieces_one : ∀ l : List UInt8, (∀ c ∈ l, c ≠ 44) → pieces 44 l = [l]
  | [], _ => rfl
  | b :: r, h => by
    rw [pieces, if_neg (h b (List.mem_cons_self ..)), pieces_one r fun c hc => h c (List.mem_cons_of_mem _ hc)]
theorem pieces_app : ∀ (l r : List UInt8), (∀ c ∈ l, c ≠ 44) → pieces 44 (l ++ 44 :: r) = l :: pieces 44 r
  | [], r, _ => by simp [pieces]
  | b :: l, r, h => by
    rw [List.cons_append, pieces, if_neg (h b (List.mem_cons_self ..)), pieces_app l r fun c hc => h c (List.mem_cons_of_mem _ hc)]
theorem pieces_join : ∀ xs : List (List UInt8), xs ≠ [] → (∀ x ∈ xs, ∀ c ∈ x, c ≠ 44) → pieces 44 (joinL xs) = xs
  | [], h, _ => absurd rfl h
  | [x], _, h => pieces_one x (h x (List.mem_cons_self ..))
  | x :: y :: r, _, h => by
    rw [joinL, pieces_app x _ (h x (List.mem_cons_self ..)), pieces_join (y :: r) (by simp) fun z hz => h z (List.mem_cons_of_mem _ hz)]
theorem join_pieces : ∀ l : List UInt8, joinL (pieces 44 l) = l
  | [] => rfl
  | b :: r => by
    have ih := join_pieces r
    rw [pieces]
    split
    · rename_i hb
      subst hb
      cases e : pieces 44 r with
      | nil => exact absurd e (pieces_ne 44 r)
      | cons x t => rw [e] at ih; rw [joinL, ih]; rfl
    · cases e : pieces 44 r with
      | nil => exact absurd e (pieces_ne 44 r)
      | cons x t =>
        rw [e] at ih
        cases t with
        | nil => simp only [joinL] at ih ⊢; rw [ih]
        | cons y u => simp only [joinL] at ih ⊢; rw [← ih]; rfl
theorem pieces_text {a : List Int} (h : a ≠ []) : pieces 44 (textL a) = a.map Lib.itoa := by
  rw [textL_join h, pieces_join _ (by simpa using h)]
  intro x hx
  obtain ⟨v, _, rfl⟩ := List.mem_map.1 hx
  exact itoa_comma v
theorem map_itoa_inj : ∀ a b : List Int, a.map Lib.itoa = b.map Lib.itoa → a = b
  | [], [], _ => rfl
  | [], _ :: _, h => by simp at h
  | _ :: _, [], h => by simp at h
  | x :: r, y :: t, h => by
    simp only [List.map_cons, List.cons.injEq] at h
    rw [itoa_inj h.1, map_itoa_inj r t h.2]
theorem text_minus {a : List Int} (h : a ≠ []) : textL a ≠ [45] := fun e => by
  have h1 := pieces_text h
  rw [e] at h1
  have h2 : pieces 44 [45] = [[45]] := by decide
  rw [h2] at h1
  match a, h with
  | x :: r, _ =>
    simp only [List.map_cons, List.cons.injEq] at h1
    exact itoa_minus x h1.1.symm
theorem text_inj {a b : List Int} (h : textL a = textL b) : a = b := by
  by_cases ha : a = []
  · subst ha
    by_cases hb : b = []
    · exact hb.symm
    · exact absurd h.symm (text_minus hb)
  · by_cases hb : b = []
    · subst hb
      exact absurd h (text_minus ha)
    · exact map_itoa_inj a b (by rw [← pieces_text ha, ← pieces_text hb, h])
theorem nat_all {a : List Int} : natL a = true ↔ ∀ x ∈ a, NatP x := by
  unfold natL
  rw [allB_iff]
  constructor
  · intro h x hx
    obtain ⟨k, hk, rfl⟩ := List.getElem_of_mem hx
    have := h k hk
    simpa [at0, hk] using this
  · intro h k hk
    have := h _ (List.getElem_mem hk)
    simpa [at0, hk] using this
theorem total_iff {a : List Int} : ¬ totalL a < 0 ↔ a.length ≤ 24 ∧ natL a = true := by
  constructor
  · intro h
    by_cases hc : a.length ≤ 24 ∧ natL a = true
    · exact hc
    · exact absurd (by unfold totalL; rw [if_neg hc]; decide) h
  · intro hc
    unfold totalL
    rw [if_pos hc]
    have := (sumTo_bound a hc.2 a.length (Nat.le_refl _)).1
    omega
theorem nums_itoa : ∀ a : List Int, (∀ x ∈ a, NatP x) → numsL (a.map Lib.itoa) = some a
  | [], _ => rfl
  | x :: r, h => by
    have hx := h x (List.mem_cons_self ..)
    unfold NatP at hx
    rw [List.map_cons, numsL, nums_itoa r fun y hy => h y (List.mem_cons_of_mem _ hy), atoiV_itoa x hx.1 (by omega)]
theorem nats_itoa : ∀ a : List Int, (∀ x ∈ a, NatP x) → natsL (a.map Lib.itoa) = some a
  | [], _ => rfl
  | x :: r, h => by
    have hx := h x (List.mem_cons_self ..)
    unfold NatP at hx
    have e : natV (Lib.itoa x) 1048576 = x := natV_itoa hx.1 hx.2 hx.2
    rw [List.map_cons, natsL, nats_itoa r fun y hy => h y (List.mem_cons_of_mem _ hy)]
    unfold natO
    rw [e, if_neg (by omega)]
theorem nats_of : ∀ (l : List (List UInt8)) (m : List Int), natsL l = some m → l = m.map Lib.itoa ∧ ∀ x ∈ m, NatP x
  | [], m, h => by simp [natsL] at h; subst h; exact ⟨rfl, fun _ h => by cases h⟩
  | x :: r, m, h => by
    simp only [natsL] at h
    cases h1 : natO x with
    | none => rw [h1] at h; cases h
    | some v =>
      cases h2 : natsL r with
      | none => rw [h1, h2] at h; cases h
      | some m' =>
        rw [h1, h2] at h
        cases h
        obtain ⟨e1, e2⟩ := nats_of r m' h2
        unfold natO at h1
        split at h1
        · cases h1
        · rename_i hv
          cases h1
          obtain ⟨f1, f2, f3⟩ := natV_of hv
          refine ⟨by rw [List.map_cons, f1, ← e1], fun z hz => ?_⟩
          rcases List.mem_cons.1 hz with rfl | hz
          · exact ⟨f2, f3⟩
          · exact e2 z hz
theorem join_len : ∀ xs : List (List UInt8), (∀ x ∈ xs, x.length ≤ 7) → (joinL xs).length ≤ 8 * xs.length - 1
  | [], _ => by simp [joinL]
  | [x], h => by have := h x (List.mem_cons_self ..); simp [joinL]; omega
  | x :: y :: r, h => by
    have h1 := h x (List.mem_cons_self ..)
    have h2 := join_len (y :: r) fun z hz => h z (List.mem_cons_of_mem _ hz)
    simp only [joinL, List.length_append, List.length_cons] at h2 ⊢
    omega
/-- a text of a marking -/
def Good (s : List UInt8) (m : List Int) : Prop := m.length ≤ 24 ∧ natL m = true ∧ s = textL m
theorem good_len {s : List UInt8} {m : List Int} (h : Good s m) : s.length ≤ 191 := by
  obtain ⟨h1, h2, rfl⟩ := h
  by_cases hm : m = []
  · subst hm; decide
  · rw [textL_join hm]
    have := join_len (m.map Lib.itoa) (by
      intro x hx
      obtain ⟨v, hv, rfl⟩ := List.mem_map.1 hx
      have hp := nat_all.1 h2 v hv
      unfold NatP at hp
      obtain ⟨u, rfl⟩ : ∃ u : Nat, v = u := ⟨v.toNat, by omega⟩
      rw [Lib.itoa_nonneg]
      exact dec_len7 (by omega))
    rw [List.length_map] at this
    omega
theorem parse_iff (s : List UInt8) (m : List Int) : parseL s = some m ↔ Good s m := by
  unfold parseL
  constructor
  · intro h
    split at h
    · rename_i hs
      cases h
      exact ⟨by simp, by decide, hs⟩
    · split at h
      · cases h
      · split at h
        · cases h
        · rename_i m' hm
          split at h
          · cases h
          · rename_i hc
            cases h
            obtain ⟨t1, t2⟩ := total_iff.1 fun e => hc (.inl e)
            exact ⟨t1, t2, Classical.byContradiction fun e => hc (.inr fun e' => e e'.symm)⟩
  · intro h
    have hl := good_len h
    obtain ⟨h1, h2, rfl⟩ := h
    by_cases hm : m = []
    · subst hm; rfl
    · rw [if_neg (text_minus hm), if_neg (by omega), pieces_text hm, nums_itoa m (nat_all.1 h2)]
      exact if_neg fun e => e.elim (total_iff.2 ⟨h1, h2⟩) (fun e => e rfl)
theorem rparse_iff (s : List UInt8) (m : List Int) : rparseL s = some m ↔ Good s m := by
  unfold rparseL
  constructor
  · intro h
    split at h
    · rename_i hs
      cases h
      exact ⟨by simp, by decide, hs⟩
    · split at h
      · cases h
      · rename_i hl
        obtain ⟨e1, e2⟩ := nats_of _ _ h
        have hm : m ≠ [] := fun e => by subst e; exact pieces_ne 44 s e1
        rw [e1, List.length_map] at hl
        exact ⟨by omega, nat_all.2 e2, by rw [textL_join hm, ← e1, join_pieces]⟩
  · rintro ⟨h1, h2, rfl⟩
    by_cases hm : m = []
    · subst hm; rfl
    · rw [if_neg (text_minus hm), pieces_text hm, List.length_map, if_neg (by omega), nats_itoa m (nat_all.1 h2)]
theorem parse_eq (s : List UInt8) : parseL s = rparseL s := by
  cases h : rparseL s with
  | some m => exact (parse_iff s m).2 ((rparse_iff s m).1 h)
  | none =>
    cases g : parseL s with
    | none => rfl
    | some m => rw [(rparse_iff s m).2 ((parse_iff s m).1 g)] at h; cases h
theorem parse_text {a : List Int} (h : ¬ totalL a < 0) : parseL (textL a) = some a := (parse_iff _ _).2 ⟨(total_iff.1 h).1, (total_iff.1 h).2, rfl⟩
theorem parse_text_bad {a : List Int} (h : totalL a < 0) : parseL (textL a) = none := by
  cases g : parseL (textL a) with
  | none => rfl
  | some m =>
    obtain ⟨h1, h2, h3⟩ := (parse_iff _ _).1 g
    obtain rfl := text_inj h3
    exact absurd h (total_iff.2 ⟨h1, h2⟩)
theorem text_parse {s : List UInt8} {m : List Int} (h : parseL s = some m) : textL m = s := ((parse_iff _ _).1 h).2.2.symm
theorem parse_len {s : List UInt8} {m : List Int} (h : parseL s = some m) : m.length ≤ 24 := ((parse_iff _ _).1 h).1
theorem parse_in64 {s : List UInt8} {m : List Int} (h : parseL s = some m) : In64 m := fun x hx => by
  have := nat_all.1 ((parse_iff _ _).1 h).2.1 x hx
  unfold NatP at this
  omega
end Go.Proofs.YtbpadefpgkjnaaaDoor
