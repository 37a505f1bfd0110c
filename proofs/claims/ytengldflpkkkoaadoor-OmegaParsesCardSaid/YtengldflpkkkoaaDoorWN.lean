/- Texts of extended markings, in plain words: that the readings of the program and of the reference agree. -/
import Derived.Test.YtengldflpkkkoaaDoorWB
namespace Go.Proofs.YtengldflpkkkoaaDoor
open Go.RowKit Go.Shelf

theorem itoa_w (x : Int) : Lib.itoa x ≠ [119] := fun h => by
  unfold Lib.itoa at h
  split at h
  · exact absurd (List.cons.inj h).1 (by decide)
  · have := dec_dig x.toNat 119 (by rw [h]; exact List.mem_cons_self ..)
    exact absurd this (by decide)
theorem eW_inj {x y : Int} (h : eW x = eW y) : x = y := by
  unfold eW at h
  split at h
  · split at h
    · omega
    · exact absurd h.symm (itoa_w y)
  · split at h
    · exact absurd h (itoa_w x)
    · exact itoa_inj h
theorem eW_minus (x : Int) : eW x ≠ [45] := by
  unfold eW
  split
  · decide
  · exact itoa_minus x
theorem eW_comma (x : Int) : ∀ c ∈ eW x, c ≠ 44 := by
  unfold eW
  split
  · intro c hc
    obtain rfl := List.mem_singleton.1 hc
    decide
  · exact itoa_comma x
/-- one element out of its text, by the program and by the reference -/
def elemO (x : List UInt8) : Option Int := if x = [119] then some (-1) else atoiV x
def natW1 (x : List UInt8) : Option Int := if x = [119] then some (-1) else natO x
theorem elemO_eW {x : Int} (h : okW x = true) : elemO (eW x) = some x := by
  rw [okW_iff] at h
  by_cases hx : x = -1
  · subst hx; rfl
  · rw [eW_no hx]
    unfold elemO
    rw [if_neg (itoa_w x)]
    exact atoiV_itoa x (by omega) (by omega)
theorem natW1_eW {x : Int} (h : okW x = true) : natW1 (eW x) = some x := by
  rw [okW_iff] at h
  by_cases hx : x = -1
  · subst hx; rfl
  · rw [eW_no hx]
    unfold natW1
    rw [if_neg (itoa_w x)]
    unfold natO
    rw [natV_itoa (by omega) (by omega) (by omega), if_neg (by omega)]
theorem natW1_of {t : List UInt8} {x : Int} (h : natW1 t = some x) : t = eW x ∧ okW x = true := by
  unfold natW1 at h
  split at h
  · rename_i ht
    cases h
    exact ⟨ht, by decide⟩
  · unfold natO at h
    split at h
    · cases h
    · rename_i hv
      cases h
      obtain ⟨f1, f2, f3⟩ := natV_of hv
      exact ⟨by rw [eW_no (by omega), f1], by rw [okW_iff]; omega⟩
theorem elemO_in {x : List UInt8} {v : Int} (h : elemO x = some v) : -9223372036854775808 ≤ v ∧ v ≤ 9223372036854775807 := by
  unfold elemO at h
  split at h
  · cases h; omega
  · exact atoiV_in h
def numsL : List (List UInt8) → Option (List Int)
  | [] => some []
  | x :: r => match elemO x, numsL r with
    | some v, some m => some (v :: m)
    | _, _ => none
theorem numsL_snoc : ∀ (pre : List (List UInt8)) (x : List UInt8), numsL (pre ++ [x]) = match numsL pre, elemO x with | some m, some v => some (m ++ [v]) | _, _ => none
  | [], x => by
    simp only [List.nil_append, numsL]
    cases elemO x <;> rfl
  | y :: r, x => by
    simp only [List.cons_append, numsL, numsL_snoc r x]
    cases elemO y <;> cases numsL r <;> cases elemO x <;> rfl
theorem numsL_bad : ∀ (a b : List (List UInt8)), numsL a = none → numsL (a ++ b) = none
  | [], b, h => by simp [numsL] at h
  | x :: r, b, h => by
    simp only [List.cons_append, numsL] at h ⊢
    cases h1 : elemO x with
    | none => rfl
    | some v =>
      cases h2 : numsL r with
      | none => rw [numsL_bad r b h2]
      | some m' => rw [h1, h2] at h; cases h
theorem numsL_eW : ∀ a : List Int, (∀ x ∈ a, okW x = true) → numsL (a.map eW) = some a
  | [], _ => rfl
  | x :: r, h => by rw [List.map_cons, numsL, numsL_eW r fun y hy => h y (List.mem_cons_of_mem _ hy), elemO_eW (h x (List.mem_cons_self ..))]
theorem numsL_len : ∀ (l : List (List UInt8)) (m : List Int), numsL l = some m → m.length = l.length
  | [], m, h => by simp [numsL] at h; subst h; rfl
  | x :: r, m, h => by
    simp only [numsL] at h
    cases h1 : elemO x with
    | none => rw [h1] at h; cases h
    | some v =>
      cases h2 : numsL r with
      | none => rw [h1, h2] at h; cases h
      | some m' =>
        rw [h1, h2] at h
        cases h
        simp [numsL_len r m' h2]
def natsL : List (List UInt8) → Option (List Int)
  | [] => some []
  | x :: r => match natW1 x, natsL r with
    | some v, some m => some (v :: m)
    | _, _ => none
theorem natsL_snoc : ∀ (pre : List (List UInt8)) (x : List UInt8), natsL (pre ++ [x]) = match natsL pre, natW1 x with | some m, some v => some (m ++ [v]) | _, _ => none
  | [], x => by
    simp only [List.nil_append, natsL]
    cases natW1 x <;> rfl
  | y :: r, x => by
    simp only [List.cons_append, natsL, natsL_snoc r x]
    cases natW1 y <;> cases natsL r <;> cases natW1 x <;> rfl
theorem natsL_bad : ∀ (a b : List (List UInt8)), natsL a = none → natsL (a ++ b) = none
  | [], b, h => by simp [natsL] at h
  | x :: r, b, h => by
    simp only [List.cons_append, natsL] at h ⊢
    cases h1 : natW1 x with
    | none => rfl
    | some v =>
      cases h2 : natsL r with
      | none => rw [natsL_bad r b h2]
      | some m' => rw [h1, h2] at h; cases h
theorem natsL_eW : ∀ a : List Int, (∀ x ∈ a, okW x = true) → natsL (a.map eW) = some a
  | [], _ => rfl
  | x :: r, h => by rw [List.map_cons, natsL, natsL_eW r fun y hy => h y (List.mem_cons_of_mem _ hy), natW1_eW (h x (List.mem_cons_self ..))]
theorem natsL_len : ∀ (l : List (List UInt8)) (m : List Int), natsL l = some m → m.length = l.length
  | [], m, h => by simp [natsL] at h; subst h; rfl
  | x :: r, m, h => by
    simp only [natsL] at h
    cases h1 : natW1 x with
    | none => rw [h1] at h; cases h
    | some v =>
      cases h2 : natsL r with
      | none => rw [h1, h2] at h; cases h
      | some m' =>
        rw [h1, h2] at h
        cases h
        simp [natsL_len r m' h2]
theorem numsL_in : ∀ (l : List (List UInt8)) (m : List Int), numsL l = some m → In64 m
  | [], m, h => by simp [numsL] at h; subst h; exact in_nil
  | x :: r, m, h => by
    simp only [numsL] at h
    cases h1 : elemO x with
    | none => rw [h1] at h; cases h
    | some v =>
      cases h2 : numsL r with
      | none => rw [h1, h2] at h; cases h
      | some m' =>
        rw [h1, h2] at h
        cases h
        intro z hz
        rcases List.mem_cons.1 hz with rfl | hz
        · exact elemO_in h1
        · exact numsL_in r m' h2 z hz
theorem natsL_of : ∀ (l : List (List UInt8)) (m : List Int), natsL l = some m → l = m.map eW ∧ ∀ x ∈ m, okW x = true
  | [], m, h => by simp [natsL] at h; subst h; exact ⟨rfl, fun _ h => by cases h⟩
  | x :: r, m, h => by
    simp only [natsL] at h
    cases h1 : natW1 x with
    | none => rw [h1] at h; cases h
    | some v =>
      cases h2 : natsL r with
      | none => rw [h1, h2] at h; cases h
      | some m' =>
        rw [h1, h2] at h
        cases h
        obtain ⟨e1, e2⟩ := natsL_of r m' h2
        obtain ⟨f1, f2⟩ := natW1_of h1
        refine ⟨by rw [List.map_cons, ← f1, ← e1], fun z hz => ?_⟩
        rcases List.mem_cons.1 hz with rfl | hz
        · exact f2
        · exact e2 z hz
def joinL : List (List UInt8) → List UInt8
  | [] => []
  | [x] => x
  | x :: y :: r => x ++ 44 :: joinL (y :: r)
theorem joinL_snoc : ∀ (xs : List (List UInt8)) (x : List UInt8), joinL (xs ++ [x]) = joinL xs ++ (if xs = [] then [] else [44]) ++ x
  | [], x => by simp [joinL]
  | [y], x => by simp [joinL]
  | y :: z :: r, x => by
    have := joinL_snoc (z :: r) x
    simp only [List.cons_append] at this ⊢
    simp only [joinL, this]
    simp
theorem textTo_join (a : List Int) : ∀ k, k ≤ a.length → textTo a k = joinL ((a.take k).map eW)
  | 0, _ => by simp [textTo, joinL]
  | k + 1, h => by
    have e : a.take (k + 1) = a.take k ++ [at0 a k] := by
      rw [List.take_succ_eq_append_getElem (by omega)]
      simp [at0, show k < a.length by omega]
    rw [e, List.map_append, List.map_singleton, joinL_snoc, textTo, textTo_join a k (by omega)]
    congr 2
    by_cases h0 : k = 0
    · subst h0; simp
    · rw [if_neg h0, if_neg]
      intro e
      rw [List.map_eq_nil_iff, List.take_eq_nil_iff] at e
      rcases e with e | e
      · exact h0 e
      · subst e; simp at h
theorem textL_join {a : List Int} (h : a ≠ []) : textL a = joinL (a.map eW) := by
  unfold textL
  rw [if_neg h, textTo_join a a.length (Nat.le_refl _), List.take_length]
theorem pieces_one : ∀ l : List UInt8, (∀ c ∈ l, c ≠ 44) → pieces 44 l = [l]
  | [], _ => rfl
  | b :: r, h => by
    rw [pieces, if_neg (h b (List.mem_cons_self ..)), pieces_one r fun c hc => h c (List.mem_cons_of_mem _ hc)]
theorem pieces_app : ∀ (l r : List UInt8), (∀ c ∈ l, c ≠ 44) → pieces 44 (l ++ 44 :: r) = l :: pieces 44 r
  | [], r, _ => by simp [pieces]
  | b :: l, r, h => by
    rw [List.cons_append, pieces, if_neg (h b (List.mem_cons_self ..)), pieces_app l r fun c hc => h c (List.mem_cons_of_mem _ hc)]
theorem pieces_join : ∀ xs : List (List UInt8), xs ≠ [] → (∀ x ∈ xs, ∀ c ∈ x, c ≠ 44) → pieces 44 (joinL xs) = xs
  | [], h, _ => absurd rfl h
  | [x], _, h => pieces_one x (h x (List.mem_cons_self ..))
  | x :: y :: r, _, h => by
    rw [joinL, pieces_app x _ (h x (List.mem_cons_self ..)), pieces_join (y :: r) (by simp) fun z hz => h z (List.mem_cons_of_mem _ hz)]
theorem join_pieces : ∀ l : List UInt8, joinL (pieces 44 l) = l
  | [] => rfl
  | b :: r => by
    have ih := join_pieces r
    rw [pieces]
    split
    · rename_i hb
      subst hb
      cases e : pieces 44 r with
      | nil => exact absurd e (pieces_ne 44 r)
      | cons x t => rw [e] at ih; rw [joinL, ih]; rfl
    · cases e : pieces 44 r with
      | nil => exact absurd e (pieces_ne 44 r)
      | cons x t =>
        rw [e] at ih
        cases t with
        | nil => simp only [joinL] at ih ⊢; rw [ih]
        | cons y u => simp only [joinL] at ih ⊢; rw [← ih]; rfl
theorem pieces_text {a : List Int} (h : a ≠ []) : pieces 44 (textL a) = a.map eW := by
  rw [textL_join h, pieces_join _ (by simpa using h)]
  intro x hx
  obtain ⟨v, _, rfl⟩ := List.mem_map.1 hx
  exact eW_comma v
theorem map_eW_inj : ∀ a b : List Int, a.map eW = b.map eW → a = b
  | [], [], _ => rfl
  | [], _ :: _, h => by simp at h
  | _ :: _, [], h => by simp at h
  | x :: r, y :: t, h => by
    simp only [List.map_cons, List.cons.injEq] at h
    rw [eW_inj h.1, map_eW_inj r t h.2]
theorem text_minus {a : List Int} (h : a ≠ []) : textL a ≠ [45] := fun e => by
  have h1 := pieces_text h
  rw [e] at h1
  have h2 : pieces 44 [45] = [[45]] := by decide
  rw [h2] at h1
  match a, h with
  | x :: r, _ =>
    simp only [List.map_cons, List.cons.injEq] at h1
    exact eW_minus x h1.1.symm
theorem text_inj {a b : List Int} (h : textL a = textL b) : a = b := by
  by_cases ha : a = []
  · subst ha
    by_cases hb : b = []
    · exact hb.symm
    · exact absurd h.symm (text_minus hb)
  · by_cases hb : b = []
    · subst hb
      exact absurd h (text_minus ha)
    · exact map_eW_inj a b (by rw [← pieces_text ha, ← pieces_text hb, h])
theorem join_len : ∀ xs : List (List UInt8), (∀ x ∈ xs, x.length ≤ 7) → (joinL xs).length ≤ 8 * xs.length - 1
  | [], _ => by simp [joinL]
  | [x], h => by have := h x (List.mem_cons_self ..); simp [joinL]; omega
  | x :: y :: r, h => by
    have h1 := h x (List.mem_cons_self ..)
    have h2 := join_len (y :: r) fun z hz => h z (List.mem_cons_of_mem _ hz)
    simp only [joinL, List.length_append, List.length_cons] at h2 ⊢
    omega
theorem val_all {a : List Int} : valW a = true ↔ ∀ x ∈ a, okW x = true := List.all_eq_true
/-- what Parse finds, by the program and by the reference -/
def parseL (s : List UInt8) : Option (List Int) :=
  if s = [45] then some [] else if 191 < s.length then none else
  match numsL (pieces 44 s) with
  | none => none
  | some m => if 24 < m.length ∨ valW m = false ∨ textL m ≠ s then none else some m
def rparseL (s : List UInt8) : Option (List Int) :=
  if s = [45] then some [] else if 24 < (pieces 44 s).length then none else
  match natsL (pieces 44 s) with
  | none => none
  | some m => if textL m ≠ s then none else some m
def Good (s : List UInt8) (m : List Int) : Prop := m.length ≤ 24 ∧ valW m = true ∧ s = textL m
theorem good_len {s : List UInt8} {m : List Int} (h : Good s m) : s.length ≤ 191 := by
  obtain ⟨h1, h2, rfl⟩ := h
  by_cases hm : m = []
  · subst hm; decide
  · rw [textL_join hm]
    have := join_len (m.map eW) (by
      intro x hx
      obtain ⟨v, hv, rfl⟩ := List.mem_map.1 hx
      have hp := val_all.1 h2 v hv
      rw [okW_iff] at hp
      by_cases hv1 : v = -1
      · subst hv1; decide
      · rw [eW_no hv1]
        obtain ⟨u, rfl⟩ : ∃ u : Nat, v = u := ⟨v.toNat, by omega⟩
        rw [Lib.itoa_nonneg]
        exact dec_len7 (by omega))
    rw [List.length_map] at this
    omega
theorem parse_iff (s : List UInt8) (m : List Int) : parseL s = some m ↔ Good s m := by
  unfold parseL
  constructor
  · intro h
    split at h
    · rename_i hs
      cases h
      exact ⟨by simp, by decide, hs⟩
    · split at h
      · cases h
      · split at h
        · cases h
        · rename_i m' hm
          split at h
          · cases h
          · rename_i hc
            cases h
            refine ⟨Nat.not_lt.1 fun e => hc (.inl e), ?_, Classical.byContradiction fun e => hc (.inr (.inr fun e' => e e'.symm))⟩
            cases hv : valW m with
            | true => rfl
            | false => exact absurd (.inr (.inl hv)) hc
  · intro h
    have hl := good_len h
    obtain ⟨h1, h2, rfl⟩ := h
    by_cases hm : m = []
    · subst hm; rfl
    · rw [if_neg (text_minus hm), if_neg (by omega), pieces_text hm, numsL_eW m (val_all.1 h2)]
      exact if_neg fun e => e.elim (fun e => by omega) (fun e => e.elim (fun e => by rw [h2] at e; cases e) (fun e => e rfl))
theorem rparse_iff (s : List UInt8) (m : List Int) : rparseL s = some m ↔ Good s m := by
  unfold rparseL
  constructor
  · intro h
    split at h
    · rename_i hs
      cases h
      exact ⟨by simp, by decide, hs⟩
    · split at h
      · cases h
      · rename_i hl
        split at h
        · cases h
        · rename_i m' hm
          split at h
          · cases h
          · rename_i hc
            cases h
            obtain ⟨e1, e2⟩ := natsL_of _ _ hm
            rw [e1, List.length_map] at hl
            exact ⟨by omega, val_all.2 e2, Classical.byContradiction fun e => hc fun e' => e e'.symm⟩
  · rintro ⟨h1, h2, rfl⟩
    by_cases hm : m = []
    · subst hm; rfl
    · rw [if_neg (text_minus hm), pieces_text hm, List.length_map, if_neg (by omega), natsL_eW m (val_all.1 h2)]
      exact if_neg fun e => e rfl
theorem parse_eq (s : List UInt8) : parseL s = rparseL s := by
  cases h : rparseL s with
  | some m => exact (parse_iff s m).2 ((rparse_iff s m).1 h)
  | none =>
    cases g : parseL s with
    | none => rfl
    | some m => rw [(rparse_iff s m).2 ((parse_iff s m).1 g)] at h; cases h
theorem parse_text {a : List Int} (h1 : a.length ≤ 24) (h2 : valW a = true) : parseL (textL a) = some a := (parse_iff _ _).2 ⟨h1, h2, rfl⟩
theorem parse_text_bad {a : List Int} (h : ¬ (valW a = true ∧ a.length ≤ 24)) : parseL (textL a) = none := by
  cases g : parseL (textL a) with
  | none => rfl
  | some m =>
    obtain ⟨h1, h2, h3⟩ := (parse_iff _ _).1 g
    obtain rfl := text_inj h3
    exact absurd ⟨h2, h1⟩ h
theorem parse_len {s : List UInt8} {m : List Int} (h : parseL s = some m) : m.length ≤ 24 := ((parse_iff _ _).1 h).1
end Go.Proofs.YtengldflpkkkoaaDoor
