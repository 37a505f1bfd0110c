/- Event logs: Parse of Text is the log, in plain words. -/
import Derived.Test.YtgjgohnomophnaaDoorTM
namespace Go.Proofs.YtgjgohnomophnaaDoor
open Go.RowKit

theorem pieces_ext (c : UInt8) (r : Txt) (hr : ∀ y ∈ r, y ≠ c) : ∀ (l : Txt) (P : List Txt) (q : Txt), pieces c l = P ++ [q] → pieces c (l ++ r) = P ++ [q ++ r]
  | [], P, q, h => by
    have h2 : P = [] ∧ q = [] := by
      have : pieces c [] = [[]] := rfl
      rw [this] at h
      cases P with
      | nil => simp at h; exact ⟨rfl, h⟩
      | cons a t => simp at h
    obtain ⟨rfl, rfl⟩ := h2
    simpa using pieces_one c r hr
  | b :: l, P, q, h => by
    rw [List.cons_append, pieces]
    rw [pieces] at h
    by_cases hb : b = c
    · rw [if_pos hb] at h ⊢
      cases P with
      | nil =>
        simp at h
        exact absurd h.2 (pieces_ne c l)
      | cons a t =>
        simp at h
        rw [pieces_ext c r hr l t q h.2, ← h.1]
        rfl
    · rw [if_neg hb] at h ⊢
      cases hp : pieces c l with
      | nil => exact absurd hp (pieces_ne c l)
      | cons a t =>
        rw [hp] at h
        cases P with
        | nil =>
          simp at h
          have := pieces_ext c r hr l [] a (by rw [hp, h.2]; rfl)
          rw [this, ← h.1]
          rfl
        | cons a2 t2 =>
          simp at h
          have := pieces_ext c r hr l (a :: t2) q (by rw [hp, h.2]; rfl)
          rw [this, ← h.1]
          rfl
theorem pieces_snoc (c : UInt8) (r : Txt) (hr : ∀ y ∈ r, y ≠ c) : ∀ l : Txt, pieces c (l ++ c :: r) = pieces c l ++ [r]
  | [] => by
    have e : pieces c (c :: r) = [] :: pieces c r := by simp [pieces]
    rw [List.nil_append, e, pieces_one c r hr]
    rfl
  | b :: l => by
    rw [List.cons_append, pieces, pieces, pieces_snoc c r hr l]
    by_cases hb : b = c
    · rw [if_pos hb, if_pos hb]; rfl
    · rw [if_neg hb, if_neg hb]
      cases hp : pieces c l with
      | nil => exact absurd hp (pieces_ne c l)
      | cons a t => rfl
/-- a name has no blank, no end of a line, and is no dash -/
theorem name_bytes {y : Txt} (h : nmB y = true) : y ≠ [] ∧ y ≠ [45] ∧ ∀ b ∈ y, b ≠ 32 ∧ b ≠ 10 := by
  unfold nmB nameB at h
  rw [Bool.and_eq_true, Bool.and_eq_true, decide_eq_true_eq] at h
  obtain ⟨⟨h1, h2⟩, h3⟩ := h
  have hb : bytesI ⟨y.toArray⟩ = y.map fun b => (b.toNat : Int) := by simp [bytesI]
  rw [hb] at h1 h2 h3
  rw [List.length_map] at h1
  rw [List.all_eq_true] at h3
  have hm : ∀ b ∈ y, contI (b.toNat : Int) = true := fun b hb => h3 _ (List.mem_map.2 ⟨b, hb, rfl⟩)
  refine ⟨fun e => by rw [e] at h1; simp at h1, fun e => ?_, fun b hb => ⟨fun e => ?_, fun e => ?_⟩⟩
  · have := hm 45 (by rw [e]; simp)
    revert this; decide
  · have := hm b hb
    rw [e] at this
    revert this; decide
  · have := hm b hb
    rw [e] at this
    revert this; decide
def okX (x : List Txt) : Prop := x.length ≤ 64 ∧ ∀ i, i < x.length → nmB (atS x i) = true
theorem wK_pieces {x : List Txt} (h : okX x) : ∀ k, k + 1 ≤ x.length → pieces 32 (wK x (k + 1)) = x.take (k + 1)
  | 0, hk => by
    rw [wK_zero, pieces_one 32 _ fun b hb => ((name_bytes (h.2 0 hk)).2.2 b hb).1, take_atS hk]
    rfl
  | k + 1, hk => by
    have ih := wK_pieces h k (by omega)
    rw [wK_succ x (by omega), List.append_assoc, List.singleton_append, pieces_snoc 32 _ (fun b hb => ((name_bytes (h.2 (k + 1) hk)).2.2 b hb).1), ih, take_atS hk]
theorem neL_names {x : List Txt} (h : okX x) : neL x = x := by
  unfold neL
  rw [List.filter_eq_self]
  intro y hy
  obtain ⟨i, hi, rfl⟩ := List.getElem_of_mem hy
  have := h.2 i hi
  unfold atS at this
  rw [List.getElem?_eq_getElem hi] at this
  simpa using (name_bytes this).1
theorem words_row {x : List Txt} (h : okX x) : wordsL (rowT x) = if x = [] then [[45]] else x := by
  unfold rowT
  by_cases hx : x = []
  · subst hx
    rfl
  · have hl : x.length ≠ 0 := by simpa using hx
    rw [if_neg hl, if_neg hx]
    unfold wordsL
    obtain ⟨m, hm⟩ : ∃ m, x.length = m + 1 := ⟨x.length - 1, by omega⟩
    have := wK_pieces h m (by omega)
    rw [hm, this, ← hm, List.take_length, neL_names h]
theorem wK_no {x : List Txt} (h : okX x) : ∀ k, k ≤ x.length → ∀ b ∈ wK x k, b ≠ 10
  | 0, _, b, hb => by cases hb
  | k + 1, hk, b, hb => by
    have ih := wK_no h k (by omega)
    have hn := (name_bytes (h.2 k (by omega))).2.2
    rw [wK] at hb
    rcases List.mem_append.1 hb with hb | hb
    · by_cases h0 : k = 0
      · rw [if_pos h0] at hb; exact ih b hb
      · rw [if_neg h0] at hb
        rcases List.mem_append.1 hb with hb | hb
        · exact ih b hb
        · simp at hb; rw [hb]; decide
    · exact (hn b hb).2
theorem rowT_no {x : List Txt} (h : okX x) : ∀ b ∈ rowT x, b ≠ 10 := by
  intro b hb
  unfold rowT at hb
  split at hb
  · simp at hb; rw [hb]; decide
  · exact wK_no h _ (Nat.le_refl _) b hb
theorem txt_pieces {R : List (List Txt)} (h : ∀ j, j < R.length → okX (R[j]?.getD [])) : ∀ j, j ≤ R.length → pieces 10 (txtK R j) = ((R.take j).map rowT) ++ [[]]
  | 0, _ => rfl
  | j + 1, hj => by
    have ih := txt_pieces h j (by omega)
    have e : R.take (j + 1) = R.take j ++ [R[j]?.getD []] := by
      rw [List.take_succ_eq_append_getElem (by omega), List.getElem?_eq_getElem (by omega)]
      rfl
    rw [txtK, show ([10] : Txt) = 10 :: [] from rfl, pieces_snoc 10 [] (fun _ h => by cases h), pieces_ext 10 _ (rowT_no (h j (by omega))) _ _ _ ih, e, List.map_append]
    rfl
theorem line_row {acc : List (List Txt)} {x : List Txt} (h : okX x) (ha : acc.length < 64) : lineE acc (rowT x) = 0 ∧ lineN acc (rowT x) = acc ++ [x] := by
  have hw := words_row h
  by_cases hx : x = []
  · subst hx
    rw [if_pos rfl] at hw
    have hne : wordsL (rowT []) ≠ [] := by rw [hw]; decide
    have ht : trE (wordsL (rowT [])) = 0 := by rw [hw]; rfl
    refine ⟨lineE_ok hne ht (by omega), ?_⟩
    rw [lineN_some hne, hw]
    rfl
  · rw [if_neg hx] at hw
    have hd : x ≠ [[45]] := by
      rintro rfl
      exact (name_bytes (h.2 0 (by simp))).2.1 rfl
    have hne : wordsL (rowT x) ≠ [] := by rw [hw]; exact hx
    have ht : trE (wordsL (rowT x)) = 0 := by rw [hw]; exact trE_ok hd h.2 (by have := h.1; omega)
    refine ⟨lineE_ok hne ht (by omega), ?_⟩
    rw [lineN_some hne, hw, trL_no hd]
theorem parse_rows : ∀ (S : List (List Txt)) (acc : List (List Txt)) (k : Nat), (∀ x ∈ S, okX x) → acc.length + S.length ≤ 64 → parseF acc k (S.map rowT ++ [[]]) = (acc ++ S, 0, 0)
  | [], acc, k, _, _ => by
    have e0 : wordsL [] = [] := rfl
    rw [List.map_nil, List.nil_append, parseF, if_neg (by rw [lineE_none e0]; simp), lineN_none e0, List.append_nil]
    rfl
  | x :: r, acc, k, h, hl => by
    rw [List.length_cons] at hl
    obtain ⟨h1, h2⟩ := line_row (acc := acc) (h x (List.mem_cons_self ..)) (by omega)
    rw [List.map_cons, List.cons_append, parseF, if_neg (by rw [h1]; simp), h2, parse_rows r (acc ++ [x]) (k + 1) (fun y hy => h y (List.mem_cons_of_mem _ hy)) (by rw [List.length_append, List.length_singleton]; omega)]
    rw [List.append_assoc]
    rfl
/-- Parse of Text is the log -/
theorem parse_txt {R : List (List Txt)} (h : ∀ x ∈ R, okX x) (hl : R.length ≤ 64) (hs : (txtK R R.length).length ≤ 65536) : parseL (txtK R R.length) = (R, 0, 0) := by
  unfold parseL
  rw [if_neg (by omega), txt_pieces (fun j hj => h _ (by rw [List.getElem?_eq_getElem hj]; exact List.getElem_mem hj)) R.length (Nat.le_refl _), List.take_length, parse_rows R [] 0 h (by simpa using hl), List.nil_append]
end Go.Proofs.YtgjgohnomophnaaDoor
