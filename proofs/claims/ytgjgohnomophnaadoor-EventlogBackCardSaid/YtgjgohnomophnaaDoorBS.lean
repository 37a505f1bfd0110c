/- Event logs: more blanks and more lines change nothing that Parse reads. -/
import Derived.Test.YtgjgohnomophnaaDoorBM
namespace Go.Proofs.YtgjgohnomophnaaDoor
open Go.RowKit

/-- each blank and each end of a line m times more -/
def spB (m : Nat) (b : UInt8) : Txt := if b = 32 ∨ b = 10 then List.replicate (m + 1) b else [b]
def spT (m : Nat) (s : Txt) : Txt := s.flatMap (spB m)
theorem spT_app (m : Nat) (a b : Txt) : spT m (a ++ b) = spT m a ++ spT m b := by simp [spT]
theorem spT_plain (m : Nat) {s : Txt} (h : ∀ b ∈ s, b ≠ 32 ∧ b ≠ 10) : spT m s = s := by
  induction s with
  | nil => rfl
  | cons b r ih =>
    have h1 := h b (List.mem_cons_self ..)
    have e : spT m (b :: r) = spB m b ++ spT m r := by simp [spT]
    rw [e, ih fun y hy => h y (List.mem_cons_of_mem _ hy)]
    unfold spB
    rw [if_neg (by rintro (a | a); exact h1.1 a; exact h1.2 a)]
    rfl
theorem rep_pieces (c : UInt8) (l : Txt) : ∀ m, pieces c (l ++ List.replicate m c) = pieces c l ++ List.replicate m []
  | 0 => by simp
  | m + 1 => by
    rw [List.replicate_succ', ← List.append_assoc, show ([c] : Txt) = c :: [] from rfl, pieces_snoc c [] (fun _ h => by cases h), rep_pieces c l m, List.replicate_succ', List.append_assoc]
theorem neL_rep (L : List Txt) (m : Nat) : neL (L ++ List.replicate m []) = neL L := by
  unfold neL
  rw [List.filter_append]
  have : (List.replicate m ([] : Txt)).filter (fun x => decide (x ≠ [])) = [] := by
    rw [List.filter_eq_nil_iff]
    intro a ha
    have := List.eq_of_mem_replicate ha
    simp [this]
  rw [this, List.append_nil]
theorem words_rep (l r : Txt) (m : Nat) (hr : ∀ y ∈ r, y ≠ 32) : wordsL ((l ++ List.replicate (m + 1) 32) ++ r) = neL (wordsL l ++ [r]) := by
  unfold wordsL
  rw [List.replicate_succ', ← List.append_assoc, List.append_assoc _ [32] r, List.singleton_append, pieces_snoc 32 r hr, rep_pieces]
  unfold neL
  rw [List.filter_append, List.filter_append, List.filter_append]
  have h := neL_rep (pieces 32 l) m
  unfold neL at h
  rw [List.filter_append] at h
  rw [h, List.filter_filter]
  simp
theorem spT_wK {x : List Txt} (h : okX x) (m : Nat) : ∀ k, k + 1 ≤ x.length → wordsL (spT m (wK x (k + 1))) = x.take (k + 1)
  | 0, hk => by
    have hn := name_bytes (h.2 0 hk)
    rw [wK_zero, spT_plain m hn.2.2]
    unfold wordsL
    rw [pieces_one 32 _ fun b hb => (hn.2.2 b hb).1, take_atS hk]
    simp [neL, hn.1]
  | k + 1, hk => by
    have ih := spT_wK h m k (by omega)
    have hn := name_bytes (h.2 (k + 1) hk)
    have e32 : spT m [32] = List.replicate (m + 1) 32 := by simp [spT, spB]
    rw [wK_succ x (by omega), spT_app, spT_app, e32, spT_plain m hn.2.2, words_rep _ _ _ (fun b hb => (hn.2.2 b hb).1), ih, take_atS hk]
    unfold neL
    rw [List.filter_eq_self]
    intro y hy
    rcases List.mem_append.1 hy with hy | hy
    · obtain ⟨i, hi, rfl⟩ := List.getElem_of_mem (List.mem_of_mem_take hy)
      have := h.2 i hi
      unfold atS at this
      rw [List.getElem?_eq_getElem hi] at this
      simpa using (name_bytes this).1
    · simp at hy
      rw [hy]
      simpa using hn.1
theorem words_sp {x : List Txt} (h : okX x) (m : Nat) : wordsL (spT m (rowT x)) = wordsL (rowT x) := by
  rw [words_row h]
  unfold rowT
  by_cases hx : x = []
  · subst hx
    rfl
  · have hl : x.length ≠ 0 := by simpa using hx
    rw [if_neg hl, if_neg hx]
    obtain ⟨k, hk⟩ : ∃ k, x.length = k + 1 := ⟨x.length - 1, by omega⟩
    rw [hk, spT_wK h m k (by omega), ← hk, List.take_length]
theorem spT_no {s : Txt} (h : ∀ b ∈ s, b ≠ 10) (m : Nat) : ∀ b ∈ spT m s, b ≠ 10 := by
  intro b hb
  unfold spT at hb
  rw [List.mem_flatMap] at hb
  obtain ⟨a, ha, hb⟩ := hb
  unfold spB at hb
  split at hb
  · rw [List.eq_of_mem_replicate hb]; exact h a ha
  · simp at hb; rw [hb]; exact h a ha
theorem line_sp {acc : List (List Txt)} {x : List Txt} (h : okX x) (m : Nat) (ha : acc.length < 64) : lineE acc (spT m (rowT x)) = 0 ∧ lineN acc (spT m (rowT x)) = acc ++ [x] := by
  have h2 := line_row (acc := acc) h ha
  unfold lineE lineN at h2 ⊢
  rw [words_sp h m]
  exact h2
theorem inv_rep {pre : List Txt} {acc : List (List Txt)} (h : InvP pre acc) : ∀ m, InvP (pre ++ List.replicate m []) acc
  | 0 => by simpa using h
  | m + 1 => by
    have e0 : wordsL [] = [] := rfl
    have h2 := (inv_rep h m).step (x := []) (lineE_none e0)
    rw [lineN_none e0, List.append_assoc] at h2
    rw [List.replicate_succ']
    exact h2
theorem sp_lines {R : List (List Txt)} (h : ∀ j, j < R.length → okX (R[j]?.getD [])) (hl : R.length ≤ 64) (m : Nat) : ∀ j, j ≤ R.length → ∃ P, pieces 10 (spT m (txtK R j)) = P ++ [[]] ∧ InvP P (R.take j)
  | 0, _ => ⟨[], rfl, InvP.nil⟩
  | j + 1, hj => by
    obtain ⟨P, hP, hI⟩ := sp_lines h hl m j (by omega)
    have hx := h j (by omega)
    have e : R.take (j + 1) = R.take j ++ [R[j]?.getD []] := by
      rw [List.take_succ_eq_append_getElem (by omega), List.getElem?_eq_getElem (by omega)]
      rfl
    have e10 : spT m [10] = List.replicate (m + 1) 10 := by simp [spT, spB]
    have hs := line_sp (acc := R.take j) hx m (by rw [List.length_take]; omega)
    have h1 := InvP.step hI hs.1
    rw [hs.2, ← e] at h1
    refine ⟨(P ++ [spT m (rowT (R[j]?.getD []))]) ++ List.replicate m [], ?_, inv_rep h1 m⟩
    rw [txtK, spT_app, spT_app, e10, rep_pieces, pieces_ext 10 _ (spT_no (rowT_no hx) m) _ _ _ hP, List.replicate_succ', List.nil_append]
    simp only [List.append_assoc]
/-- Parse of the text with more blanks and lines is the log -/
theorem parse_sp {R : List (List Txt)} (h : ∀ x ∈ R, okX x) (hl : R.length ≤ 64) (m : Nat) (hs : (spT m (txtK R R.length)).length ≤ 65536) : parseL (spT m (txtK R R.length)) = (R, 0, 0) := by
  obtain ⟨P, hP, hI⟩ := sp_lines (fun j hj => h _ (by rw [List.getElem?_eq_getElem hj]; exact List.getElem_mem hj)) hl m R.length (Nat.le_refl _)
  rw [List.take_length] at hI
  have e0 : wordsL [] = [] := rfl
  have h2 := hI.step (x := []) (lineE_none e0)
  rw [lineN_none e0] at h2
  unfold parseL
  rw [if_neg (by omega), hP]
  exact h2.done
end Go.Proofs.YtgjgohnomophnaaDoor
