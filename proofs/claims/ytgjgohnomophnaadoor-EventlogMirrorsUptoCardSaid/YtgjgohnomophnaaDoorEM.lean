/- Event logs: what Parse computes, in plain words. -/
import Derived.Test.YtgjgohnomophnaaDoorEC
namespace Go.Proofs.YtgjgohnomophnaaDoor
open Go.RowKit

def nmB (x : Txt) : Bool := nameB (bytesI ⟨x.toArray⟩)
/-- the errno of a line's words -/
def trE (ws : List Txt) : Int := if ws = [[45]] then 0 else if ws.all nmB then (if 64 < ws.length then 2 else 0) else 11
/-- the trace of a line's words -/
def trL (ws : List Txt) : List Txt := if ws = [[45]] then [] else ws
def lineE (acc : List (List Txt)) (x : Txt) : Int := if wordsL x = [] then 0 else if trE (wordsL x) ≠ 0 then trE (wordsL x) else if acc.length = 64 then 2 else 0
def lineN (acc : List (List Txt)) (x : Txt) : List (List Txt) := if wordsL x = [] then acc else acc ++ [trL (wordsL x)]
def parseF : List (List Txt) → Nat → List Txt → List (List Txt) × Int × Nat
  | acc, _, [] => (acc, 0, 0)
  | acc, k, x :: r => if lineE acc x ≠ 0 then ([], lineE acc x, k + 1) else parseF (lineN acc x) (k + 1) r
def parseL (s : Txt) : List (List Txt) × Int × Nat := if 65536 < s.length then ([], 2, 0) else parseF [] 0 (pieces 10 s)
/-- the log so far -/
def InvP (pre : List Txt) (acc : List (List Txt)) : Prop := ∀ rest, parseF [] 0 (pre ++ rest) = parseF acc pre.length rest
theorem InvP.nil : InvP [] [] := fun _ => rfl
theorem InvP.step {pre : List Txt} {acc : List (List Txt)} {x : Txt} (h : InvP pre acc) (hx : lineE acc x = 0) : InvP (pre ++ [x]) (lineN acc x) := fun rest => by
  rw [List.append_assoc, h, List.singleton_append, parseF, if_neg (by simpa using hx), List.length_append]
  rfl
theorem InvP.bad {pre : List Txt} {acc : List (List Txt)} {x : Txt} (h : InvP pre acc) (hx : lineE acc x ≠ 0) {L : List Txt} (hL : (pre ++ [x]) <+: L) : parseF [] 0 L = ([], lineE acc x, pre.length + 1) := by
  obtain ⟨r, rfl⟩ := hL
  rw [List.append_assoc, h, List.singleton_append, parseF, if_pos hx]
theorem InvP.done {pre : List Txt} {acc : List (List Txt)} (h : InvP pre acc) : parseF [] 0 pre = (acc, 0, 0) := by
  have := h []
  rw [List.append_nil] at this
  rw [this]
  rfl
theorem lineE_none {acc : List (List Txt)} {x : Txt} (h : wordsL x = []) : lineE acc x = 0 := by unfold lineE; rw [if_pos h]
theorem lineN_none {acc : List (List Txt)} {x : Txt} (h : wordsL x = []) : lineN acc x = acc := by unfold lineN; rw [if_pos h]
theorem lineE_bad {acc : List (List Txt)} {x : Txt} (h : wordsL x ≠ []) (e : trE (wordsL x) ≠ 0) : lineE acc x = trE (wordsL x) := by unfold lineE; rw [if_neg h, if_pos e]
theorem lineE_full {acc : List (List Txt)} {x : Txt} (h : wordsL x ≠ []) (e : trE (wordsL x) = 0) (hl : acc.length = 64) : lineE acc x = 2 := by unfold lineE; rw [if_neg h, if_neg (by simpa using e), if_pos hl]
theorem lineE_ok {acc : List (List Txt)} {x : Txt} (h : wordsL x ≠ []) (e : trE (wordsL x) = 0) (hl : acc.length ≠ 64) : lineE acc x = 0 := by unfold lineE; rw [if_neg h, if_neg (by simpa using e), if_neg hl]
theorem lineN_some {acc : List (List Txt)} {x : Txt} (h : wordsL x ≠ []) : lineN acc x = acc ++ [trL (wordsL x)] := by unfold lineN; rw [if_neg h]
theorem all_at {ws : List Txt} (h : ∀ j, j < ws.length → nmB (atS ws j) = true) : ws.all nmB = true := by
  rw [List.all_eq_true]
  intro x hx
  obtain ⟨j, hj, rfl⟩ := List.getElem_of_mem hx
  have := h j hj
  unfold atS at this
  rwa [List.getElem?_eq_getElem hj] at this
theorem all_no {ws : List Txt} (j : Nat) (hj : j < ws.length) (h : nmB (atS ws j) = false) : ws.all nmB = false := by
  rw [List.all_eq_false]
  unfold atS at h
  rw [List.getElem?_eq_getElem hj] at h
  exact ⟨_, List.getElem_mem hj, by simpa using h⟩
theorem trE_dash : trE [[45]] = 0 := rfl
theorem trE_bad {ws : List Txt} (h : ws ≠ [[45]]) (j : Nat) (hj : j < ws.length) (hb : nmB (atS ws j) = false) : trE ws = 11 := by
  unfold trE; rw [if_neg h, if_neg (by rw [all_no j hj hb]; simp)]
theorem trE_long {ws : List Txt} (h : ws ≠ [[45]]) (ha : ∀ j, j < ws.length → nmB (atS ws j) = true) (hl : 64 < ws.length) : trE ws = 2 := by
  unfold trE; rw [if_neg h, if_pos (all_at ha), if_pos hl]
theorem trE_ok {ws : List Txt} (h : ws ≠ [[45]]) (ha : ∀ j, j < ws.length → nmB (atS ws j) = true) (hl : ¬ 64 < ws.length) : trE ws = 0 := by
  unfold trE; rw [if_neg h, if_pos (all_at ha), if_neg hl]
theorem trL_no {ws : List Txt} (h : ws ≠ [[45]]) : trL ws = ws := by unfold trL; rw [if_neg h]
theorem trE_len {ws : List Txt} (h : trE ws = 0) : (trL ws).length ≤ 64 := by
  unfold trE at h
  unfold trL
  by_cases hd : ws = [[45]]
  · rw [if_pos hd]; simp
  · rw [if_neg hd] at h ⊢
    by_cases ha : ws.all nmB = true
    · rw [if_pos ha] at h
      by_cases hl : 64 < ws.length
      · rw [if_pos hl] at h; cases h
      · omega
    · rw [if_neg ha] at h; cases h
theorem one_dash {ws : List Txt} (h1 : ws.length = 1) (h0 : atS ws 0 = [45]) : ws = [[45]] := by
  match ws, h1 with
  | [x], _ => simp [atS] at h0; rw [h0]
theorem no_dash {ws : List Txt} (h : ws.length ≠ 1 ∨ atS ws 0 ≠ [45]) : ws ≠ [[45]] := by
  rintro rfl
  rcases h with h | h
  · exact h rfl
  · exact h rfl
/-- the slice that parseTrace returns -/
def trV (A : Option Addr) (ws : List Txt) (c : Nat) : Value := if ws = [[45]] ∨ trE ws ≠ 0 then .slice none 0 0 else .slice A ws.length c
theorem trV_nil {A : Option Addr} {ws : List Txt} {c : Nat} (h : ws = [[45]] ∨ trE ws ≠ 0) : trV A ws c = .slice none 0 0 := by unfold trV; rw [if_pos h]
theorem trV_ok {A : Option Addr} {ws : List Txt} {c : Nat} (h : ws ≠ [[45]]) (h2 : trE ws = 0) : trV A ws c = .slice A ws.length c := by unfold trV; rw [if_neg (by rintro (a | a); exact h a; exact a h2)]
theorem mem_pieces_neL {s x : Txt} (h : x ∈ wordsL s) : x.length ≤ s.length ∧ x ≠ [] := by
  unfold wordsL neL at h
  rw [List.mem_filter] at h
  exact ⟨pieces_size 32 s x h.1, by simpa using h.2⟩
theorem atS_mem {ws : List Txt} {j : Nat} (h : j < ws.length) : atS ws j ∈ ws := by
  unfold atS
  rw [List.getElem?_eq_getElem h]
  exact List.getElem_mem h
end Go.Proofs.YtgjgohnomophnaaDoor
