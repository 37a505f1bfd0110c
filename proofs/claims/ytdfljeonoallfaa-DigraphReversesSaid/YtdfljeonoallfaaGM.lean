/- Graphs: reversed lists and validity: the plain mathematics. -/
import Derived.Test.YtdfljeonoallfaaWM
namespace Go.Proofs.Ytdfljeonoallfaa
open Go.RowKit

def revV (R : Nat → List Int) (n w : Nat) : List Int := pickI (fun u => (R u).contains (w : Int)) n
def revS (R : Nat → List Int) (v i w : Nat) : List Int := pickI (fun u => (R u).contains (w : Int)) v ++ if ((R v).take i).contains (w : Int) then [(v : Int)] else []
theorem pick_at {f : Nat → Bool} {n i : Nat} (h : i < (pickI f n).length) : ∃ u : Nat, at0 (pickI f n) i = (u : Int) ∧ u < n ∧ f u = true := by
  have hl : i < ((List.range n).filter f).length := by simpa [pickI] using h
  refine ⟨((List.range n).filter f)[i], ?_, ?_⟩
  · unfold at0 pickI
    rw [List.getElem?_map, List.getElem?_eq_getElem hl]
    rfl
  · have hm := List.getElem_mem hl
    rw [List.mem_filter, List.mem_range] at hm
    exact hm
theorem pick_asc {f : Nat → Bool} {n i j : Nat} (hij : i < j) (h : j < (pickI f n).length) : at0 (pickI f n) i < at0 (pickI f n) j := by
  have hl : j < ((List.range n).filter f).length := by simpa [pickI] using h
  have hp : ((List.range n).filter f).Pairwise (· < ·) := List.Pairwise.filter _ List.pairwise_lt_range
  have h1 := List.pairwise_iff_getElem.1 hp i j (by omega) hl hij
  unfold at0 pickI
  rw [List.getElem?_map, List.getElem?_map, List.getElem?_eq_getElem hl, List.getElem?_eq_getElem (by omega)]
  simp only [Option.map_some, Option.getD_some]
  omega
theorem revS_zero (R : Nat → List Int) (v w : Nat) : revS R v 0 w = pickI (fun u => (R u).contains (w : Int)) v := by unfold revS; simp
theorem revS_start (R : Nat → List Int) (w : Nat) : revS R 0 0 w = [] := by rw [revS_zero]; rfl
theorem revS_next (R : Nat → List Int) (v w : Nat) : revS R v (R v).length w = revS R (v + 1) 0 w := by
  rw [revS_zero]
  unfold revS
  rw [List.take_length]
  cases h : (R v).contains (w : Int)
  · rw [pickI_no _ _ h]
    simp
  · rw [pickI_yes _ _ h]
    simp
theorem revS_end (R : Nat → List Int) (n w : Nat) : revS R n 0 w = revV R n w := revS_zero R n w
theorem take_has' {l : List Int} {k : Nat} (h : k < l.length) (x : Int) : (l.take (k + 1)).contains x = ((l.take k).contains x || decide (at0 l k = x)) := by
  have e : l.take (k + 1) = l.take k ++ [at0 l k] := by
    rw [List.take_add_one]
    unfold at0
    rw [List.getElem?_eq_getElem h]
    rfl
  rw [e]
  rw [Bool.eq_iff_iff]
  simp only [List.contains_iff_mem, List.mem_append, List.mem_singleton, Bool.or_eq_true, decide_eq_true_eq]
  exact or_congr Iff.rfl ⟨Eq.symm, Eq.symm⟩
theorem revS_skip {R : Nat → List Int} {v i w : Nat} (hi : i < (R v).length) (h : at0 (R v) i ≠ (w : Int)) : revS R v (i + 1) w = revS R v i w := by
  unfold revS
  rw [take_has' hi, decide_eq_false h, Bool.or_false]
theorem revS_had {R : Nat → List Int} {v i w : Nat} (hi : i < (R v).length) (h : ((R v).take i).contains (w : Int) = true) : revS R v (i + 1) w = revS R v i w := by
  unfold revS
  rw [take_has' hi, h, Bool.true_or]
theorem revS_new {R : Nat → List Int} {v i w : Nat} (hi : i < (R v).length) (h : at0 (R v) i = (w : Int)) (h2 : ((R v).take i).contains (w : Int) = false) : revS R v (i + 1) w = revS R v i w ++ [(v : Int)] := by
  unfold revS
  rw [take_has' hi, h2, decide_eq_true h]
  simp
theorem revS_len (R : Nat → List Int) (v i w : Nat) : (revS R v i w).length ≤ v + 1 := by
  unfold revS
  rw [List.length_append]
  have := pickI_len (fun u => (R u).contains (w : Int)) v
  split
  · rw [List.length_singleton]; omega
  · rw [List.length_nil]; omega
/-- whether the last element is the vertex whose edges are read -/
theorem revS_last_no {R : Nat → List Int} {v i w : Nat} (h2 : ((R v).take i).contains (w : Int) = false) (h : (revS R v i w).length ≠ 0) : at0 (revS R v i w) ((revS R v i w).length - 1) ≠ (v : Int) := by
  have e : revS R v i w = pickI (fun u => (R u).contains (w : Int)) v := by unfold revS; rw [h2]; simp
  rw [e] at h ⊢
  obtain ⟨u, h1, h3, _⟩ := pick_at (f := fun u => (R u).contains (w : Int)) (n := v) (i := (pickI (fun u => (R u).contains (w : Int)) v).length - 1) (by omega)
  rw [h1]
  omega
theorem revS_last_yes {R : Nat → List Int} {v i w : Nat} (h2 : ((R v).take i).contains (w : Int) = true) : (revS R v i w).length ≠ 0 ∧ at0 (revS R v i w) ((revS R v i w).length - 1) = (v : Int) := by
  have e : revS R v i w = pickI (fun u => (R u).contains (w : Int)) v ++ [(v : Int)] := by unfold revS; rw [h2]; simp
  rw [e]
  refine ⟨by simp, ?_⟩
  unfold at0
  simp
/- validity -/
def badE (R : Nat → List Int) (n v i : Nat) : Bool := !inR (at0 (R v) i) n || (decide (0 < i) && !decide (at0 (R v) (i - 1) < at0 (R v) i))
def badG (R : Nat → List Int) (n v : Nat) : Bool := anyN (badE R n v) (R v).length
def validG (R : Nat → List Int) (n : Nat) : Bool := !anyN (badG R n) n
theorem valid_no {R : Nat → List Int} {n v i : Nat} (hv : v < n) (hi : i < (R v).length) (h : badE R n v i = true) : validG R n = false := by
  unfold validG
  rw [anyN_yes hv (show badG R n v = true from anyN_yes hi h)]
  rfl
theorem valid_yes {R : Nat → List Int} {n : Nat} (h : ∀ v, v < n → ∀ i, i < (R v).length → badE R n v i = false) : validG R n = true := by
  unfold validG
  rw [anyN_no fun v hv => show badG R n v = false from anyN_no fun i hi => h v hv i hi]
  rfl
theorem valid_rev (R : Nat → List Int) (n : Nat) : validG (revV R n) n = true := valid_yes fun v _ i hi => by
  unfold badE
  obtain ⟨u, h1, h2, _⟩ := pick_at (f := fun u => (R u).contains (v : Int)) (n := n) hi
  have e : inR (at0 (revV R n v) i) n = true := by rw [inR_iff]; unfold revV; rw [h1]; omega
  rw [e]
  by_cases h0 : 0 < i
  · have := pick_asc (f := fun u => (R u).contains (v : Int)) (n := n) (i := i - 1) (j := i) (by omega) hi
    rw [decide_eq_true h0, show decide (at0 (revV R n v) (i - 1) < at0 (revV R n v) i) = true from decide_eq_true this]
    rfl
  · rw [decide_eq_false h0]; rfl
end Go.Proofs.Ytdfljeonoallfaa
