/- Event logs: the mathematics of the law Back. -/
import Derived.Test.YtgjgohnomophnaaDoorBS
import Derived.Test.YtgjgohnomophnaaDoorVB
namespace Go.Proofs.YtgjgohnomophnaaDoor
open Go.RowKit

theorem nm_len {y : Txt} (h : nmB y = true) : y.length ≤ 16 := by
  unfold nmB nameB at h
  rw [Bool.and_eq_true, Bool.and_eq_true, decide_eq_true_eq] at h
  obtain ⟨⟨h1, _⟩, _⟩ := h
  have hb : bytesI ⟨y.toArray⟩ = y.map fun b => (b.toNat : Int) := by simp [bytesI]
  rw [hb, List.length_map] at h1
  exact h1.2
theorem okX.str {x : List Txt} (h : okX x) (i : Nat) : (atS x i).length ≤ 16 := by
  by_cases hi : i < x.length
  · exact nm_len (h.2 i hi)
  · unfold atS; rw [List.getElem?_eq_none (by omega)]; simp
theorem wK_len2 {x : List Txt} (h : ∀ i, (atS x i).length ≤ 16) : ∀ k, (wK x k).length ≤ 17 * k
  | 0 => Nat.zero_le _
  | k + 1 => by
    have h1 := wK_len2 h k
    have h2 := h k
    rw [wK]
    split
    · rw [List.length_append]; omega
    · rw [List.length_append, List.length_append, List.length_singleton]; omega
theorem rowT_len2 {x : List Txt} (h : ∀ i, (atS x i).length ≤ 16) : (rowT x).length ≤ 17 * x.length + 1 := by
  unfold rowT
  have := wK_len2 h x.length
  split
  · simp
  · omega
theorem txtK_len2 {R : List (List Txt)} (h : ∀ j : Nat, okX (R[j]?.getD [])) : ∀ j, (txtK R j).length ≤ 17 * totL R j + 2 * j
  | 0 => Nat.zero_le _
  | j + 1 => by
    have h1 := txtK_len2 h j
    have h2 := rowT_len2 (h j).str
    rw [txtK, totL, List.length_append, List.length_append, List.length_singleton]
    omega
theorem spB_len (m : Nat) (b : UInt8) : (spB m b).length ≤ m + 1 := by
  unfold spB
  split
  · rw [List.length_replicate]; exact Nat.le_refl _
  · simp
theorem spT_len (m : Nat) : ∀ s : Txt, (spT m s).length ≤ (m + 1) * s.length
  | [] => Nat.zero_le _
  | b :: s => by
    have h := spT_len m s
    have h2 := spB_len m b
    have e : spT m (b :: s) = spB m b ++ spT m s := rfl
    have e3 : (m + 1) * (s.length + 1) = (m + 1) * s.length + (m + 1) := Nat.mul_succ _ _
    rw [e, List.length_append, List.length_cons, e3]
    omega
theorem chkR_ok : ∀ (R : List (List Txt)) (k : Nat), (chkR R k).1 = 0 → ∀ x ∈ R, okX x
  | [], _, _, x, h => by simp at h
  | y :: r, k, h, x, hx => by
    by_cases he : rowE y ≠ 0
    · rw [chkR, if_pos he] at h
      exact absurd h he
    · rw [chkR, if_neg he] at h
      have he : rowE y = 0 := by simpa using he
      rcases List.mem_cons.1 hx with e | hx
      · subst e
        unfold rowE at he
        by_cases hl : 64 < x.length
        · rw [if_pos hl] at he; cases he
        · rw [if_neg hl] at he
          by_cases ha : x.all nmB = true
          · refine ⟨by omega, fun i hi => ?_⟩
            rw [List.all_eq_true] at ha
            exact ha _ (atS_mem hi)
          · rw [if_neg ha] at he; cases he
      · exact chkR_ok r (k + 1) h x hx
theorem chkL_ok {R : List (List Txt)} (h : (chkL R).1 = 0) : R.length ≤ 64 ∧ ∀ x ∈ R, okX x := by
  unfold chkL at h
  by_cases hl : 64 < R.length
  · rw [if_pos hl] at h; cases h
  · rw [if_neg hl] at h
    exact ⟨by omega, chkR_ok R 0 h⟩
/-- all of Back's words on a log that Check lets by -/
theorem back_ok {L : List Row} (hf : FewP L) (h : (chkL (rowsL L)).1 = 0) : ∃ s : Txt, textV (rowsL L) = (s, 0, 0) ∧ s.length ≤ 7000 ∧ parseL s = (rowsL L, 0, 0) ∧ ∀ m, m ≤ 5 → parseL (spT m s) = (rowsL L, 0, 0) ∧ (spT m s).length ≤ 65536 := by
  obtain ⟨hl, hx⟩ := chkL_ok h
  have hj : ∀ j, okX ((rowsL L)[j]?.getD []) := fun j => by
    by_cases hj : j < (rowsL L).length
    · rw [List.getElem?_eq_getElem hj]; exact hx _ (List.getElem_mem hj)
    · rw [List.getElem?_eq_none (by omega)]
      exact ⟨Nat.zero_le _, fun i hi => absurd hi (by simp)⟩
  have hn : (txtK (rowsL L) (rowsL L).length).length ≤ 7000 := by
    have h1 := txtK_len2 hj (rowsL L).length
    have h2 := hf.2.2
    have h3 := hf.1
    rw [rowsL_len] at h1 ⊢
    omega
  refine ⟨txtK (rowsL L) (rowsL L).length, ?_, hn, parse_txt hx hl (by omega), fun m hm => ?_⟩
  · unfold textV
    rw [if_neg (by rw [h]; simp)]
  · have h4 := spT_len m (txtK (rowsL L) (rowsL L).length)
    have h5 : (m + 1) * (txtK (rowsL L) (rowsL L).length).length ≤ 6 * 7000 := Nat.mul_le_mul (by omega) hn
    exact ⟨parse_sp hx hl m (by omega), by omega⟩
theorem back_bad {L : List Row} (h : (chkL (rowsL L)).1 ≠ 0) : textV (rowsL L) = ([], chkL (rowsL L)) := by
  unfold textV; rw [if_pos h]
/-! the text, byte by byte -/
def atB (s : Txt) (i : Nat) : UInt8 := s[i]?.getD 0
theorem spT_step (m : Nat) {s : Txt} {i : Nat} (h : i < s.length) : spT m (s.take (i + 1)) = spT m (s.take i) ++ spB m (atB s i) := by
  have e : s.take (i + 1) = s.take i ++ [atB s i] := by
    rw [List.take_add_one]
    unfold atB
    rw [List.getElem?_eq_getElem h]
    rfl
  rw [e, spT_app]
  simp [spT]
theorem ext_one {s : Txt} {i : Nat} (h : i < s.length) : (⟨s.toArray⟩ : ByteArray).extract i (i + 1) = ⟨[atB s i].toArray⟩ := by
  rw [ext_bytes, show i + 1 - i = 1 by omega, List.drop_eq_getElem_cons h]
  unfold atB
  rw [List.getElem?_eq_getElem h]
  rfl
theorem spB_one (b : UInt8) (h : ¬ (b = 32 ∨ b = 10)) (m : Nat) : spB m b = [b] := by unfold spB; rw [if_neg h]
theorem spB_rep (b : UInt8) (h : b = 32 ∨ b = 10) (m : Nat) : spB m b = List.replicate (m + 1) b := by unfold spB; rw [if_pos h]
theorem world_heap {A B : World} (h : A = { B with heap := A.heap }) (he : A.heap = B.heap) : A = B := by
  rw [h, he]
theorem fbx_heap {A B : World} {b : Nat} {x y : Int} (ha : FBx A b x y) (hb : FBx B b x y) (hk : ∀ k, k ≠ b → A.heap[k]? = B.heap[k]?) : A.heap = B.heap := by
  apply Array.ext_getElem?
  intro k
  by_cases e : k = b
  · subst e
    exact ha.trans hb.symm
  · exact hk k e
theorem fbx_same {W : World} {b : Nat} {x y : Int} (h : FBx W b x y) : (W.setCell ⟨b, 0, none⟩ (.int .i64 x)).setCell ⟨b, 1, none⟩ (.int .i64 y) = W := by
  have h0 : W.setCell ⟨b, 0, none⟩ (.int .i64 x) = W := world_heap rfl (fbx_heap (h.set0 x) h fun k hk => Below.heap_setCell _ _ _ k hk)
  rw [h0]
  exact world_heap rfl (fbx_heap (h.set1 y) h fun k hk => Below.heap_setCell _ _ _ k hk)
/-! sums -/
def preN (ns : List Nat) (j : Nat) : Nat := (ns.take j).sum
theorem preN_step {ns : List Nat} {j : Nat} (h : j < ns.length) : preN ns (j + 1) = preN ns j + ns[j]?.getD 0 := by
  unfold preN
  rw [List.take_add_one, List.sum_append, List.getElem?_eq_getElem h]
  simp
theorem preN_le (ns : List Nat) : ∀ j, preN ns j ≤ ns.sum := fun j => by
  have h : (ns.take j ++ ns.drop j).sum = ns.sum := by rw [List.take_append_drop]
  rw [List.sum_append] at h
  unfold preN
  omega
theorem preN_all (ns : List Nat) : preN ns ns.length = ns.sum := by unfold preN; rw [List.take_length]
theorem at0_nat (ns : List Nat) (j : Nat) : at0 (ns.map Int.ofNat) j = (ns[j]?.getD 0 : Nat) := by
  unfold at0
  rw [List.getElem?_map]
  cases ns[j]? <;> rfl
end Go.Proofs.YtgjgohnomophnaaDoor
