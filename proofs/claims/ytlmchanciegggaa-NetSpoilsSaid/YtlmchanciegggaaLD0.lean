/- What a valid net finds. -/
import Derived.Test.YtlmchanciegggaaLA
namespace Go.Proofs.Ytlmchanciegggaa
open Go.RowKit

theorem eqS_comm (a b : ByteArray) : eqS a b = eqS b a := by
  unfold eqS
  rw [Bool.eq_iff_iff, beq_iff_eq, beq_iff_eq]
  exact eq_comm
theorem eqS_self (a : ByteArray) : eqS a a = true := by simp [eqS]
theorem firstI_neg {f : Nat → Bool} {n : Nat} (h : firstI f n 0 < 0) : ∀ j, j < n → f j = false := by
  rcases firstI_cases f n with ⟨_, h1⟩ | ⟨k, _, e, _, _⟩
  · exact h1
  · rw [e] at h; omega
theorem knows_place {n : NetV} (h : okN n = true) {p : Nat} (hp : p < n.ps.length) : placeN n (pA n.ps p).nm = p ∧ transN n (pA n.ps p).nm = -1 ∧ nameB (bytesI (pA n.ps p).nm) = true := by
  obtain ⟨_, _, _, _, h5, h6⟩ := okN_parts h
  obtain ⟨g1, g2⟩ := placeE_parts (h5 p hp)
  refine ⟨?_, ?_, g1⟩
  · unfold placeN placeI
    rw [if_pos h]
    exact firstI_at (f := fun j => eqS (pA n.ps j).nm (pA n.ps p).nm) hp (firstI_neg g2) (eqS_self _)
  · unfold transN transI
    rw [if_pos h]
    refine firstI_none (f := fun j => eqS (tA n.ts j).nm (pA n.ps p).nm) fun j hj => ?_
    obtain ⟨_, k2, _⟩ := transE_parts (h6 j hj)
    rw [eqS_comm]
    exact firstI_neg k2 p hp
theorem knows_trans {n : NetV} (h : okN n = true) {t : Nat} (ht : t < n.ts.length) : transN n (tA n.ts t).nm = t ∧ placeN n (tA n.ts t).nm = -1 ∧ nameB (bytesI (tA n.ts t).nm) = true := by
  obtain ⟨_, _, _, _, h5, h6⟩ := okN_parts h
  obtain ⟨g1, g2, g3, _⟩ := transE_parts (h6 t ht)
  refine ⟨?_, ?_, g1⟩
  · unfold transN transI
    rw [if_pos h]
    exact firstI_at (f := fun j => eqS (tA n.ts j).nm (tA n.ts t).nm) ht (firstI_neg g3) (eqS_self _)
  · unfold placeN placeI
    rw [if_pos h]
    exact firstI_none (f := fun j => eqS (pA n.ps j).nm (tA n.ts t).nm) (firstI_neg g2)
theorem chk_bad {n : NetV} (h : okN n = false) : (chkV n).1 ≠ 0 := of_decide_eq_false h
theorem chk_good {n : NetV} (h : okN n = true) : (chkV n).1 = 0 := of_decide_eq_true h
end Go.Proofs.Ytlmchanciegggaa
