/- The reference's product and validity, the two comparisons, and the law on the order. -/
import Derived.Test.YtdmcpnpiepmnkaaDoorFG
namespace Go.Proofs.YtdmcpnpiepmnkaaDoor
open Go.RowKit

/-- the three blocks of the product: the result, the sum, the step -/
def TimInv (g : Nat) (o s : Nat) (w : World) : Prop := Bl w g 0 ∧ Bl w (g + 1) o ∧ Bl w (g + 1 + 1) s
section
variable {g o s : Nat} {w w' : World}
theorem TimInv.below (h : TimInv g o s w) (hb : Below w.heap.size w w') : TimInv g o s w' := ⟨h.1.below hb h.1.lt, h.2.1.below hb h.2.1.lt, h.2.2.below hb h.2.2.lt⟩
theorem TimInv.size (h : TimInv g o s w) : g + 3 ≤ w.heap.size := h.2.2.lt
theorem TimInv.putO (h : TimInv g o s w) (m : Nat) : TimInv g m s ((w.setCell ⟨g + 1, 0, none⟩ (.int .u64 (hI m))).setCell ⟨g + 1, 1, none⟩ (.int .u64 (lI m))) :=
  ⟨(h.1.far (by simp) _).far (by simp) _, h.2.1.put m, (h.2.2.far (by simp) _).far (by simp) _⟩
theorem TimInv.putS (h : TimInv g o s w) (m : Nat) : TimInv g o m ((w.setCell ⟨g + 1 + 1, 0, none⟩ (.int .u64 (hI m))).setCell ⟨g + 1 + 1, 1, none⟩ (.int .u64 (lI m))) :=
  ⟨(h.1.far (by simp; omega) _).far (by simp; omega) _, (h.2.1.far (by simp) _).far (by simp) _, h.2.2.put m⟩
theorem TimInv.cells (h : TimInv g o s w) : (w.cell? ⟨g + 1, 0, none⟩ = some (.int .u64 (hI o)) ∧ w.cell? ⟨g + 1, 1, none⟩ = some (.int .u64 (lI o)) ∧ w.cell? ⟨g + 1 + 1, 0, none⟩ = some (.int .u64 (hI s)) ∧ w.cell? ⟨g + 1 + 1, 1, none⟩ = some (.int .u64 (lI s))) ∧
    (w.cell? ⟨g, 0, none⟩ = some (.int .u64 (hI 0)) ∧ w.cell? ⟨g, 1, none⟩ = some (.int .u64 (lI 0)) ∧ w.frozen? ⟨g, 0, none⟩ = false ∧ w.frozen? ⟨g, 1, none⟩ = false) ∧
    (w.frozen? ⟨g + 1, 0, none⟩ = false ∧ w.frozen? ⟨g + 1, 1, none⟩ = false ∧ w.frozen? ⟨g + 1 + 1, 0, none⟩ = false ∧ w.frozen? ⟨g + 1 + 1, 1, none⟩ = false) :=
  ⟨⟨h.2.1.c0, h.2.1.c1, h.2.2.c0, h.2.2.c1⟩, ⟨h.1.c0, h.1.c1, h.1.f0, h.1.f1⟩, h.2.1.f0, h.2.1.f1, h.2.2.f0, h.2.2.f1⟩
end
theorem tim_start (a : Nat) (w : World) (ha : a < 18446744073709551616) : TimInv w.heap.size 0 a (((w.alloc (.cells #[.int .u64 0, .int .u64 0] 36)).alloc (.cells #[.int .u64 0, .int .u64 0] 36)).alloc (.cells #[.int .u64 0, .int .u64 (a : Int)] 36)) := by
  have z : (Obj.cells #[.int .u64 0, .int .u64 0] 36) = .cells #[.int .u64 (hI 0), .int .u64 (lI 0)] 36 := rfl
  have z2 : (Obj.cells #[.int .u64 0, .int .u64 (a : Int)] 36) = .cells #[.int .u64 (hI a), .int .u64 (lI a)] 36 := by rw [hI_small a ha, lI_small a ha]
  rw [z, z2]
  exact ⟨((Bl.new' w 0 rfl).alloc _).alloc _, (Bl.new' _ 0 (by simp)).alloc _, Bl.new' _ a (by simp)⟩
/-- one round of the product -/
theorem tim_step (a b k : Nat) : a * (b % 2 ^ (k + 1)) = a * (b % 2 ^ k) + (if b / 2 ^ k % 2 = 1 then a * 2 ^ k else 0) := by
  rw [Nat.mod_pow_succ, Nat.mul_add]
  split
  · rename_i h; rw [h, Nat.mul_one]
  · rename_i h
    have : b / 2 ^ k % 2 = 0 := by omega
    rw [this, Nat.mul_zero, Nat.mul_zero]
theorem tim_le (a b k : Nat) (h : 0 < b / 2 ^ k) : a * 2 ^ k ≤ a * b := by
  refine Nat.mul_le_mul_left _ ?_
  rcases Nat.lt_or_ge b (2 ^ k) with h1 | h1
  · rw [Nat.div_eq_of_lt h1] at h; omega
  · exact h1
theorem tim_lt (a b : Nat) (ha : a < 18446744073709551616) (hb : b < 18446744073709551616) : a * b < 340282366920938463463374607431768211456 := by
  rcases Nat.eq_zero_or_pos b with h | h
  · subst h; omega
  · calc a * b < 18446744073709551616 * b := Nat.mul_lt_mul_of_pos_right ha h
      _ ≤ 18446744073709551616 * 18446744073709551616 := Nat.mul_le_mul_left _ (Nat.le_of_lt hb)
      _ = _ := by decide
end Go.Proofs.YtdmcpnpiepmnkaaDoor
