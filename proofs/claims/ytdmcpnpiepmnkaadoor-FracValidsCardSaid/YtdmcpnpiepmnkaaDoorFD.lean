/- Contract of the reference's normal form. -/
import Derived.Test.YtdmcpnpiepmnkaaDoorFC
namespace Go.Proofs.YtdmcpnpiepmnkaaDoor
open Go.RowKit

def normV (neg : Bool) (p q : Nat) : Value :=
  if 9223372036854775807 < p ∨ 9223372036854775807 < q then .tuple #[.agg #[.int .i64 0, .int .i64 0], .int .i64 3]
  else .tuple #[.agg #[.int .i64 (if neg then -(p : Int) else (p : Int)), .int .i64 (q : Int)], .int .i64 0]
/-- block g holds the number zero -/
def Rl (w : World) (g : Nat) : Prop := w.heap[g]? = some (.cells #[.int .i64 0, .int .i64 0] 23 (0, 0))
def NInv (g : Nat) (n d : Nat) (w : World) : Prop := Bl w g n ∧ Bl w (g + 1) d ∧ Rl w (g + 1 + 1)
section
variable {w w' : World} {g n d : Nat}
theorem Rl.lt (h : Rl w g) : g < w.heap.size := (Array.getElem?_eq_some_iff.1 h).1
theorem Rl.c0 (h : Rl w g) : w.cell? ⟨g, 0, none⟩ = some (.int .i64 0) := (cell_of_row w g 0 _ _ (0, 0) h).trans rfl
theorem Rl.c1 (h : Rl w g) : w.cell? ⟨g, 1, none⟩ = some (.int .i64 0) := (cell_of_row w g 1 _ _ (0, 0) h).trans rfl
theorem Rl.f0 (h : Rl w g) : w.frozen? ⟨g, 0, none⟩ = false := by unfold Rl at h; simp [World.frozen?, h]
theorem Rl.f1 (h : Rl w g) : w.frozen? ⟨g, 1, none⟩ = false := by unfold Rl at h; simp [World.frozen?, h]
theorem Rl.below {B : Nat} (h : Rl w g) (hb : Below B w w') (hg : g < B) : Rl w' g := (hb.block g hg).trans h
theorem Rl.alloc (h : Rl w g) (o : Obj) : Rl (w.alloc o) g := (Below.heap_alloc w o g h.lt).trans h
theorem Rl.new' (w : World) {k : Nat} (hk : w.heap.size = k) : Rl (w.alloc (.cells #[.int .i64 0, .int .i64 0] 23)) k := by subst hk; exact heap_alloc_new w _
theorem NInv.below (h : NInv g n d w) (hb : Below w.heap.size w w') : NInv g n d w' := ⟨h.1.below hb h.1.lt, h.2.1.below hb h.2.1.lt, h.2.2.below hb h.2.2.lt⟩
theorem NInv.alloc (h : NInv g n d w) (o : Obj) : NInv g n d (w.alloc o) := ⟨h.1.alloc o, h.2.1.alloc o, h.2.2.alloc o⟩
theorem NInv.size (h : NInv g n d w) : g + 3 ≤ w.heap.size := h.2.2.lt
theorem NInv.cells (h : NInv g n d w) : w.cell? ⟨g, 0, none⟩ = some (.int .u64 (hI n)) ∧ w.cell? ⟨g, 1, none⟩ = some (.int .u64 (lI n)) ∧ w.cell? ⟨g + 1, 0, none⟩ = some (.int .u64 (hI d)) ∧ w.cell? ⟨g + 1, 1, none⟩ = some (.int .u64 (lI d)) :=
  ⟨h.1.c0, h.1.c1, h.2.1.c0, h.2.1.c1⟩
end
theorem norm_start (n d : Nat) (w : World) : NInv w.heap.size n d (((w.alloc (.cells #[.int .u64 (hI n), .int .u64 (lI n)] 36)).alloc (.cells #[.int .u64 (hI d), .int .u64 (lI d)] 36)).alloc (.cells #[.int .i64 0, .int .i64 0] 23)) :=
  ⟨((Bl.new' w n rfl).alloc _).alloc _, (Bl.new' _ d (by simp)).alloc _, Rl.new' _ (by simp)⟩
theorem halves (p : Nat) (h : p < 340282366920938463463374607431768211456) :
    (0 < hI p ∧ 9223372036854775807 < p) ∨ (¬ 0 < hI p ∧ 9223372036854775807 < lI p ∧ 9223372036854775807 < p) ∨ (¬ 0 < hI p ∧ ¬ 9223372036854775807 < lI p ∧ ¬ 9223372036854775807 < p ∧ lI p = (p : Int)) := by
  unfold hI lI
  omega
theorem normV_over {neg : Bool} {p q : Nat} (h : 9223372036854775807 < p ∨ 9223372036854775807 < q) : .tuple #[.agg #[.int .i64 0, .int .i64 0], .int .i64 3] = normV neg p q := by rw [normV, if_pos h]
theorem normV_ok {neg : Bool} {p q : Nat} (h : ¬ 9223372036854775807 < p) (k : ¬ 9223372036854775807 < q) {x y : Int} (hx : x = if neg then -(p : Int) else (p : Int)) (hy : y = (q : Int)) : .tuple #[.agg #[.int .i64 x, .int .i64 y], .int .i64 0] = normV neg p q := by
  rw [normV, if_neg (by omega), hx, hy]
end Go.Proofs.YtdmcpnpiepmnkaaDoor
