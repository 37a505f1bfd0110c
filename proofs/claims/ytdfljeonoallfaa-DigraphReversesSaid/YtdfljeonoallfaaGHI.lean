/- The methods of digraph's queue, found through the interface. -/
import Derived.Test.YtdfljeonoallfaaGHP
namespace Go.Proofs.Ytdfljeonoallfaa
open Go.RowKit Go.Deep

theorem meth_len0 (a : Addr) (W : World) : Sem.run Try.prog (method 177 47 (.pointer (some a)) "Len") W = Sem.run Try.prog (do pure (39, ← loadVar 48 a)) W := by kernel_rfl
theorem meth_less0 (a : Addr) (W : World) : Sem.run Try.prog (method 177 47 (.pointer (some a)) "Less") W = Sem.run Try.prog (do pure (63, ← loadVar 48 a)) W := by kernel_rfl
theorem meth_swap0 (a : Addr) (W : World) : Sem.run Try.prog (method 177 47 (.pointer (some a)) "Swap") W = Sem.run Try.prog (do pure (66, ← loadVar 48 a)) W := by kernel_rfl
theorem meth_push (a : Addr) (W : World) : Sem.run Try.prog (method 177 47 (.pointer (some a)) "Push") W = .ok (65, .pointer (some a)) W := by kernel_rfl
theorem meth_pop (a : Addr) (W : World) : Sem.run Try.prog (method 177 47 (.pointer (some a)) "Pop") W = .ok (64, .pointer (some a)) W := by kernel_rfl
theorem meth_len (Q : Nat) (v : Value) (W : World) (h : W.cell? ⟨Q, 0, none⟩ = some v) : Sem.run Try.prog (method 177 47 (.pointer (some ⟨Q, 0, none⟩)) "Len") W = .ok (39, v) W := by
  rw [meth_len0]
  simp [go_sem, h]
theorem meth_less (Q : Nat) (v : Value) (W : World) (h : W.cell? ⟨Q, 0, none⟩ = some v) : Sem.run Try.prog (method 177 47 (.pointer (some ⟨Q, 0, none⟩)) "Less") W = .ok (63, v) W := by
  rw [meth_less0]
  simp [go_sem, h]
theorem meth_swap (Q : Nat) (v : Value) (W : World) (h : W.cell? ⟨Q, 0, none⟩ = some v) : Sem.run Try.prog (method 177 47 (.pointer (some ⟨Q, 0, none⟩)) "Swap") W = .ok (66, v) W := by
  rw [meth_swap0]
  simp [go_sem, h]
end Go.Proofs.Ytdfljeonoallfaa
