/- Pop of digraph's queue. -/
import Derived.Test.YtdfljeonoallfaaGHS
namespace Go.Proofs.Ytdfljeonoallfaa
open Go.RowKit Go.Deep

set_option maxHeartbeats 4000000 in
set_option maxRecDepth 100000 in
theorem qpop_any (Q g m c : Nat) (a : Int) (w : World) (hm : m ≤ 1000000) (hmc : m + 1 ≤ c) (c0 : w.cell? ⟨Q, 0, none⟩ = some (.slice (some ⟨g, 0, none⟩) (m + 1) c)) (f0 : w.frozen? ⟨Q, 0, none⟩ = false) (c1 : w.cell? ⟨g, m, none⟩ = some (.int .i64 a)) :
    Calls Try.prog 64 #[.pointer (some ⟨Q, 0, none⟩)] w fun e w' => e = .returned (.iface 3 (.int .i64 a)) ∧ w' = w.setCell ⟨Q, 0, none⟩ (.slice (some ⟨g, 0, none⟩) m c) := by
  go_enter Try.func64, Try.ntmps64
  go_wp2
  go_ret
  exact ⟨rfl, rfl⟩
end Go.Proofs.Ytdfljeonoallfaa
