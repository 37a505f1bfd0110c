/- Swap of digraph's queue. -/
import Derived.Test.YtdfljeonoallfaaGHM
import Derived.BigRegion
namespace Go.Proofs.Ytdfljeonoallfaa
open Go.RowKit Go.Deep

set_option maxHeartbeats 4000000 in
set_option maxRecDepth 100000 in
theorem qswap_any (g m c i j : Nat) (a b : Int) (w : World) (hi : i < m) (hj : j < m) (hm : m ≤ 1000000) (c1 : w.cell? ⟨g, i, none⟩ = some (.int .i64 a)) (c2 : w.cell? ⟨g, j, none⟩ = some (.int .i64 b)) (f1 : w.frozen? ⟨g, i, none⟩ = false) (f2 : w.frozen? ⟨g, j, none⟩ = false) :
    Calls Try.prog 66 #[.slice (some ⟨g, 0, none⟩) m c, .int .i64 (i : Nat), .int .i64 (j : Nat)] w fun e w' => (∃ z, e = .returned z) ∧ w' = ((w.setCell ⟨g, i, none⟩ (.int .i64 b)).setCell ⟨g, j, none⟩ (.int .i64 a)).drew := by
  by_cases hij : i = j
  · as_aux_lemma =>
    subst hij
    obtain rfl : a = b := by
      rw [c1] at c2
      injection c2 with c2
      injection c2
    clear c2 f2 hj
    go_enter Try.func66, Try.ntmps66
    go_wp2
    go_region
    all_goals
      go_end0
      exact ⟨⟨_, rfl⟩, rfl⟩
  · as_aux_lemma =>
    go_enter Try.func66, Try.ntmps66
    go_wp2
    go_region
    all_goals
      go_end0
      exact ⟨⟨_, rfl⟩, rfl⟩
end Go.Proofs.Ytdfljeonoallfaa
