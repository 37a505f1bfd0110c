/- Bounded natural solutions: the law on rows that are repeated or doubled, and on greater bounds. -/
import Derived.Test.YtneediihponfiaaNSW
namespace Go.Proofs.Ytneediihponfiaa
open Go.RowKit

theorem shifts_law (p : PV) (w : World) (hr : PW w p) :
    Calls Try.prog 8 #[.agg #[.slice p.A p.L.length p.ca, .slice p.B p.b.length p.cb, .slice p.U p.u.length p.cu]] w fun e w' => e = .returned (.bool true) ∧ Below w.heap.size w w' := by
  by_cases h : fewB p = true ∧ chkP p.L p.b p.u = 0 ∧ 0 < p.L.length ∧ p.L.length ≤ 60
  · exact shifts_yes p h.1 h.2.1 h.2.2.1 h.2.2.2 w hr
  · exact shifts_no p h w hr
end Go.Proofs.Ytneediihponfiaa
