/- Bounded natural solutions: the law that relates All, Solve and Count. -/
import Derived.Test.YtneediihponfiaaNHA
import Derived.Test.YtneediihponfiaaNHB
import Derived.Test.YtneediihponfiaaNHC
namespace Go.Proofs.Ytneediihponfiaa
open Go.RowKit

theorem agrees_law (p : PV) (w : World) (hr : PW w p) :
    Calls Try.prog 7 #[.agg #[.slice p.A p.L.length p.ca, .slice p.B p.b.length p.cb, .slice p.U p.u.length p.cu]] w fun e w' => e = .returned (.bool true) ∧ Below w.heap.size w w' := by
  by_cases hf : fewB p = true
  · by_cases hc : chkP p.L p.b p.u = 0
    · by_cases h0 : (solT p.L p.b p.u).length = 0
      · exact agrees_none p hf hc h0 w hr
      · by_cases h1 : (solT p.L p.b p.u).length ≤ 1000
        · exact agrees_few p hf hc ⟨by omega, h1⟩ w hr
        · exact agrees_many p hf hc (by omega) w hr
    · exact agrees_no p (.inr hc) w hr
  · exact agrees_no p (.inl (by simpa using hf)) w hr
end Go.Proofs.Ytneediihponfiaa
