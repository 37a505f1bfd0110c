/- Classes of nets: the reference's classes. -/
import Derived.Test.YtlbcdnobpnllkaaKI
import Derived.Test.YtlbcdnobpnllkaaU
namespace Go.Proofs.Ytlbcdnobpnllkaa
open Go.RowKit Go.Deep

def basN (n : NetV) : Bool := okN n && plainN n && ordinaryN n
def meetF (n : NetV) (p q : Int) (t : Nat) : Bool := conF n.ts p t && conF n.ts q t
def meetN (n : NetV) (p q : Int) : Bool := anyB (meetF n p q) n.ts.length
def outF (n : NetV) (p q : Int) (t : Nat) : Bool := conF n.ts p t && !conF n.ts q t
def outN (n : NetV) (p q : Int) : Bool := anyB (outF n p q) n.ts.length
theorem bas_ok {n : NetV} (h : basN n = true) : okN n = true := by
  unfold basN at h
  cases e : okN n
  · rw [e] at h; cases h
  · rfl
end Go.Proofs.Ytlbcdnobpnllkaa
