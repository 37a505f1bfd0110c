/- Classes of nets: the reference's classes, by their loops. -/
import Derived.Test.YtlbcdnobpnllkaaKJ
namespace Go.Proofs.Ytlbcdnobpnllkaa
open Go.RowKit Go.Deep

def rfF (n : NetV) (p q : Nat) : Bool := meetN n p q && outN n p q
def rfR (n : NetV) (p : Nat) : Bool := anyB (rfF n p) n.ps.length
def rfV (n : NetV) : Bool := !anyB (rfR n) n.ps.length
def raF (n : NetV) (p q : Nat) : Bool := meetN n p q && outN n p q && outN n q p
def raR (n : NetV) (p : Nat) : Bool := anyB (raF n p) n.ps.length
def raV (n : NetV) : Bool := !anyB (raR n) n.ps.length
def rpF (n : NetV) (t p : Nat) : Bool := decide (0 < preN n t p) && decide (0 < postN n t p)
def rpR (n : NetV) (t : Nat) : Bool := anyB (rpF n t) n.ps.length
def rpV (n : NetV) : Bool := !anyB (rpR n) n.ts.length
end Go.Proofs.Ytlbcdnobpnllkaa
