/- Places and transitions by name, weights of arcs. -/
import Derived.Test.YtjibpkaanaphcaaDoorN
namespace Go.Proofs.YtjibpkaanaphcaaDoor
open Go.RowKit

def placeN (n : NetV) (s : ByteArray) : Int := if okN n = true then placeI n.ps n.ps.length s else -1
def transN (n : NetV) (s : ByteArray) : Int := if okN n = true then transI n.ts n.ts.length s else -1
def isT (n : NetV) (t : Int) : Bool := decide (0 ≤ t) && decide (t < n.ts.length) && okN n
def preN (n : NetV) (t p : Int) : Int := if isT n t = true then weightV (tA n.ts t.toNat).pre.l p else 0
def postN (n : NetV) (t p : Int) : Int := if isT n t = true then weightV (tA n.ts t.toNat).post.l p else 0

end Go.Proofs.YtjibpkaanaphcaaDoor
