/- Equality of nets. -/
import Derived.Test.YtaomgfmlnjdoaaaW
namespace Go.Proofs.Ytaomgfmlnjdoaaa
open Go.RowKit

def sameN (a b : NetV) : Bool := okN a && (okN b && equalN a b)

end Go.Proofs.Ytaomgfmlnjdoaaa
