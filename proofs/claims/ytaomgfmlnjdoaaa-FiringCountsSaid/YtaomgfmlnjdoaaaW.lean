/- Equality of transitions and of nets. -/
import Derived.Test.YtaomgfmlnjdoaaaV
namespace Go.Proofs.Ytaomgfmlnjdoaaa
open Go.RowKit

def eqTV (x y : TransV) : Bool := eqS x.nm y.nm && (x.prio == y.prio && (sameA x.pre.l y.pre.l && (sameA x.post.l y.post.l && sameA x.inh.l y.inh.l)))
def OkTV (x : TransV) : Prop := x.nm.size ≤ maxLen ∧ x.pre.l.length ≤ 1000 ∧ x.post.l.length ≤ 1000 ∧ x.inh.l.length ≤ 1000

end Go.Proofs.Ytaomgfmlnjdoaaa
