/- Weights and neighbors of a transition. -/
import Derived.Test.YtaomgfmlnjdoaaaP
namespace Go.Proofs.Ytaomgfmlnjdoaaa
open Go.RowKit

def inputsN (n : NetV) (t : Int) : List Int := if isT n t = true then targetsV (tA n.ts t.toNat).pre.l else []
def outputsN (n : NetV) (t : Int) : List Int := if isT n t = true then targetsV (tA n.ts t.toNat).post.l else []
theorem tA_ok {ts : List TransV} {k : Nat} (h : ∀ j, (tA ts j).nm.size ≤ maxLen ∧ (tA ts j).pre.l.length ≤ 1000 ∧ (tA ts j).post.l.length ≤ 1000 ∧ (tA ts j).inh.l.length ≤ 1000) : (tA ts k).pre.l.length ≤ 1000 ∧ (tA ts k).post.l.length ≤ 1000 := ⟨(h k).2.1, (h k).2.2.1⟩

end Go.Proofs.Ytaomgfmlnjdoaaa
