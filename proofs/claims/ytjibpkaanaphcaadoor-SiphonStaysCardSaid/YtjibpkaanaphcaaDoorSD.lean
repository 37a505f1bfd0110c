/- Siphons and traps: whether a set is one, by the program and by the reference. -/
import Derived.Test.YtjibpkaanaphcaaDoorSC
namespace Go.Proofs.YtjibpkaanaphcaaDoor
open Go.RowKit

def isS (n : NetV) (s : Nat) : Bool := okN n && Bt.subV s (Bt.allV n.ps.length)
def sipB (n : NetV) (b : Bool) (s : Nat) : Bool := isS n s && closedB n b s
theorem all_lt (n : Int) : Bt.allV n < 18446744073709551616 := by
  unfold Bt.allV
  have := Nat.pow_le_pow_right (n := 2) (by omega) (Nat.min_le_right n.toNat 64)
  have e : (2 : Nat) ^ 64 = 18446744073709551616 := by decide
  have p : 0 < 2 ^ min n.toNat 64 := Nat.pow_pos (by omega)
  omega

end Go.Proofs.YtjibpkaanaphcaaDoor
