/- The transitions that a place has, and the initial marking. -/
import Derived.Test.YtpfkkjgklhcejaaP
import Derived.LoopN
namespace Go.Proofs.Ytpfkkjgklhcejaa
open Go.RowKit

def pickI (f : Nat → Bool) (n : Nat) : List Int := ((List.range n).filter f).map (fun (k : Nat) => (k : Int))
theorem pickI_yes (f : Nat → Bool) (k : Nat) (h : f k = true) : pickI f (k + 1) = pickI f k ++ [(k : Int)] := by
  unfold pickI
  rw [List.range_succ, List.filter_append, List.map_append]
  simp [h]
theorem pickI_no (f : Nat → Bool) (k : Nat) (h : f k = false) : pickI f (k + 1) = pickI f k := by
  unfold pickI
  rw [List.range_succ, List.filter_append, List.map_append]
  simp [h]
theorem pickI_len (f : Nat → Bool) (k : Nat) : (pickI f k).length ≤ k := by
  unfold pickI
  rw [List.length_map]
  exact Nat.le_trans (List.length_filter_le _ _) (by simp)
def proF (ts : List TransV) (p : Int) (j : Nat) : Bool := decide (0 < weightV (tA ts j).post.l p)
def conF (ts : List TransV) (p : Int) (j : Nat) : Bool := decide (0 < weightV (tA ts j).pre.l p)
def producersN (n : NetV) (p : Int) : List Int := if okN n = true then pickI (proF n.ts p) n.ts.length else []
def consumersN (n : NetV) (p : Int) : List Int := if okN n = true then pickI (conF n.ts p) n.ts.length else []
def iniF (ps : List PlaceV) (j : Nat) : Int := (pA ps j).ini
def initialN (n : NetV) : List Int := if okN n = true then tab n.ps.length (iniF n.ps) else []

end Go.Proofs.Ytpfkkjgklhcejaa
