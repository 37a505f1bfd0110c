/- Plain and ordinary nets. -/
import Derived.Test.YtjibpkaanaphcaaDoorS
namespace Go.Proofs.YtjibpkaanaphcaaDoor
open Go.RowKit

def anyB (f : Nat → Bool) (n : Nat) : Bool := decide (0 ≤ firstI f n 0)
theorem anyB_yes {f : Nat → Bool} {n k : Nat} (hk : k < n) (ht : f k = true) : anyB f n = true := by
  unfold anyB
  rcases firstI_cases f n with ⟨_, h⟩ | ⟨m, _, e, _, _⟩
  · rw [h k hk] at ht; cases ht
  · rw [e]; simp
theorem anyB_no {f : Nat → Bool} {n : Nat} (h : ∀ j, j < n → f j = false) : anyB f n = false := by
  unfold anyB
  rw [firstI_none h]
  decide
def oneF (l : List (Int × Int)) (j : Nat) : Bool := decide (aW l j ≠ 1)
def spF (ts : List TransV) (j : Nat) : Bool := decide (0 < (tA ts j).inh.l.length ∨ (tA ts j).prio ≠ 0)
def limF (ps : List PlaceV) (j : Nat) : Bool := decide ((pA ps j).cap ≠ 0)
def heavyV (l : List (Int × Int)) : Bool := anyB (oneF l) l.length
def hvF (ts : List TransV) (j : Nat) : Bool := heavyV (tA ts j).pre.l || heavyV (tA ts j).post.l
def plainN (n : NetV) : Bool := okN n && (!anyB (spF n.ts) n.ts.length && !anyB (limF n.ps) n.ps.length)
def ordinaryN (n : NetV) : Bool := okN n && !anyB (hvF n.ts) n.ts.length

end Go.Proofs.YtjibpkaanaphcaaDoor
