/- Regions: signs, by the reference; names in a list; the order of edges. -/
import Derived.Test.YthcbcgaekbmoaaaRB
namespace Go.Proofs.Ythcbcgaekbmoaaa
open Go.RowKit

theorem evL_take {ar : List EdgeV} {k : Nat} (h : k < ar.length) (e : Int) : evL (ar.take (k + 1)) e = if (eA ar k).t = e then evL (ar.take k) e ++ [eA ar k] else evL (ar.take k) e := by
  rw [eA_take h, evL_snoc]
theorem evL_rest (ar : List EdgeV) (k : Nat) (e : Int) : evL ar e = evL (ar.take k) e ++ evL (ar.drop k) e := by
  unfold evL
  rw [← List.filter_append, List.take_append_drop]

end Go.Proofs.Ythcbcgaekbmoaaa
