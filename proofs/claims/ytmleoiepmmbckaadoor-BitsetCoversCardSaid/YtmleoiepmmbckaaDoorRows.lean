/-
  NARROWER THAN 'FOR EVERY INPUT', by the rows' own cells (each row's printed sentence says how): BitsetElements: laid · BitsetSizes: laid · BitsetNexts: laid · BitsetMinimals: laid · BitsetReturns: laid · BitsetVisits: laid · BitsetCovers: laid · BitsetOrders: laid.
  DERIVED. THE GIVEN ROWS OF THIS SEAT. 8 by the template 'for every input the law returns true; each argument reads behind the call as it read before'; 0 by the template 'total and deterministic' (their statements: YtmleoiepmmbckaaDoorTotals.lean).
  GIVEN WITH THE SEED: the statements are not yours to turn. If you find one false, say at which input.
  Laid BY PROGRAM, IN A SANDBOX (cutbox-rows.mjs): the forced cells as the released guide's own fill.sh prints them over the translation 900140d7becb7b39… (all of the seat's roots in one cut). By AI agents, Wed Nov 11 2026. No macro, syntax, notation, axiom, sorry.
-/
import Derived.Test.YtmleoiepmmbckaaDoorChecked
import GoSem.Claim
import GoSem.ClaimJoined
import GoSem.ClaimMapViews
import Derived.JoinedTies
import Derived.KernelRfl
namespace Go.Proofs.YtmleoiepmmbckaaDoor
/- THE CELL 'sum', in the pinned program and in every row, IS THE sha256 OF THE DUMP (.gsa) THAT YtmleoiepmmbckaaDoorProg.lean LOADS. Nothing in Lean hashes anything: it is a label: what it is worth is what the hold of that sum in a sandbox is worth. -/
noncomputable def Tryd.pinned : Pinned := { name := "ytmleoiepmmbckaadoor", sum := "900140d7becb7b39afb4d7d4bf1853716e7955e58204f2c094b9bd85d5fbb638", checked := Tryd.checked }
namespace Rows
def none {H : Type} : Left H := { results := [], args := [] }

/- WHAT THE LISTED PACKAGE-LEVEL VARIABLES READ AS WHEN THE CALL BEGINS. Each datum BY PROGRAM (the guide's laid-datum.mjs) off the statement by which the dump's own 'gosem.cut.vars' lays the variable. In a bare row this is a premise. The card (YtmleoiepmmbckaaDoorCards.lean) ties it to the program's text. -/
def laid_math_bits_deBruijn64tab {H : Type} : DataW H := .agg [.lit (.int .u8 0), .lit (.int .u8 1), .lit (.int .u8 56), .lit (.int .u8 2), .lit (.int .u8 57), .lit (.int .u8 49), .lit (.int .u8 28), .lit (.int .u8 3), .lit (.int .u8 61), .lit (.int .u8 58), .lit (.int .u8 42), .lit (.int .u8 50), .lit (.int .u8 38), .lit (.int .u8 29), .lit (.int .u8 17), .lit (.int .u8 4), .lit (.int .u8 62), .lit (.int .u8 47), .lit (.int .u8 59), .lit (.int .u8 36), .lit (.int .u8 45), .lit (.int .u8 43), .lit (.int .u8 51), .lit (.int .u8 22), .lit (.int .u8 53), .lit (.int .u8 39), .lit (.int .u8 33), .lit (.int .u8 30), .lit (.int .u8 24), .lit (.int .u8 18), .lit (.int .u8 12), .lit (.int .u8 5), .lit (.int .u8 63), .lit (.int .u8 55), .lit (.int .u8 48), .lit (.int .u8 27), .lit (.int .u8 60), .lit (.int .u8 41), .lit (.int .u8 37), .lit (.int .u8 16), .lit (.int .u8 46), .lit (.int .u8 35), .lit (.int .u8 44), .lit (.int .u8 21), .lit (.int .u8 52), .lit (.int .u8 32), .lit (.int .u8 23), .lit (.int .u8 11), .lit (.int .u8 54), .lit (.int .u8 26), .lit (.int .u8 40), .lit (.int .u8 15), .lit (.int .u8 34), .lit (.int .u8 20), .lit (.int .u8 31), .lit (.int .u8 10), .lit (.int .u8 25), .lit (.int .u8 14), .lit (.int .u8 19), .lit (.int .u8 9), .lit (.int .u8 13), .lit (.int .u8 8), .lit (.int .u8 7), .lit (.int .u8 6)]

/-- 'petrinetlaw06.BitsetElements': WHATEVER THE INPUT: true; the input reads as it did. -/
def bitsetElementsSpec : ChangeSpec := { name := "bitsetElements", fn := fun _ => fun
  | [d1, d2, d3] => { results := [.lit (.bool true)], args := [d1, d2, d3] }
  | _ => none }
def bitsetElementsRow : OpenClaim := { program := "ytmleoiepmmbckaadoor", sum := "900140d7becb7b39afb4d7d4bf1853716e7955e58204f2c094b9bd85d5fbb638", func := "petrinet/petrinetlaw06.BitsetElements", spec := "bitsetElements", unfollowed := true, recurses := true, named := ["math/bits.deBruijn64tab"], apart := false, laid := [("math/bits.deBruijn64tab", laid_math_bits_deBruijn64tab)] }
def BitsetElementsSaid : Prop := bitsetElementsRow.holds Tryd.pinned (OpenSpec.ofChange bitsetElementsSpec)

/-- ITS FALSE NEIGHBOUR: 'it returns false'. Refute it at one input. -/
def bitsetElementsWrong : ChangeSpec := { name := "bitsetElements", fn := fun _ => fun
  | [d1, d2, d3] => { results := [.lit (.bool false)], args := [d1, d2, d3] }
  | _ => none }
def BitsetElementsWrongFalsely : Prop := bitsetElementsRow.holds Tryd.pinned (OpenSpec.ofChange bitsetElementsWrong)

/-- 'petrinetlaw06.BitsetSizes': WHATEVER THE INPUT: true; the input reads as it did. -/
def bitsetSizesSpec : ChangeSpec := { name := "bitsetSizes", fn := fun _ => fun
  | [d1, d2, d3] => { results := [.lit (.bool true)], args := [d1, d2, d3] }
  | _ => none }
def bitsetSizesRow : OpenClaim := { program := "ytmleoiepmmbckaadoor", sum := "900140d7becb7b39afb4d7d4bf1853716e7955e58204f2c094b9bd85d5fbb638", func := "petrinet/petrinetlaw06.BitsetSizes", spec := "bitsetSizes", unfollowed := true, recurses := true, named := ["math/bits.deBruijn64tab"], apart := false, laid := [("math/bits.deBruijn64tab", laid_math_bits_deBruijn64tab)] }
def BitsetSizesSaid : Prop := bitsetSizesRow.holds Tryd.pinned (OpenSpec.ofChange bitsetSizesSpec)

/-- ITS FALSE NEIGHBOUR: 'it returns false'. Refute it at one input. -/
def bitsetSizesWrong : ChangeSpec := { name := "bitsetSizes", fn := fun _ => fun
  | [d1, d2, d3] => { results := [.lit (.bool false)], args := [d1, d2, d3] }
  | _ => none }
def BitsetSizesWrongFalsely : Prop := bitsetSizesRow.holds Tryd.pinned (OpenSpec.ofChange bitsetSizesWrong)

/-- 'petrinetlaw06.BitsetNexts': WHATEVER THE INPUT: true; the input reads as it did. -/
def bitsetNextsSpec : ChangeSpec := { name := "bitsetNexts", fn := fun _ => fun
  | [d1, d2] => { results := [.lit (.bool true)], args := [d1, d2] }
  | _ => none }
def bitsetNextsRow : OpenClaim := { program := "ytmleoiepmmbckaadoor", sum := "900140d7becb7b39afb4d7d4bf1853716e7955e58204f2c094b9bd85d5fbb638", func := "petrinet/petrinetlaw06.BitsetNexts", spec := "bitsetNexts", unfollowed := true, recurses := true, named := ["math/bits.deBruijn64tab"], apart := false, laid := [("math/bits.deBruijn64tab", laid_math_bits_deBruijn64tab)] }
def BitsetNextsSaid : Prop := bitsetNextsRow.holds Tryd.pinned (OpenSpec.ofChange bitsetNextsSpec)

/-- ITS FALSE NEIGHBOUR: 'it returns false'. Refute it at one input. -/
def bitsetNextsWrong : ChangeSpec := { name := "bitsetNexts", fn := fun _ => fun
  | [d1, d2] => { results := [.lit (.bool false)], args := [d1, d2] }
  | _ => none }
def BitsetNextsWrongFalsely : Prop := bitsetNextsRow.holds Tryd.pinned (OpenSpec.ofChange bitsetNextsWrong)

/-- 'petrinetlaw06.BitsetMinimals': WHATEVER THE INPUT: true; the input reads as it did. -/
def bitsetMinimalsSpec : ChangeSpec := { name := "bitsetMinimals", fn := fun _ => fun
  | [d] => { results := [.lit (.bool true)], args := [d] }
  | _ => none }
def bitsetMinimalsRow : OpenClaim := { program := "ytmleoiepmmbckaadoor", sum := "900140d7becb7b39afb4d7d4bf1853716e7955e58204f2c094b9bd85d5fbb638", func := "petrinet/petrinetlaw06.BitsetMinimals", spec := "bitsetMinimals", unfollowed := true, recurses := true, named := ["math/bits.deBruijn64tab"], apart := false, laid := [("math/bits.deBruijn64tab", laid_math_bits_deBruijn64tab)] }
def BitsetMinimalsSaid : Prop := bitsetMinimalsRow.holds Tryd.pinned (OpenSpec.ofChange bitsetMinimalsSpec)

/-- ITS FALSE NEIGHBOUR: 'it returns false'. Refute it at one input. -/
def bitsetMinimalsWrong : ChangeSpec := { name := "bitsetMinimals", fn := fun _ => fun
  | [d] => { results := [.lit (.bool false)], args := [d] }
  | _ => none }
def BitsetMinimalsWrongFalsely : Prop := bitsetMinimalsRow.holds Tryd.pinned (OpenSpec.ofChange bitsetMinimalsWrong)

/-- 'petrinetlaw06.BitsetReturns': WHATEVER THE INPUT: true; the input reads as it did. -/
def bitsetReturnsSpec : ChangeSpec := { name := "bitsetReturns", fn := fun _ => fun
  | [d1, d2] => { results := [.lit (.bool true)], args := [d1, d2] }
  | _ => none }
def bitsetReturnsRow : OpenClaim := { program := "ytmleoiepmmbckaadoor", sum := "900140d7becb7b39afb4d7d4bf1853716e7955e58204f2c094b9bd85d5fbb638", func := "petrinet/petrinetlaw06.BitsetReturns", spec := "bitsetReturns", unfollowed := true, recurses := true, named := ["math/bits.deBruijn64tab"], apart := false, laid := [("math/bits.deBruijn64tab", laid_math_bits_deBruijn64tab)] }
def BitsetReturnsSaid : Prop := bitsetReturnsRow.holds Tryd.pinned (OpenSpec.ofChange bitsetReturnsSpec)

/-- ITS FALSE NEIGHBOUR: 'it returns false'. Refute it at one input. -/
def bitsetReturnsWrong : ChangeSpec := { name := "bitsetReturns", fn := fun _ => fun
  | [d1, d2] => { results := [.lit (.bool false)], args := [d1, d2] }
  | _ => none }
def BitsetReturnsWrongFalsely : Prop := bitsetReturnsRow.holds Tryd.pinned (OpenSpec.ofChange bitsetReturnsWrong)

/-- 'petrinetlaw06.BitsetVisits': WHATEVER THE INPUT: true; the input reads as it did. -/
def bitsetVisitsSpec : ChangeSpec := { name := "bitsetVisits", fn := fun _ => fun
  | [d] => { results := [.lit (.bool true)], args := [d] }
  | _ => none }
def bitsetVisitsRow : OpenClaim := { program := "ytmleoiepmmbckaadoor", sum := "900140d7becb7b39afb4d7d4bf1853716e7955e58204f2c094b9bd85d5fbb638", func := "petrinet/petrinetlaw06.BitsetVisits", spec := "bitsetVisits", unfollowed := true, recurses := true, named := ["math/bits.deBruijn64tab"], apart := false, laid := [("math/bits.deBruijn64tab", laid_math_bits_deBruijn64tab)] }
def BitsetVisitsSaid : Prop := bitsetVisitsRow.holds Tryd.pinned (OpenSpec.ofChange bitsetVisitsSpec)

/-- ITS FALSE NEIGHBOUR: 'it returns false'. Refute it at one input. -/
def bitsetVisitsWrong : ChangeSpec := { name := "bitsetVisits", fn := fun _ => fun
  | [d] => { results := [.lit (.bool false)], args := [d] }
  | _ => none }
def BitsetVisitsWrongFalsely : Prop := bitsetVisitsRow.holds Tryd.pinned (OpenSpec.ofChange bitsetVisitsWrong)

/-- 'petrinetlaw06.BitsetCovers': WHATEVER THE INPUT: true; the input reads as it did. -/
def bitsetCoversSpec : ChangeSpec := { name := "bitsetCovers", fn := fun _ => fun
  | [d] => { results := [.lit (.bool true)], args := [d] }
  | _ => none }
def bitsetCoversRow : OpenClaim := { program := "ytmleoiepmmbckaadoor", sum := "900140d7becb7b39afb4d7d4bf1853716e7955e58204f2c094b9bd85d5fbb638", func := "petrinet/petrinetlaw06.BitsetCovers", spec := "bitsetCovers", unfollowed := true, recurses := true, named := ["math/bits.deBruijn64tab"], apart := false, laid := [("math/bits.deBruijn64tab", laid_math_bits_deBruijn64tab)] }
def BitsetCoversSaid : Prop := bitsetCoversRow.holds Tryd.pinned (OpenSpec.ofChange bitsetCoversSpec)

/-- ITS FALSE NEIGHBOUR: 'it returns false'. Refute it at one input. -/
def bitsetCoversWrong : ChangeSpec := { name := "bitsetCovers", fn := fun _ => fun
  | [d] => { results := [.lit (.bool false)], args := [d] }
  | _ => none }
def BitsetCoversWrongFalsely : Prop := bitsetCoversRow.holds Tryd.pinned (OpenSpec.ofChange bitsetCoversWrong)

/-- 'petrinetlaw06.BitsetOrders': WHATEVER THE INPUT: true; the input reads as it did. -/
def bitsetOrdersSpec : ChangeSpec := { name := "bitsetOrders", fn := fun _ => fun
  | [d1, d2] => { results := [.lit (.bool true)], args := [d1, d2] }
  | _ => none }
def bitsetOrdersRow : OpenClaim := { program := "ytmleoiepmmbckaadoor", sum := "900140d7becb7b39afb4d7d4bf1853716e7955e58204f2c094b9bd85d5fbb638", func := "petrinet/petrinetlaw06.BitsetOrders", spec := "bitsetOrders", unfollowed := true, recurses := true, named := ["math/bits.deBruijn64tab"], apart := false, laid := [("math/bits.deBruijn64tab", laid_math_bits_deBruijn64tab)] }
def BitsetOrdersSaid : Prop := bitsetOrdersRow.holds Tryd.pinned (OpenSpec.ofChange bitsetOrdersSpec)

/-- ITS FALSE NEIGHBOUR: 'it returns false'. Refute it at one input. -/
def bitsetOrdersWrong : ChangeSpec := { name := "bitsetOrders", fn := fun _ => fun
  | [d1, d2] => { results := [.lit (.bool false)], args := [d1, d2] }
  | _ => none }
def BitsetOrdersWrongFalsely : Prop := bitsetOrdersRow.holds Tryd.pinned (OpenSpec.ofChange bitsetOrdersWrong)

/- THE SECOND FORM. 'bulk': how many values and letters a reading holds, each counted each time it is reached (what is shared counts as often as it is met; a slice's spare places count too). A statement '..UptoSaid' is the law's where the arguments, and the package variables that the reading takes, are together of bulk at most 1048576: NARROWER than '..Said'. Prove '..Said' where nothing that the law and all that it calls make is longer than what came in: it says more and counts as full. Else prove '..UptoSaid'. A law counts once. -/
mutual
def uptoBulk {H : Type} : DataW H → Nat
  | .lit (.string bytes) => bytes.length + 1
  | .lit _ => 1
  | .nil => 1
  | .ptr d => uptoBulk d + 1
  | .slice elems spare => uptoBulkAll elems + uptoBulkAll spare + 1
  | .agg parts => uptoBulkAll parts + 1
  | .iface _ d => uptoBulk d + 1
  | .map entries => uptoBulkEntries entries + 1
  | .held _ => 1
def uptoBulkAll {H : Type} : List (DataW H) → Nat
  | [] => 0
  | d :: r => uptoBulk d + uptoBulkAll r
def uptoBulkEntries {H : Type} : List (Lit × DataW H) → Nat
  | [] => 0
  | x :: r => uptoBulkEntry x + uptoBulkEntries r
def uptoBulkEntry {H : Type} : Lit × DataW H → Nat
  | (.string bytes, d) => bytes.length + uptoBulk d + 1
  | (_, d) => uptoBulk d + 1
 end
def uptoSmall : (H : Type) → List (DataW H) → Bool := fun _ ds => decide (uptoBulkAll ds ≤ 1048576)
def OpenSpec.upto (s : _root_.Go.ChangeSpec) : _root_.Go.OpenSpec := { _root_.Go.OpenSpec.ofChange s with cond := some uptoSmall }

/-- 'petrinetlaw06.BitsetElements', WHERE WHAT IT READS IS OF BULK AT MOST 1048576: true; the input reads as it did. -/
def bitsetElementsUptoRow : OpenClaim := { program := "ytmleoiepmmbckaadoor", sum := "900140d7becb7b39afb4d7d4bf1853716e7955e58204f2c094b9bd85d5fbb638", func := "petrinet/petrinetlaw06.BitsetElements", spec := "bitsetElements", unfollowed := true, recurses := true, named := ["math/bits.deBruijn64tab"], apart := false, laid := [("math/bits.deBruijn64tab", laid_math_bits_deBruijn64tab)], narrowed := true }
def BitsetElementsUptoSaid : Prop := bitsetElementsUptoRow.holds Tryd.pinned (OpenSpec.upto bitsetElementsSpec)

/-- 'petrinetlaw06.BitsetSizes', WHERE WHAT IT READS IS OF BULK AT MOST 1048576: true; the input reads as it did. -/
def bitsetSizesUptoRow : OpenClaim := { program := "ytmleoiepmmbckaadoor", sum := "900140d7becb7b39afb4d7d4bf1853716e7955e58204f2c094b9bd85d5fbb638", func := "petrinet/petrinetlaw06.BitsetSizes", spec := "bitsetSizes", unfollowed := true, recurses := true, named := ["math/bits.deBruijn64tab"], apart := false, laid := [("math/bits.deBruijn64tab", laid_math_bits_deBruijn64tab)], narrowed := true }
def BitsetSizesUptoSaid : Prop := bitsetSizesUptoRow.holds Tryd.pinned (OpenSpec.upto bitsetSizesSpec)

/-- 'petrinetlaw06.BitsetNexts', WHERE WHAT IT READS IS OF BULK AT MOST 1048576: true; the input reads as it did. -/
def bitsetNextsUptoRow : OpenClaim := { program := "ytmleoiepmmbckaadoor", sum := "900140d7becb7b39afb4d7d4bf1853716e7955e58204f2c094b9bd85d5fbb638", func := "petrinet/petrinetlaw06.BitsetNexts", spec := "bitsetNexts", unfollowed := true, recurses := true, named := ["math/bits.deBruijn64tab"], apart := false, laid := [("math/bits.deBruijn64tab", laid_math_bits_deBruijn64tab)], narrowed := true }
def BitsetNextsUptoSaid : Prop := bitsetNextsUptoRow.holds Tryd.pinned (OpenSpec.upto bitsetNextsSpec)

/-- 'petrinetlaw06.BitsetMinimals', WHERE WHAT IT READS IS OF BULK AT MOST 1048576: true; the input reads as it did. -/
def bitsetMinimalsUptoRow : OpenClaim := { program := "ytmleoiepmmbckaadoor", sum := "900140d7becb7b39afb4d7d4bf1853716e7955e58204f2c094b9bd85d5fbb638", func := "petrinet/petrinetlaw06.BitsetMinimals", spec := "bitsetMinimals", unfollowed := true, recurses := true, named := ["math/bits.deBruijn64tab"], apart := false, laid := [("math/bits.deBruijn64tab", laid_math_bits_deBruijn64tab)], narrowed := true }
def BitsetMinimalsUptoSaid : Prop := bitsetMinimalsUptoRow.holds Tryd.pinned (OpenSpec.upto bitsetMinimalsSpec)

/-- 'petrinetlaw06.BitsetReturns', WHERE WHAT IT READS IS OF BULK AT MOST 1048576: true; the input reads as it did. -/
def bitsetReturnsUptoRow : OpenClaim := { program := "ytmleoiepmmbckaadoor", sum := "900140d7becb7b39afb4d7d4bf1853716e7955e58204f2c094b9bd85d5fbb638", func := "petrinet/petrinetlaw06.BitsetReturns", spec := "bitsetReturns", unfollowed := true, recurses := true, named := ["math/bits.deBruijn64tab"], apart := false, laid := [("math/bits.deBruijn64tab", laid_math_bits_deBruijn64tab)], narrowed := true }
def BitsetReturnsUptoSaid : Prop := bitsetReturnsUptoRow.holds Tryd.pinned (OpenSpec.upto bitsetReturnsSpec)

/-- 'petrinetlaw06.BitsetVisits', WHERE WHAT IT READS IS OF BULK AT MOST 1048576: true; the input reads as it did. -/
def bitsetVisitsUptoRow : OpenClaim := { program := "ytmleoiepmmbckaadoor", sum := "900140d7becb7b39afb4d7d4bf1853716e7955e58204f2c094b9bd85d5fbb638", func := "petrinet/petrinetlaw06.BitsetVisits", spec := "bitsetVisits", unfollowed := true, recurses := true, named := ["math/bits.deBruijn64tab"], apart := false, laid := [("math/bits.deBruijn64tab", laid_math_bits_deBruijn64tab)], narrowed := true }
def BitsetVisitsUptoSaid : Prop := bitsetVisitsUptoRow.holds Tryd.pinned (OpenSpec.upto bitsetVisitsSpec)

/-- 'petrinetlaw06.BitsetCovers', WHERE WHAT IT READS IS OF BULK AT MOST 1048576: true; the input reads as it did. -/
def bitsetCoversUptoRow : OpenClaim := { program := "ytmleoiepmmbckaadoor", sum := "900140d7becb7b39afb4d7d4bf1853716e7955e58204f2c094b9bd85d5fbb638", func := "petrinet/petrinetlaw06.BitsetCovers", spec := "bitsetCovers", unfollowed := true, recurses := true, named := ["math/bits.deBruijn64tab"], apart := false, laid := [("math/bits.deBruijn64tab", laid_math_bits_deBruijn64tab)], narrowed := true }
def BitsetCoversUptoSaid : Prop := bitsetCoversUptoRow.holds Tryd.pinned (OpenSpec.upto bitsetCoversSpec)

/-- 'petrinetlaw06.BitsetOrders', WHERE WHAT IT READS IS OF BULK AT MOST 1048576: true; the input reads as it did. -/
def bitsetOrdersUptoRow : OpenClaim := { program := "ytmleoiepmmbckaadoor", sum := "900140d7becb7b39afb4d7d4bf1853716e7955e58204f2c094b9bd85d5fbb638", func := "petrinet/petrinetlaw06.BitsetOrders", spec := "bitsetOrders", unfollowed := true, recurses := true, named := ["math/bits.deBruijn64tab"], apart := false, laid := [("math/bits.deBruijn64tab", laid_math_bits_deBruijn64tab)], narrowed := true }
def BitsetOrdersUptoSaid : Prop := bitsetOrdersUptoRow.holds Tryd.pinned (OpenSpec.upto bitsetOrdersSpec)

end Rows
end Go.Proofs.YtmleoiepmmbckaaDoor
