/-
  DERIVED. GIVEN WITH THE SEED: THE CARDS: each row of YtmleoiepmmbckaaDoorRows.lean that lists a variable, with what it lists TIED to the program's text (the seventh form; the later family's looks); each row that meets fmt, with fmt's text TOLD by the authors' own Lean function (tested against real Go, not proved from fmt's source: count such statements apart). THE CARD IS WHAT COUNTS. Prove the row's statement (the work); the ties are given (YtmleoiepmmbckaaDoorTie.lean); close each card by the builder's one call (the guide's Derived/Test/ToyasCard.lean, 'card_holds'). Laid BY PROGRAM, IN A SANDBOX (cutbox-door.mjs). By AI agents, Wed Nov 11 2026. No macro, syntax, notation, axiom, sorry.
-/
import Derived.Test.YtmleoiepmmbckaaDoorRows
import GoSem.ClaimSeven
namespace Go.Proofs.YtmleoiepmmbckaaDoor
namespace Rows

/-- THE TIED CARD OF 'petrinetlaw06.BitsetElements'. -/
def bitsetElementsCard : Claim7 := { stood := { row := bitsetElementsRow, standIns := [], harness := (true, "21a2adb6ec38daea6358618db7ca027872b7c9b79c6d3b25b6f617c0789d60ff"), looks := false }, kinds := [], alts := [], laidByText := true, laidKinds := [.data], laidTests := true, laidLooks := .later }
def BitsetElementsCardSaid : Prop := Claim7.holds Tryd.pinned (.plain (OpenSpec.ofChange bitsetElementsSpec)) bitsetElementsCard

/-- THE TIED CARD OF 'petrinetlaw06.BitsetSizes'. -/
def bitsetSizesCard : Claim7 := { stood := { row := bitsetSizesRow, standIns := [], harness := (true, "21a2adb6ec38daea6358618db7ca027872b7c9b79c6d3b25b6f617c0789d60ff"), looks := false }, kinds := [], alts := [], laidByText := true, laidKinds := [.data], laidTests := true, laidLooks := .later }
def BitsetSizesCardSaid : Prop := Claim7.holds Tryd.pinned (.plain (OpenSpec.ofChange bitsetSizesSpec)) bitsetSizesCard

/-- THE TIED CARD OF 'petrinetlaw06.BitsetNexts'. -/
def bitsetNextsCard : Claim7 := { stood := { row := bitsetNextsRow, standIns := [], harness := (true, "21a2adb6ec38daea6358618db7ca027872b7c9b79c6d3b25b6f617c0789d60ff"), looks := false }, kinds := [], alts := [], laidByText := true, laidKinds := [.data], laidTests := true, laidLooks := .later }
def BitsetNextsCardSaid : Prop := Claim7.holds Tryd.pinned (.plain (OpenSpec.ofChange bitsetNextsSpec)) bitsetNextsCard

/-- THE TIED CARD OF 'petrinetlaw06.BitsetMinimals'. -/
def bitsetMinimalsCard : Claim7 := { stood := { row := bitsetMinimalsRow, standIns := [], harness := (true, "21a2adb6ec38daea6358618db7ca027872b7c9b79c6d3b25b6f617c0789d60ff"), looks := false }, kinds := [], alts := [], laidByText := true, laidKinds := [.data], laidTests := true, laidLooks := .later }
def BitsetMinimalsCardSaid : Prop := Claim7.holds Tryd.pinned (.plain (OpenSpec.ofChange bitsetMinimalsSpec)) bitsetMinimalsCard

/-- THE TIED CARD OF 'petrinetlaw06.BitsetReturns'. -/
def bitsetReturnsCard : Claim7 := { stood := { row := bitsetReturnsRow, standIns := [], harness := (true, "21a2adb6ec38daea6358618db7ca027872b7c9b79c6d3b25b6f617c0789d60ff"), looks := false }, kinds := [], alts := [], laidByText := true, laidKinds := [.data], laidTests := true, laidLooks := .later }
def BitsetReturnsCardSaid : Prop := Claim7.holds Tryd.pinned (.plain (OpenSpec.ofChange bitsetReturnsSpec)) bitsetReturnsCard

/-- THE TIED CARD OF 'petrinetlaw06.BitsetVisits'. -/
def bitsetVisitsCard : Claim7 := { stood := { row := bitsetVisitsRow, standIns := [], harness := (true, "21a2adb6ec38daea6358618db7ca027872b7c9b79c6d3b25b6f617c0789d60ff"), looks := false }, kinds := [], alts := [], laidByText := true, laidKinds := [.data], laidTests := true, laidLooks := .later }
def BitsetVisitsCardSaid : Prop := Claim7.holds Tryd.pinned (.plain (OpenSpec.ofChange bitsetVisitsSpec)) bitsetVisitsCard

/-- THE TIED CARD OF 'petrinetlaw06.BitsetCovers'. -/
def bitsetCoversCard : Claim7 := { stood := { row := bitsetCoversRow, standIns := [], harness := (true, "21a2adb6ec38daea6358618db7ca027872b7c9b79c6d3b25b6f617c0789d60ff"), looks := false }, kinds := [], alts := [], laidByText := true, laidKinds := [.data], laidTests := true, laidLooks := .later }
def BitsetCoversCardSaid : Prop := Claim7.holds Tryd.pinned (.plain (OpenSpec.ofChange bitsetCoversSpec)) bitsetCoversCard

/-- THE TIED CARD OF 'petrinetlaw06.BitsetOrders'. -/
def bitsetOrdersCard : Claim7 := { stood := { row := bitsetOrdersRow, standIns := [], harness := (true, "21a2adb6ec38daea6358618db7ca027872b7c9b79c6d3b25b6f617c0789d60ff"), looks := false }, kinds := [], alts := [], laidByText := true, laidKinds := [.data], laidTests := true, laidLooks := .later }
def BitsetOrdersCardSaid : Prop := Claim7.holds Tryd.pinned (.plain (OpenSpec.ofChange bitsetOrdersSpec)) bitsetOrdersCard

/-- THE SECOND FORM's CARD OF 'petrinetlaw06.BitsetElements'. -/
def bitsetElementsUptoCard : Claim7 := { stood := { row := bitsetElementsUptoRow, standIns := [], harness := (true, "21a2adb6ec38daea6358618db7ca027872b7c9b79c6d3b25b6f617c0789d60ff"), looks := false }, kinds := [], alts := [], laidByText := true, laidKinds := [.data], laidTests := true, laidLooks := .later }
def BitsetElementsUptoCardSaid : Prop := Claim7.holds Tryd.pinned (.plain (OpenSpec.upto bitsetElementsSpec)) bitsetElementsUptoCard

/-- THE SECOND FORM's CARD OF 'petrinetlaw06.BitsetSizes'. -/
def bitsetSizesUptoCard : Claim7 := { stood := { row := bitsetSizesUptoRow, standIns := [], harness := (true, "21a2adb6ec38daea6358618db7ca027872b7c9b79c6d3b25b6f617c0789d60ff"), looks := false }, kinds := [], alts := [], laidByText := true, laidKinds := [.data], laidTests := true, laidLooks := .later }
def BitsetSizesUptoCardSaid : Prop := Claim7.holds Tryd.pinned (.plain (OpenSpec.upto bitsetSizesSpec)) bitsetSizesUptoCard

/-- THE SECOND FORM's CARD OF 'petrinetlaw06.BitsetNexts'. -/
def bitsetNextsUptoCard : Claim7 := { stood := { row := bitsetNextsUptoRow, standIns := [], harness := (true, "21a2adb6ec38daea6358618db7ca027872b7c9b79c6d3b25b6f617c0789d60ff"), looks := false }, kinds := [], alts := [], laidByText := true, laidKinds := [.data], laidTests := true, laidLooks := .later }
def BitsetNextsUptoCardSaid : Prop := Claim7.holds Tryd.pinned (.plain (OpenSpec.upto bitsetNextsSpec)) bitsetNextsUptoCard

/-- THE SECOND FORM's CARD OF 'petrinetlaw06.BitsetMinimals'. -/
def bitsetMinimalsUptoCard : Claim7 := { stood := { row := bitsetMinimalsUptoRow, standIns := [], harness := (true, "21a2adb6ec38daea6358618db7ca027872b7c9b79c6d3b25b6f617c0789d60ff"), looks := false }, kinds := [], alts := [], laidByText := true, laidKinds := [.data], laidTests := true, laidLooks := .later }
def BitsetMinimalsUptoCardSaid : Prop := Claim7.holds Tryd.pinned (.plain (OpenSpec.upto bitsetMinimalsSpec)) bitsetMinimalsUptoCard

/-- THE SECOND FORM's CARD OF 'petrinetlaw06.BitsetReturns'. -/
def bitsetReturnsUptoCard : Claim7 := { stood := { row := bitsetReturnsUptoRow, standIns := [], harness := (true, "21a2adb6ec38daea6358618db7ca027872b7c9b79c6d3b25b6f617c0789d60ff"), looks := false }, kinds := [], alts := [], laidByText := true, laidKinds := [.data], laidTests := true, laidLooks := .later }
def BitsetReturnsUptoCardSaid : Prop := Claim7.holds Tryd.pinned (.plain (OpenSpec.upto bitsetReturnsSpec)) bitsetReturnsUptoCard

/-- THE SECOND FORM's CARD OF 'petrinetlaw06.BitsetVisits'. -/
def bitsetVisitsUptoCard : Claim7 := { stood := { row := bitsetVisitsUptoRow, standIns := [], harness := (true, "21a2adb6ec38daea6358618db7ca027872b7c9b79c6d3b25b6f617c0789d60ff"), looks := false }, kinds := [], alts := [], laidByText := true, laidKinds := [.data], laidTests := true, laidLooks := .later }
def BitsetVisitsUptoCardSaid : Prop := Claim7.holds Tryd.pinned (.plain (OpenSpec.upto bitsetVisitsSpec)) bitsetVisitsUptoCard

/-- THE SECOND FORM's CARD OF 'petrinetlaw06.BitsetCovers'. -/
def bitsetCoversUptoCard : Claim7 := { stood := { row := bitsetCoversUptoRow, standIns := [], harness := (true, "21a2adb6ec38daea6358618db7ca027872b7c9b79c6d3b25b6f617c0789d60ff"), looks := false }, kinds := [], alts := [], laidByText := true, laidKinds := [.data], laidTests := true, laidLooks := .later }
def BitsetCoversUptoCardSaid : Prop := Claim7.holds Tryd.pinned (.plain (OpenSpec.upto bitsetCoversSpec)) bitsetCoversUptoCard

/-- THE SECOND FORM's CARD OF 'petrinetlaw06.BitsetOrders'. -/
def bitsetOrdersUptoCard : Claim7 := { stood := { row := bitsetOrdersUptoRow, standIns := [], harness := (true, "21a2adb6ec38daea6358618db7ca027872b7c9b79c6d3b25b6f617c0789d60ff"), looks := false }, kinds := [], alts := [], laidByText := true, laidKinds := [.data], laidTests := true, laidLooks := .later }
def BitsetOrdersUptoCardSaid : Prop := Claim7.holds Tryd.pinned (.plain (OpenSpec.upto bitsetOrdersSpec)) bitsetOrdersUptoCard
end Rows
end Go.Proofs.YtmleoiepmmbckaaDoor
