/-
  DERIVED. GIVEN WITH THE SEED: THE CARDS: each row of YtceimmobaganmaaDoorRows.lean that lists a variable, with what it lists TIED to the program's text (the seventh form; the later family's looks); each row that meets fmt, with fmt's text TOLD by the authors' own Lean function (tested against real Go, not proved from fmt's source: count such statements apart). THE CARD IS WHAT COUNTS. Prove the row's statement (the work); the ties are given (YtceimmobaganmaaDoorTie.lean); close each card by the builder's one call (the guide's Derived/Test/ToyasCard.lean, 'card_holds'). Laid BY PROGRAM, IN A SANDBOX (cutbox-door.mjs). By AI agents, Wed Nov 11 2026. No macro, syntax, notation, axiom, sorry.
-/
import Derived.Test.YtceimmobaganmaaDoorRows
import GoSem.ClaimSeven
namespace Go.Proofs.YtceimmobaganmaaDoor
namespace Rows

/-- THE TIED CARD OF 'petrinetlaw06.BitsetMinimals'. -/
def bitsetMinimalsCard : Claim7 := { stood := { row := bitsetMinimalsRow, standIns := [], harness := (true, "0e5b843bb70735e86a06aabc4aa42c9a89d6f954d25083fb58479fd09c08e114"), looks := false }, kinds := [], alts := [], laidByText := true, laidKinds := [.data], laidTests := true, laidLooks := .later }
def BitsetMinimalsCardSaid : Prop := Claim7.holds Tryd.pinned (.plain (OpenSpec.ofChange bitsetMinimalsSpec)) bitsetMinimalsCard

/-- THE SECOND FORM's CARD OF 'petrinetlaw06.BitsetMinimals'. -/
def bitsetMinimalsUptoCard : Claim7 := { stood := { row := bitsetMinimalsUptoRow, standIns := [], harness := (true, "0e5b843bb70735e86a06aabc4aa42c9a89d6f954d25083fb58479fd09c08e114"), looks := false }, kinds := [], alts := [], laidByText := true, laidKinds := [.data], laidTests := true, laidLooks := .later }
def BitsetMinimalsUptoCardSaid : Prop := Claim7.holds Tryd.pinned (.plain (OpenSpec.upto bitsetMinimalsSpec)) bitsetMinimalsUptoCard
end Rows
end Go.Proofs.YtceimmobaganmaaDoor
