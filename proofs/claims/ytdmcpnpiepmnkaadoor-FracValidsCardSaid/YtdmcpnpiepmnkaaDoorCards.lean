/-
  DERIVED. GIVEN WITH THE SEED: THE CARDS: each row of YtdmcpnpiepmnkaaDoorRows.lean that lists a variable, with what it lists TIED to the program's text (the seventh form; the later family's looks); each row that meets fmt, with fmt's text TOLD by the authors' own Lean function (tested against real Go, not proved from fmt's source: count such statements apart). THE CARD IS WHAT COUNTS. Prove the row's statement (the work); the ties are given (YtdmcpnpiepmnkaaDoorTie.lean); close each card by the builder's one call (the guide's Derived/Test/ToyasCard.lean, 'card_holds'). Laid BY PROGRAM, IN A SANDBOX (cutbox-door.mjs). By AI agents, Wed Nov 11 2026. No macro, syntax, notation, axiom, sorry.
-/
import Derived.Test.YtdmcpnpiepmnkaaDoorRows
import GoSem.ClaimSeven
namespace Go.Proofs.YtdmcpnpiepmnkaaDoor
namespace Rows

/-- THE TIED CARD OF 'petrinetlaw02.FracValids'. -/
def fracValidsCard : Claim7 := { stood := { row := fracValidsRow, standIns := [], harness := (true, "f3b1ef0cb993a2a0b808d4fc06d7161aee6dba4868b54510617d439c83004cdd"), looks := false }, kinds := [], alts := [], laidByText := true, laidKinds := [.data, .data, .data], laidTests := true, laidLooks := .later }
def FracValidsCardSaid : Prop := Claim7.holds Tryd.pinned (.plain (OpenSpec.ofChange fracValidsSpec)) fracValidsCard

/-- THE SECOND FORM's CARD OF 'petrinetlaw02.FracValids'. -/
def fracValidsUptoCard : Claim7 := { stood := { row := fracValidsUptoRow, standIns := [], harness := (true, "f3b1ef0cb993a2a0b808d4fc06d7161aee6dba4868b54510617d439c83004cdd"), looks := false }, kinds := [], alts := [], laidByText := true, laidKinds := [.data, .data, .data], laidTests := true, laidLooks := .later }
def FracValidsUptoCardSaid : Prop := Claim7.holds Tryd.pinned (.plain (OpenSpec.upto fracValidsSpec)) fracValidsUptoCard
end Rows
end Go.Proofs.YtdmcpnpiepmnkaaDoor
