/-
  DERIVED. GIVEN WITH THE SEED: THE CARDS: each row of YtjibpkaanaphcaaGreatDoorRows.lean that lists a variable, with what it lists TIED to the program's text (the seventh form; the later family's looks); each row that meets fmt, with fmt's text TOLD by the authors' own Lean function (tested against real Go, not proved from fmt's source: count such statements apart). THE CARD IS WHAT COUNTS. Prove the row's statement (the work); the ties are given (YtjibpkaanaphcaaGreatDoorTie.lean); close each card by the builder's one call (the guide's Derived/Test/ToyasCard.lean, 'card_holds'). Laid BY PROGRAM, IN A SANDBOX (cutbox-door.mjs). By AI agents, Wed Nov 11 2026. No macro, syntax, notation, axiom, sorry.
-/
import Derived.Test.YtjibpkaanaphcaaGreatDoorRows
import GoSem.ClaimSeven
namespace Go.Proofs.YtjibpkaanaphcaaGreatDoor
namespace Rows

/-- THE TIED CARD OF 'petrinetlaw33.SiphonLists'. -/
def siphonListsCard : Claim7 := { stood := { row := siphonListsRow, standIns := [], harness := (true, "1d4a79f7189a6d6bcd01b30dc52dda37807d49cc3ae5fc18f51ad1841e52dd98"), looks := false }, kinds := [], alts := [], laidByText := true, laidKinds := [.data], laidTests := true, laidLooks := .later }
def SiphonListsCardSaid : Prop := Claim7.holds Tryz.pinned (.plain (OpenSpec.ofChange siphonListsSpec)) siphonListsCard

/-- THE SECOND FORM's CARD OF 'petrinetlaw33.SiphonLists'. -/
def siphonListsUptoCard : Claim7 := { stood := { row := siphonListsUptoRow, standIns := [], harness := (true, "1d4a79f7189a6d6bcd01b30dc52dda37807d49cc3ae5fc18f51ad1841e52dd98"), looks := false }, kinds := [], alts := [], laidByText := true, laidKinds := [.data], laidTests := true, laidLooks := .later }
def SiphonListsUptoCardSaid : Prop := Claim7.holds Tryz.pinned (.plain (OpenSpec.upto siphonListsSpec)) siphonListsUptoCard
end Rows
end Go.Proofs.YtjibpkaanaphcaaGreatDoor
