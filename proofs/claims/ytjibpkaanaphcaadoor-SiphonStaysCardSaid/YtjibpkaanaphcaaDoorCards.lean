/-
  DERIVED. GIVEN WITH THE SEED: THE CARDS: each row of YtjibpkaanaphcaaDoorRows.lean that lists a variable, with what it lists TIED to the program's text (the seventh form; the later family's looks); each row that meets fmt, with fmt's text TOLD by the authors' own Lean function (tested against real Go, not proved from fmt's source: count such statements apart). THE CARD IS WHAT COUNTS. Prove the row's statement (the work); the ties are given (YtjibpkaanaphcaaDoorTie.lean); close each card by the builder's one call (the guide's Derived/Test/ToyasCard.lean, 'card_holds'). Laid BY PROGRAM, IN A SANDBOX (cutbox-door.mjs). By AI agents, Wed Nov 11 2026. No macro, syntax, notation, axiom, sorry.
-/
import Derived.Test.YtjibpkaanaphcaaDoorRows
import GoSem.ClaimSeven
namespace Go.Proofs.YtjibpkaanaphcaaDoor
namespace Rows

/-- THE TIED CARD OF 'petrinetlaw33.SiphonMarks'. -/
def siphonMarksCard : Claim7 := { stood := { row := siphonMarksRow, standIns := [], harness := (true, "d80b7fe4303582ad38a47c1a2c29866e24f475fe74d8da46351d4e3a846abede"), looks := false }, kinds := [], alts := [], laidByText := true, laidKinds := [.data], laidTests := true, laidLooks := .later }
def SiphonMarksCardSaid : Prop := Claim7.holds Tryd.pinned (.plain (OpenSpec.ofChange siphonMarksSpec)) siphonMarksCard

/-- THE TIED CARD OF 'petrinetlaw33.SiphonStays'. -/
def siphonStaysCard : Claim7 := { stood := { row := siphonStaysRow, standIns := [], harness := (true, "d80b7fe4303582ad38a47c1a2c29866e24f475fe74d8da46351d4e3a846abede"), looks := false }, kinds := [], alts := [], laidByText := true, laidKinds := [.data], laidTests := true, laidLooks := .later }
def SiphonStaysCardSaid : Prop := Claim7.holds Tryd.pinned (.plain (OpenSpec.ofChange siphonStaysSpec)) siphonStaysCard

/-- THE SECOND FORM's CARD OF 'petrinetlaw33.SiphonMarks'. -/
def siphonMarksUptoCard : Claim7 := { stood := { row := siphonMarksUptoRow, standIns := [], harness := (true, "d80b7fe4303582ad38a47c1a2c29866e24f475fe74d8da46351d4e3a846abede"), looks := false }, kinds := [], alts := [], laidByText := true, laidKinds := [.data], laidTests := true, laidLooks := .later }
def SiphonMarksUptoCardSaid : Prop := Claim7.holds Tryd.pinned (.plain (OpenSpec.upto siphonMarksSpec)) siphonMarksUptoCard

/-- THE SECOND FORM's CARD OF 'petrinetlaw33.SiphonStays'. -/
def siphonStaysUptoCard : Claim7 := { stood := { row := siphonStaysUptoRow, standIns := [], harness := (true, "d80b7fe4303582ad38a47c1a2c29866e24f475fe74d8da46351d4e3a846abede"), looks := false }, kinds := [], alts := [], laidByText := true, laidKinds := [.data], laidTests := true, laidLooks := .later }
def SiphonStaysUptoCardSaid : Prop := Claim7.holds Tryd.pinned (.plain (OpenSpec.upto siphonStaysSpec)) siphonStaysUptoCard
end Rows
end Go.Proofs.YtjibpkaanaphcaaDoor
