/-
  DERIVED. GIVEN WITH THE SEED: THE CARDS: each row of YtkjdgkndlfhhjaaDoorRows.lean that lists a variable, with what it lists TIED to the program's text (the seventh form; the later family's looks); each row that meets fmt, with fmt's text TOLD by the authors' own Lean function (tested against real Go, not proved from fmt's source: count such statements apart). THE CARD IS WHAT COUNTS. Prove the row's statement (the work); the ties are given (YtkjdgkndlfhhjaaDoorTie.lean); close each card by the builder's one call (the guide's Derived/Test/ToyasCard.lean, 'card_holds'). Laid BY PROGRAM, IN A SANDBOX (cutbox-door.mjs). By AI agents, Wed Nov 11 2026. No macro, syntax, notation, axiom, sorry.
-/
import Derived.Test.YtkjdgkndlfhhjaaDoorRows
import GoSem.ClaimSeven
namespace Go.Proofs.YtkjdgkndlfhhjaaDoor
namespace Rows

/-- THE TIED CARD OF 'petrinetlaw05.OmegaMaximals'. -/
def omegaMaximalsCard : Claim7 := { stood := { row := omegaMaximalsRow, standIns := [], harness := (true, "6ed4eda3858771fea717f470c99ca7f54b389157db6ed3b975ab5ed24449b0c9"), looks := false }, kinds := [], alts := [], laidByText := true, laidKinds := [.data, .data, .data], laidTests := true, laidLooks := .later }
def OmegaMaximalsCardSaid : Prop := Claim7.holds Tryd.pinned (.plain (OpenSpec.ofChange omegaMaximalsSpec)) omegaMaximalsCard

/-- THE TIED CARD OF 'petrinetlaw05.OmegaDominates'. -/
def omegaDominatesCard : Claim7 := { stood := { row := omegaDominatesRow, standIns := [], harness := (true, "6ed4eda3858771fea717f470c99ca7f54b389157db6ed3b975ab5ed24449b0c9"), looks := false }, kinds := [], alts := [], laidByText := true, laidKinds := [.data, .data, .data], laidTests := true, laidLooks := .later }
def OmegaDominatesCardSaid : Prop := Claim7.holds Tryd.pinned (.plain (OpenSpec.ofChange omegaDominatesSpec)) omegaDominatesCard

/-- THE SECOND FORM's CARD OF 'petrinetlaw05.OmegaMaximals'. -/
def omegaMaximalsUptoCard : Claim7 := { stood := { row := omegaMaximalsUptoRow, standIns := [], harness := (true, "6ed4eda3858771fea717f470c99ca7f54b389157db6ed3b975ab5ed24449b0c9"), looks := false }, kinds := [], alts := [], laidByText := true, laidKinds := [.data, .data, .data], laidTests := true, laidLooks := .later }
def OmegaMaximalsUptoCardSaid : Prop := Claim7.holds Tryd.pinned (.plain (OpenSpec.upto omegaMaximalsSpec)) omegaMaximalsUptoCard

/-- THE SECOND FORM's CARD OF 'petrinetlaw05.OmegaDominates'. -/
def omegaDominatesUptoCard : Claim7 := { stood := { row := omegaDominatesUptoRow, standIns := [], harness := (true, "6ed4eda3858771fea717f470c99ca7f54b389157db6ed3b975ab5ed24449b0c9"), looks := false }, kinds := [], alts := [], laidByText := true, laidKinds := [.data, .data, .data], laidTests := true, laidLooks := .later }
def OmegaDominatesUptoCardSaid : Prop := Claim7.holds Tryd.pinned (.plain (OpenSpec.upto omegaDominatesSpec)) omegaDominatesUptoCard
end Rows
end Go.Proofs.YtkjdgkndlfhhjaaDoor
