/-
  DERIVED. GIVEN WITH THE SEED: THE CARDS: each row of YtgjgohnomophnaaDoorRows.lean that lists a variable, with what it lists TIED to the program's text (the seventh form; the later family's looks); each row that meets fmt, with fmt's text TOLD by the authors' own Lean function (tested against real Go, not proved from fmt's source: count such statements apart). THE CARD IS WHAT COUNTS. Prove the row's statement (the work); the ties are given (YtgjgohnomophnaaDoorTie.lean); close each card by the builder's one call (the guide's Derived/Test/ToyasCard.lean, 'card_holds'). Laid BY PROGRAM, IN A SANDBOX (cutbox-door.mjs). By AI agents, Wed Nov 11 2026. No macro, syntax, notation, axiom, sorry.
-/
import Derived.Test.YtgjgohnomophnaaDoorRows
import GoSem.ClaimSeven
namespace Go.Proofs.YtgjgohnomophnaaDoor
namespace Rows

/-- THE TIED CARD OF 'petrinetlaw48.EventlogChecks'. -/
def eventlogChecksCard : Claim7 := { stood := { row := eventlogChecksRow, standIns := [], harness := (true, "55ca51b02d3fdca1dfb56ee5ef506fdd1da8c0de62fe698b8bad637913fff5ca"), looks := false }, kinds := [], alts := [], laidByText := true, laidKinds := [.data, .pinned], laidTests := true, laidLooks := .later }
def EventlogChecksCardSaid : Prop := Claim7.holds Tryd.pinned (.plain (OpenSpec.ofChange eventlogChecksSpec)) eventlogChecksCard

/-- THE TIED CARD OF 'petrinetlaw48.EventlogParses'. -/
def eventlogParsesCard : Claim7 := { stood := { row := eventlogParsesRow, standIns := [], harness := (true, "55ca51b02d3fdca1dfb56ee5ef506fdd1da8c0de62fe698b8bad637913fff5ca"), looks := false }, kinds := [], alts := [], laidByText := true, laidKinds := [.data, .pinned], laidTests := true, laidLooks := .later }
def EventlogParsesCardSaid : Prop := Claim7.holds Tryd.pinned (.plain (OpenSpec.ofChange eventlogParsesSpec)) eventlogParsesCard

/-- THE TIED CARD OF 'petrinetlaw48.EventlogCounts'. -/
def eventlogCountsCard : Claim7 := { stood := { row := eventlogCountsRow, standIns := [], harness := (true, "55ca51b02d3fdca1dfb56ee5ef506fdd1da8c0de62fe698b8bad637913fff5ca"), looks := false }, kinds := [], alts := [], laidByText := true, laidKinds := [.data, .data, .data, .data, .pinned], laidTests := true, laidLooks := .later }
def EventlogCountsCardSaid : Prop := Claim7.holds Tryd.pinned (.plain (OpenSpec.ofChange eventlogCountsSpec)) eventlogCountsCard

/-- THE TIED CARD OF 'petrinetlaw48.EventlogFollows'. -/
def eventlogFollowsCard : Claim7 := { stood := { row := eventlogFollowsRow, standIns := [], harness := (true, "55ca51b02d3fdca1dfb56ee5ef506fdd1da8c0de62fe698b8bad637913fff5ca"), looks := false }, kinds := [], alts := [], laidByText := true, laidKinds := [.data, .pinned], laidTests := true, laidLooks := .later }
def EventlogFollowsCardSaid : Prop := Claim7.holds Tryd.pinned (.plain (OpenSpec.ofChange eventlogFollowsSpec)) eventlogFollowsCard

/-- THE TIED CARD OF 'petrinetlaw48.EventlogBack'. -/
def eventlogBackCard : Claim7 := { stood := { row := eventlogBackRow, standIns := [], harness := (true, "55ca51b02d3fdca1dfb56ee5ef506fdd1da8c0de62fe698b8bad637913fff5ca"), looks := false }, kinds := [], alts := [], laidByText := true, laidKinds := [.data, .data, .data, .data, .pinned], laidTests := true, laidLooks := .later }
def EventlogBackCardSaid : Prop := Claim7.holds Tryd.pinned (.plain (OpenSpec.ofChange eventlogBackSpec)) eventlogBackCard

/-- THE TIED CARD OF 'petrinetlaw48.EventlogMirrors'. -/
def eventlogMirrorsCard : Claim7 := { stood := { row := eventlogMirrorsRow, standIns := [], harness := (true, "55ca51b02d3fdca1dfb56ee5ef506fdd1da8c0de62fe698b8bad637913fff5ca"), looks := false }, kinds := [], alts := [], laidByText := true, laidKinds := [.data, .pinned], laidTests := true, laidLooks := .later }
def EventlogMirrorsCardSaid : Prop := Claim7.holds Tryd.pinned (.plain (OpenSpec.ofChange eventlogMirrorsSpec)) eventlogMirrorsCard

/-- THE SECOND FORM's CARD OF 'petrinetlaw48.EventlogChecks'. -/
def eventlogChecksUptoCard : Claim7 := { stood := { row := eventlogChecksUptoRow, standIns := [], harness := (true, "55ca51b02d3fdca1dfb56ee5ef506fdd1da8c0de62fe698b8bad637913fff5ca"), looks := false }, kinds := [], alts := [], laidByText := true, laidKinds := [.data, .pinned], laidTests := true, laidLooks := .later }
def EventlogChecksUptoCardSaid : Prop := Claim7.holds Tryd.pinned (.plain (OpenSpec.upto eventlogChecksSpec)) eventlogChecksUptoCard

/-- THE SECOND FORM's CARD OF 'petrinetlaw48.EventlogParses'. -/
def eventlogParsesUptoCard : Claim7 := { stood := { row := eventlogParsesUptoRow, standIns := [], harness := (true, "55ca51b02d3fdca1dfb56ee5ef506fdd1da8c0de62fe698b8bad637913fff5ca"), looks := false }, kinds := [], alts := [], laidByText := true, laidKinds := [.data, .pinned], laidTests := true, laidLooks := .later }
def EventlogParsesUptoCardSaid : Prop := Claim7.holds Tryd.pinned (.plain (OpenSpec.upto eventlogParsesSpec)) eventlogParsesUptoCard

/-- THE SECOND FORM's CARD OF 'petrinetlaw48.EventlogCounts'. -/
def eventlogCountsUptoCard : Claim7 := { stood := { row := eventlogCountsUptoRow, standIns := [], harness := (true, "55ca51b02d3fdca1dfb56ee5ef506fdd1da8c0de62fe698b8bad637913fff5ca"), looks := false }, kinds := [], alts := [], laidByText := true, laidKinds := [.data, .data, .data, .data, .pinned], laidTests := true, laidLooks := .later }
def EventlogCountsUptoCardSaid : Prop := Claim7.holds Tryd.pinned (.plain (OpenSpec.upto eventlogCountsSpec)) eventlogCountsUptoCard

/-- THE SECOND FORM's CARD OF 'petrinetlaw48.EventlogFollows'. -/
def eventlogFollowsUptoCard : Claim7 := { stood := { row := eventlogFollowsUptoRow, standIns := [], harness := (true, "55ca51b02d3fdca1dfb56ee5ef506fdd1da8c0de62fe698b8bad637913fff5ca"), looks := false }, kinds := [], alts := [], laidByText := true, laidKinds := [.data, .pinned], laidTests := true, laidLooks := .later }
def EventlogFollowsUptoCardSaid : Prop := Claim7.holds Tryd.pinned (.plain (OpenSpec.upto eventlogFollowsSpec)) eventlogFollowsUptoCard

/-- THE SECOND FORM's CARD OF 'petrinetlaw48.EventlogBack'. -/
def eventlogBackUptoCard : Claim7 := { stood := { row := eventlogBackUptoRow, standIns := [], harness := (true, "55ca51b02d3fdca1dfb56ee5ef506fdd1da8c0de62fe698b8bad637913fff5ca"), looks := false }, kinds := [], alts := [], laidByText := true, laidKinds := [.data, .data, .data, .data, .pinned], laidTests := true, laidLooks := .later }
def EventlogBackUptoCardSaid : Prop := Claim7.holds Tryd.pinned (.plain (OpenSpec.upto eventlogBackSpec)) eventlogBackUptoCard

/-- THE SECOND FORM's CARD OF 'petrinetlaw48.EventlogMirrors'. -/
def eventlogMirrorsUptoCard : Claim7 := { stood := { row := eventlogMirrorsUptoRow, standIns := [], harness := (true, "55ca51b02d3fdca1dfb56ee5ef506fdd1da8c0de62fe698b8bad637913fff5ca"), looks := false }, kinds := [], alts := [], laidByText := true, laidKinds := [.data, .pinned], laidTests := true, laidLooks := .later }
def EventlogMirrorsUptoCardSaid : Prop := Claim7.holds Tryd.pinned (.plain (OpenSpec.upto eventlogMirrorsSpec)) eventlogMirrorsUptoCard
end Rows
end Go.Proofs.YtgjgohnomophnaaDoor
