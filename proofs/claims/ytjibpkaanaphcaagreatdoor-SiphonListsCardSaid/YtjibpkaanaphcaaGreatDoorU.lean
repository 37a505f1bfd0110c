/- Plain and ordinary nets: the functions themselves. -/
import Derived.Test.YtjibpkaanaphcaaGreatDoorT
import Derived.Laws.EntriesVeiled
namespace Go.Proofs.YtjibpkaanaphcaaGreatDoor
open Go.RowKit


end Go.Proofs.YtjibpkaanaphcaaGreatDoor
