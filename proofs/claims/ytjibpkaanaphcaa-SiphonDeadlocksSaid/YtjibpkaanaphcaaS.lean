/- The initial marking; plain and ordinary nets. -/
import Derived.Test.YtjibpkaanaphcaaR
import Derived.StillTailTactics
namespace Go.Proofs.Ytjibpkaanaphcaa
open Go.RowKit


end Go.Proofs.Ytjibpkaanaphcaa
