/- The initial marking; plain and ordinary nets. -/
import Derived.Test.YtlbcdnobpnllkaaR
import Derived.StillTailTactics
namespace Go.Proofs.Ytlbcdnobpnllkaa
open Go.RowKit


end Go.Proofs.Ytlbcdnobpnllkaa
