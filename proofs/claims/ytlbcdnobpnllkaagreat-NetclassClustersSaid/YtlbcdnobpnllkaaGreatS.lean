/- The initial marking; plain and ordinary nets. -/
import Derived.Test.YtlbcdnobpnllkaaGreatR
import Derived.StillTailTactics
namespace Go.Proofs.YtlbcdnobpnllkaaGreat
open Go.RowKit


end Go.Proofs.YtlbcdnobpnllkaaGreat
