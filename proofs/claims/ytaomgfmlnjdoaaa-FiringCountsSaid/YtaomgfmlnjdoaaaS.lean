/- The initial marking; plain and ordinary nets. -/
import Derived.Test.YtaomgfmlnjdoaaaR
import Derived.StillTailTactics
namespace Go.Proofs.Ytaomgfmlnjdoaaa
open Go.RowKit


end Go.Proofs.Ytaomgfmlnjdoaaa
