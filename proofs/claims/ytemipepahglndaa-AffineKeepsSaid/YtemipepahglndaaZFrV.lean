/- The same, word by word, or not: the document's own. -/
import Derived.Test.YtemipepahglndaaZWrX
import Derived.Test.YtemipepahglndaaZFrZ
namespace Go.Proofs.Ytemipepahglndaa
open Go.RowKit Num

end Go.Proofs.Ytemipepahglndaa
/- Fractions, the document's own: what Same answers. -/

namespace Go.Proofs.Ytemipepahglndaa
open Go.RowKit Num

end Go.Proofs.Ytemipepahglndaa
