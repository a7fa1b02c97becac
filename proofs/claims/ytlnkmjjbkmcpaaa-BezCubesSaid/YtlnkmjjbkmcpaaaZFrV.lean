/- The same, word by word, or not: the document's own. -/
import Derived.Test.YtlnkmjjbkmcpaaaZWrX
import Derived.Test.YtlnkmjjbkmcpaaaZFrZ
namespace Go.Proofs.Ytlnkmjjbkmcpaaa
open Go.RowKit Num

end Go.Proofs.Ytlnkmjjbkmcpaaa
/- Fractions, the document's own: what Same answers. -/

namespace Go.Proofs.Ytlnkmjjbkmcpaaa
open Go.RowKit Num

end Go.Proofs.Ytlnkmjjbkmcpaaa
