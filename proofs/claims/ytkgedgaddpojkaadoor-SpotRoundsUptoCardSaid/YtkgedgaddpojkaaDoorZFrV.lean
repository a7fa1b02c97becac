/- The same, word by word, or not: the document's own. -/
import Derived.Test.YtkgedgaddpojkaaDoorZWrX
import Derived.Test.YtkgedgaddpojkaaDoorZFrZ
namespace Go.Proofs.YtkgedgaddpojkaaDoor
open Go.RowKit Num

end Go.Proofs.YtkgedgaddpojkaaDoor
/- Fractions, the document's own: what Same answers. -/

namespace Go.Proofs.YtkgedgaddpojkaaDoor
open Go.RowKit Num

end Go.Proofs.YtkgedgaddpojkaaDoor
