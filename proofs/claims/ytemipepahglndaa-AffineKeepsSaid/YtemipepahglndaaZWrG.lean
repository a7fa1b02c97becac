/- Whole numbers, the document's own: what Text and Parse answer. -/
import Derived.Test.YtemipepahglndaaZLawF
import Derived.Test.YtemipepahglndaaZWhJ
namespace Go.Proofs.Ytemipepahglndaa
open Go.RowKit Num

end Go.Proofs.Ytemipepahglndaa
