/- Whole numbers, the document's own: what Text and Parse answer. -/
import Derived.Test.YtlnkmjjbkmcpaaaZLawF
import Derived.Test.YtlnkmjjbkmcpaaaZWhJ
namespace Go.Proofs.Ytlnkmjjbkmcpaaa
open Go.RowKit Num

end Go.Proofs.Ytlnkmjjbkmcpaaa
