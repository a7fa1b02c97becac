/- Whole numbers, the document's own: what Text and Parse answer. -/
import Derived.Test.YtkgedgaddpojkaaDoorZLawF
import Derived.Test.YtkgedgaddpojkaaDoorZWhJ
namespace Go.Proofs.YtkgedgaddpojkaaDoor
open Go.RowKit Num

end Go.Proofs.YtkgedgaddpojkaaDoor
