/- Whole numbers, the document's own: what Text and Parse answer. -/
import Derived.Test.YtokaapljlpngdaaGreatDoorZLawF
import Derived.Test.YtokaapljlpngdaaGreatDoorZWhJ
namespace Go.Proofs.YtokaapljlpngdaaGreatDoor
open Go.RowKit Num

end Go.Proofs.YtokaapljlpngdaaGreatDoor
