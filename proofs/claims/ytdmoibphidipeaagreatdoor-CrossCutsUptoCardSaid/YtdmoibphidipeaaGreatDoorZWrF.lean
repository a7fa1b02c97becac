/- Whole numbers, the document's own: what Int answers. -/
import Derived.Test.YtdmoibphidipeaaGreatDoorZWrY
import Derived.Test.YtdmoibphidipeaaGreatDoorZOaD
import Derived.Deep.CutRange
import Derived.Deep.RegionWith
namespace Go.Proofs.YtdmoibphidipeaaGreatDoor
open Go.RowKit Num

end Go.Proofs.YtdmoibphidipeaaGreatDoor
