/- Where ways meet, the document's own Meet where the boxes lie apart. -/
import Derived.Test.YtdmoibphidipeaaGreatDoorZCrY
import Derived.Deep.Cut
import Derived.BigGuard
namespace Go.Proofs.YtdmoibphidipeaaGreatDoor
open Go.RowKit Num

end Go.Proofs.YtdmoibphidipeaaGreatDoor
