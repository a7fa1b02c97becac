/- A region that, in whatever order, makes one fraction out of two calls in a row, and stores it into a variable of its own. -/
import Derived.Test.YtdmoibphidipeaaGreatDoorZFlF
namespace Go.Proofs.YtdmoibphidipeaaGreatDoor
open Go Go.RowKit Num rows

end Go.Proofs.YtdmoibphidipeaaGreatDoor
