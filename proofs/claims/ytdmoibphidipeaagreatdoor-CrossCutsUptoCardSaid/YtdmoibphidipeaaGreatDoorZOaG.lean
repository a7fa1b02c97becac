/- Maps of the plane: the document's own Near and one: sums of products, exactly, to the nearest whole number. -/
import Derived.Test.YtdmoibphidipeaaGreatDoorZOaA
import Derived.Test.YtdmoibphidipeaaGreatDoorZOaF
import Derived.Test.YtdmoibphidipeaaGreatDoorZOaE
import Derived.Test.YtdmoibphidipeaaGreatDoorZWrF
import Derived.Deep.RegionHeld3
namespace Go.Proofs.YtdmoibphidipeaaGreatDoor
open Go.RowKit Num

/-- an int's fraction, a half -/
theorem rv_Int (n : Int) (hn1 : -9223372036854775808 ≤ n) (hn2 : n ≤ 9223372036854775807) (w : World) : Calls Tryz.prog 53 #[.int .i64 n] w (Gv (SF n 1) w) :=
  (ref4_Int n hn1 hn2 w).mono fun _ _ h => gv_of_f h
end Go.Proofs.YtdmoibphidipeaaGreatDoor
