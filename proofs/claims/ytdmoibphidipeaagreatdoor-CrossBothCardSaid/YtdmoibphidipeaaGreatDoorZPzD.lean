/- A region that draws its order and whose last operation waits for all the others: the last one is walked apart. No program is named here. -/
import Derived.OrdersHeld
import Derived.WalkKit
namespace Go.Proofs.YtdmoibphidipeaaGreatDoor
open Go

section
variable {P : Program} {xs : Array Oper} {o : Oper} {Q : Exit → Act → World → Prop} {md : Region.Mode}

end
end Go.Proofs.YtdmoibphidipeaaGreatDoor
