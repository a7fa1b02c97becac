/- A region that draws its order, walked by states: whichever operation comes up, one relation is kept. No program is named here. -/
import Derived.Test.YtdmoibphidipeaaGreatDoorZPzD
import Derived.RegionTactic
namespace Go.Proofs.YtdmoibphidipeaaGreatDoor
open Go

section
variable {P : Program} {ops : Array Oper} {Q : Exit → Act → World → Prop} {md : Region.Mode} {S : World → Prop}

end
end Go.Proofs.YtdmoibphidipeaaGreatDoor
