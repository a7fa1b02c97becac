/- Whole numbers, the document's own: what Text and Parse answer. -/
import Derived.Test.YtkgedgaddpojkaaGreatDoorZLawF
import Derived.Test.YtkgedgaddpojkaaGreatDoorZWhJ
namespace Go.Proofs.YtkgedgaddpojkaaGreatDoor
open Go.RowKit Num

end Go.Proofs.YtkgedgaddpojkaaGreatDoor
