/- A region that draws its order and defines variables of its own, all at once: calls, boxes, stores, whichever comes up. No program is named here. -/
import Derived.Test.YtdmoibphidipeaaGreatDoorZFlt
import Derived.Test.YtdmoibphidipeaaGreatDoorZOaA
namespace Go.Proofs.YtdmoibphidipeaaGreatDoor
open Go Go.RowKit

section
variable {P : Program} {ops : Array Oper} {Q : Exit → Act → World → Prop} {md : Region.Mode} {S : World → Prop}
def at4 {α : Type} (x0 x1 x2 x3 : α) : Nat → α
  | 0 => x0
  | 1 => x1
  | 2 => x2
  | _ => x3
/-- what a store into such a box leaves -/
structure Stored (B0 g : Nat) (t : TypeId) (vs : List Value) (w U : World) : Prop where
  size : U.heap.size = w.heap.size
  other : ∀ b, b ≠ g → U.heap[b]? = w.heap[b]?
  box : Box U g t vs
  below : ∀ A, Below B0 A w → Below B0 A U
end
end Go.Proofs.YtdmoibphidipeaaGreatDoor
