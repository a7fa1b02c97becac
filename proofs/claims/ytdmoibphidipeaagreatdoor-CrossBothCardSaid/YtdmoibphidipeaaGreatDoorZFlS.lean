/- Spots that a region, in whatever order, makes, and stores into variables of its own. -/
import Derived.Test.YtdmoibphidipeaaGreatDoorZFlD
import Derived.Test.YtdmoibphidipeaaGreatDoorZCsB
namespace Go.Proofs.YtdmoibphidipeaaGreatDoor
open Go.RowKit Num rows

def zeroS : List Value := [.bool false, .slice none 0 0, .slice none 0 0, .bool false, .slice none 0 0, .slice none 0 0]
theorem Stored.ok {B g : Nat} {t : TypeId} {vs : List Value} {w U : World} (h : Stored B g t vs w U) {zs : List Value} (k : Blk w g t zs) (hz : ∀ v ∈ zs, ∀ kk n, v ≠ .int kk n) {s : Sp} (hs : s.Ok w) : s.Ok U :=
  ⟨⟨hs.1.1.off k hz h.other (Nat.le_of_eq h.size.symm), hs.1.2.off k hz h.other (Nat.le_of_eq h.size.symm)⟩, hs.2.1.off k hz h.other (Nat.le_of_eq h.size.symm), hs.2.2.off k hz h.other (Nat.le_of_eq h.size.symm)⟩
end Go.Proofs.YtdmoibphidipeaaGreatDoor
