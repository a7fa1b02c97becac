/- Spots, the document's own: what Area answers. -/
import Derived.Test.YtkgedgaddpojkaaDoorSpN
import Derived.Deep.RegionHeld3
import Derived.Deep.RegionWith
namespace Go.Proofs.YtkgedgaddpojkaaDoor
open Go.RowKit Num

/-- a fraction in a box of its own, at the end of a region -/
theorem oneF {W v : World} {t : TypeId} {X Y : Option Addr} {x y : List Nat} (K : Below W.heap.size W v) (n : Bool) (c e : Nat) (r : Rd v (fun g => g < v.heap.size) .u32 X x) (q : Rd v (fun g => g < v.heap.size) .u32 Y y) : Blk (v.alloc (.cells #[.bool n, .slice X x.length c, .slice Y y.length e] t)) v.heap.size t [.bool n, .slice X x.length c, .slice Y y.length e] ∧ (Rd (v.alloc (.cells #[.bool n, .slice X x.length c, .slice Y y.length e] t)) (fun g => g < (v.alloc (.cells #[.bool n, .slice X x.length c, .slice Y y.length e] t)).heap.size) .u32 X x ∧ Rd (v.alloc (.cells #[.bool n, .slice X x.length c, .slice Y y.length e] t)) (fun g => g < (v.alloc (.cells #[.bool n, .slice X x.length c, .slice Y y.length e] t)).heap.size) .u32 Y y) ∧ Below W.heap.size W (v.alloc (.cells #[.bool n, .slice X x.length c, .slice Y y.length e] t)) :=
  ⟨Blk.new v t [.bool n, .slice X x.length c, .slice Y y.length e], ⟨r.on (below_new v _), q.on (below_new v _)⟩, keep_one K _⟩
theorem oneG {W v : World} {g : Nat} {t : TypeId} {X Y : Option Addr} {x y : List Nat} (k : Blk v g t [.bool false, .slice none 0 0, .slice none 0 0]) (hg : W.heap.size ≤ g) (K : Below W.heap.size W v) (n : Bool) (c e : Nat) (r : Rd v (fun g => g < v.heap.size) .u32 X x) (q : Rd v (fun g => g < v.heap.size) .u32 Y y) : Blk (((v.setCell ⟨g, 0, none⟩ (.bool n)).setCell ⟨g, 1, none⟩ (.slice X x.length c)).setCell ⟨g, 2, none⟩ (.slice Y y.length e)) g t [.bool n, .slice X x.length c, .slice Y y.length e] ∧ (Rd (((v.setCell ⟨g, 0, none⟩ (.bool n)).setCell ⟨g, 1, none⟩ (.slice X x.length c)).setCell ⟨g, 2, none⟩ (.slice Y y.length e)) (fun b => b < (((v.setCell ⟨g, 0, none⟩ (.bool n)).setCell ⟨g, 1, none⟩ (.slice X x.length c)).setCell ⟨g, 2, none⟩ (.slice Y y.length e)).heap.size) .u32 X x ∧ Rd (((v.setCell ⟨g, 0, none⟩ (.bool n)).setCell ⟨g, 1, none⟩ (.slice X x.length c)).setCell ⟨g, 2, none⟩ (.slice Y y.length e)) (fun b => b < (((v.setCell ⟨g, 0, none⟩ (.bool n)).setCell ⟨g, 1, none⟩ (.slice X x.length c)).setCell ⟨g, 2, none⟩ (.slice Y y.length e)).heap.size) .u32 Y y) ∧ Below W.heap.size W (((v.setCell ⟨g, 0, none⟩ (.bool n)).setCell ⟨g, 1, none⟩ (.slice X x.length c)).setCell ⟨g, 2, none⟩ (.slice Y y.length e)) :=
  ⟨k.trip _ _ _, ⟨r.trip k _ _ _, q.trip k _ _ _⟩, ((K.setCell (p := ⟨g, 0, none⟩) hg _).setCell (p := ⟨g, 1, none⟩) hg _).setCell (p := ⟨g, 2, none⟩) hg _⟩

end Go.Proofs.YtkgedgaddpojkaaDoor
