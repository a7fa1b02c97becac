/- Colours: the document's own Weigh, May, Over, Fade, Mix. -/
import Derived.Test.YtaiinglogpbfjaaDoorCoA
import Derived.Deep.RegionHeld3
namespace Go.Proofs.YtaiinglogpbfjaaDoor
open Go.RowKit

/-- block g is a box with just these cells -/
def Box (w : World) (g : Nat) (t : TypeId) (vs : List Value) : Prop := w.heap[g]? = some (.cells vs.toArray t (0, 0))
section
variable {w w' : World} {g : Nat} {t : TypeId} {vs : List Value}
theorem Box.lt (h : Box w g t vs) : g < w.heap.size := by
  rcases Nat.lt_or_ge g w.heap.size with hlt | hge
  · exact hlt
  · unfold Box at h; rw [Array.getElem?_eq_none hge] at h; cases h
theorem Box.cell (h : Box w g t vs) (i : Nat) {v : Value} (hv : vs[i]? = some v) : w.cell? ⟨g, i, none⟩ = some v := by
  rw [cell_of_row w g i _ t (0, 0) h]
  simpa using hv
theorem Box.frozen (h : Box w g t vs) (i : Nat) : w.frozen? ⟨g, i, none⟩ = false := frozen_of_row w g i _ t h
theorem Box.set (h : Box w g t vs) (i : Nat) (v : Value) : Box (w.setCell ⟨g, i, none⟩ v) g t (vs.set i v) := by
  have := heap_setCell_same w g i _ t v h
  unfold Box
  rw [this]
  simp
theorem Box.far (h : Box w g t vs) {p : Addr} (hp : g ≠ p.block) (u : Value) : Box (w.setCell p u) g t vs := (Below.heap_setCell w p u g hp).trans h
theorem Box.alloc (h : Box w g t vs) (o : Obj) : Box (w.alloc o) g t vs := (Below.heap_alloc w o g h.lt).trans h
theorem Box.drewN (h : Box w g t vs) (n : Nat) : Box (w.drewN n) g t vs := h
theorem Box.new (w : World) (t : TypeId) (vs : List Value) : Box (w.alloc (.cells vs.toArray t)) w.heap.size t vs := heap_alloc_new w _
theorem Box.at_new (w : World) (t : TypeId) (vs : List Value) {g : Nat} (hg : g = w.heap.size) : Box (w.alloc (.cells vs.toArray t)) g t vs := by rw [hg]; exact Box.new w t vs
theorem Box.below {B : Nat} (h : Box w g t vs) (hb : Below B w w') (hg : g < B) : Box w' g t vs := (hb.block g hg).trans h
/-- a box of four, as a colour lies -/
theorem Box.four {a b c d : Value} (h : Box w g t [a, b, c, d]) : (w.cell? ⟨g, 0, none⟩ = some a ∧ w.cell? ⟨g, 1, none⟩ = some b ∧ w.cell? ⟨g, 2, none⟩ = some c ∧ w.cell? ⟨g, 3, none⟩ = some d) ∧
    (w.frozen? ⟨g, 0, none⟩ = false ∧ w.frozen? ⟨g, 1, none⟩ = false ∧ w.frozen? ⟨g, 2, none⟩ = false ∧ w.frozen? ⟨g, 3, none⟩ = false) :=
  ⟨⟨h.cell 0 rfl, h.cell 1 rfl, h.cell 2 rfl, h.cell 3 rfl⟩, h.frozen 0, h.frozen 1, h.frozen 2, h.frozen 3⟩
/-- .. and what four stores leave -/
theorem Box.stored {a b c d : Value} (h : Box w g t [a, b, c, d]) (x y z u : Value) : ∃ U, (((w.setCell ⟨g, 0, none⟩ x).setCell ⟨g, 1, none⟩ y).setCell ⟨g, 2, none⟩ z).setCell ⟨g, 3, none⟩ u = U ∧ Box U g t [x, y, z, u] ∧ (∀ B, B ≤ g → Below B w U) := by
  refine ⟨_, rfl, ?_, fun B hB => ((((Below.refl B w).setCell (p := ⟨g, 0, none⟩) hB x).setCell (p := ⟨g, 1, none⟩) hB y).setCell (p := ⟨g, 2, none⟩) hB z).setCell (p := ⟨g, 3, none⟩) hB u⟩
  exact (((h.set 0 x).set 1 y).set 2 z).set 3 u
end

/-- a colour's box, as it is made -/
def zero4 : List Value := [.int .u8 0, .int .u8 0, .int .u8 0, .int .u8 0]

end Go.Proofs.YtaiinglogpbfjaaDoor
