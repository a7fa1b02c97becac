/- Whole numbers, the document's own: what Int answers. -/
import Derived.Test.YtngnclibeccplaaDoorZWrY
import Derived.Test.YtngnclibeccplaaDoorZOaD
import Derived.Deep.CutRange
import Derived.Deep.RegionWith
namespace Go.Proofs.YtngnclibeccplaaDoor
open Go.RowKit Num

theorem val_drop_le' (b i : Nat) (hb : 0 < b) (cs : List Nat) : val b (cs.drop i) ≤ val b cs := by
  rcases Nat.lt_or_ge i cs.length with h | h
  · rw [val_split (b := b) (k := i) (xs := cs) (by omega)]
    have : 1 * val b (cs.drop i) ≤ b ^ i * val b (cs.drop i) := Nat.mul_le_mul_right _ (Nat.pow_pos hb)
    omega
  · rw [List.drop_eq_nil_of_le h]; simp [val]

theorem box_keep {w W w1 : World} {B : Nat} {x y : Value} (k1 : W.cell? ⟨w.heap.size, 0, none⟩ = some x) (k2 : W.cell? ⟨w.heap.size, 1, none⟩ = some y) (hB : w.heap.size < B) (hb : Below B W w1) : w1.cell? ⟨w.heap.size, 0, none⟩ = some x ∧ w1.cell? ⟨w.heap.size, 1, none⟩ = some y :=
  ⟨(hb.cell (p := ⟨w.heap.size, 0, none⟩) hB).trans k1, (hb.cell (p := ⟨w.heap.size, 1, none⟩) hB).trans k2⟩

end Go.Proofs.YtngnclibeccplaaDoor
