/- Whole numbers, the document's own: what Make, Neg, Sign, Mul answer. -/
import Derived.Test.YtngnclibeccplaaDoorZWhX
import Derived.Test.YtngnclibeccplaaDoorZRefY
import Derived.Test.YtngnclibeccplaaDoorZRefX
namespace Go.Proofs.YtngnclibeccplaaDoor
open Go.RowKit Num

/-- an argument in its box, behind calls -/
theorem box_cells {w w1 : World} {x y : Value} {t : TypeId} (hb : Below (w.alloc (.cells #[x, y] t)).heap.size (w.alloc (.cells #[x, y] t)) w1) : w1.cell? ⟨w.heap.size, 0, none⟩ = some x ∧ w1.cell? ⟨w.heap.size, 1, none⟩ = some y := by
  have h : w1.heap[w.heap.size]? = some (.cells #[x, y] t (0, 0)) := (hb.block w.heap.size (by simp)).trans (heap_alloc_new w _)
  exact ⟨by rw [cell_of_row _ _ _ _ _ _ h]; rfl, by rw [cell_of_row _ _ _ _ _ _ h]; rfl⟩

end Go.Proofs.YtngnclibeccplaaDoor
/- Whole numbers, the document's own: what Mul, Add, Sub, Cmp, Same answer. -/

namespace Go.Proofs.YtngnclibeccplaaDoor
open Go.RowKit Num

/-- two arguments in their boxes, and the result's place -/
def Three (w : World) (g : Nat) (n1 n2 : Bool) (v1 v2 : Value) : Prop :=
  w.heap[g]? = some (.cells #[.bool n1, v1] 72 (0, 0)) ∧ w.heap[g + 1]? = some (.cells #[.bool n2, v2] 72 (0, 0)) ∧ w.heap[g + 1 + 1]? = some (.cells #[.bool false, .slice none 0 0] 72 (0, 0)) ∧ g + 3 ≤ w.heap.size
theorem Three.new (w : World) (n1 n2 : Bool) (v1 v2 : Value) : Three (((w.alloc (.cells #[.bool n1, v1] 72)).alloc (.cells #[.bool n2, v2] 72)).alloc (.cells #[.bool false, .slice none 0 0] 72)) w.heap.size n1 n2 v1 v2 := by
  have s1 : ∀ (u : World) (o : Obj), (u.alloc o).heap.size = u.heap.size + 1 := fun u o => by simp
  have e : ∀ (u : World) (o : Obj) (k : Nat), k = u.heap.size → (u.alloc o).heap[k]? = some o := fun u o k hk => by rw [hk]; exact heap_alloc_new u o
  refine ⟨?_, ?_, ?_, by rw [s1, s1, s1]; omega⟩
  · rw [Below.heap_alloc _ _ _ (by rw [s1, s1]; omega), Below.heap_alloc _ _ _ (by rw [s1]; omega)]
    exact e _ _ _ rfl
  · rw [Below.heap_alloc _ _ _ (by rw [s1, s1]; omega)]
    exact e _ _ _ (by rw [s1])
  · exact e _ _ _ (by rw [s1, s1])
theorem Three.on {w w' : World} {g : Nat} {n1 n2 : Bool} {v1 v2 : Value} (h : Three w g n1 n2 v1 v2) (hb : Below w.heap.size w w') : Three w' g n1 n2 v1 v2 := by
  obtain ⟨h0, h1, h2, h4⟩ := h
  exact ⟨(hb.block _ (by omega)).trans h0, (hb.block _ (by omega)).trans h1, (hb.block _ (by omega)).trans h2, Nat.le_trans h4 hb.size⟩
theorem Three.boxes {w : World} {g : Nat} {n1 n2 : Bool} {v1 v2 : Value} (h : Three w g n1 n2 v1 v2) :
    w.cell? ⟨g, 0, none⟩ = some (.bool n1) ∧ w.cell? ⟨g, 1, none⟩ = some v1 ∧ w.cell? ⟨g + 1, 0, none⟩ = some (.bool n2) ∧ w.cell? ⟨g + 1, 1, none⟩ = some v2 := by
  obtain ⟨h0, h1, h2, h4⟩ := h
  exact ⟨by rw [cell_of_row _ _ _ _ _ _ h0]; rfl, by rw [cell_of_row _ _ _ _ _ _ h0]; rfl, by rw [cell_of_row _ _ _ _ _ _ h1]; rfl, by rw [cell_of_row _ _ _ _ _ _ h1]; rfl⟩
theorem Three.place {w : World} {g : Nat} {n1 n2 : Bool} {v1 v2 : Value} (h : Three w g n1 n2 v1 v2) :
    w.heap[g + 1 + 1]? = some (.cells #[.bool false, .slice none 0 0] 72 (0, 0)) ∧ w.cell? ⟨g + 1 + 1, 0, none⟩ = some (.bool false) ∧ w.cell? ⟨g + 1 + 1, 1, none⟩ = some (.slice none 0 0) ∧ w.frozen? ⟨g + 1 + 1, 0, none⟩ = false ∧ w.frozen? ⟨g + 1 + 1, 1, none⟩ = false :=
  ⟨h.2.2.1, cells_of h.2.2.1⟩

end Go.Proofs.YtngnclibeccplaaDoor
/- Whole numbers, the document's own: what Sub, Cmp, Same answer. -/

namespace Go.Proofs.YtngnclibeccplaaDoor
open Go.RowKit Num

theorem wv_dec {N : Int} {xs : List Nat} (h : val 4294967296 xs = N.natAbs) : wv (decide (N < 0)) xs = N := by
  by_cases hn : N < 0
  · rw [decide_eq_true hn, wv_true]; omega
  · rw [decide_eq_false hn, wv_false]; omega
theorem len_abs {xs a : List Nat} (hn : Norm 4294967296 xs) (ha : Dg 4294967296 a) {N : Int} (h : val 4294967296 xs = N.natAbs) (hN : N.natAbs ≤ val 4294967296 a) : xs.length ≤ a.length :=
  len_le (b := 4294967296) (by omega) hn.2 ha (by omega)
theorem len_sum {xs a b : List Nat} {n : Nat} (hn : Norm 4294967296 xs) (ha : Dg 4294967296 a) (hb : Dg 4294967296 b) {N : Int} (h : val 4294967296 xs = N.natAbs) (hN : N.natAbs ≤ val 4294967296 a + val 4294967296 b) (h1 : a.length ≤ n) (h2 : b.length ≤ n) : xs.length ≤ n + 1 := by
  refine hn.2.length_le (b := 4294967296) (by omega) ?_
  have k1 := val_lt_pow ha (by omega) h1
  have k2 := val_lt_pow hb (by omega) h2
  rw [h, Nat.pow_succ]
  omega

end Go.Proofs.YtngnclibeccplaaDoor
