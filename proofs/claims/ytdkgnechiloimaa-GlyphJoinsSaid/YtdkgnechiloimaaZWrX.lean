/- Whole numbers, the document's own: what Make, Neg, Sign, Mul answer. -/
import Derived.Test.YtdkgnechiloimaaZWhX
import Derived.Test.YtdkgnechiloimaaZRefY
import Derived.Test.YtdkgnechiloimaaZRefX
namespace Go.Proofs.Ytdkgnechiloimaa
open Go.RowKit Num

/-- an argument in its box, behind calls -/
theorem box_cells {w w1 : World} {x y : Value} {t : TypeId} (hb : Below (w.alloc (.cells #[x, y] t)).heap.size (w.alloc (.cells #[x, y] t)) w1) : w1.cell? ⟨w.heap.size, 0, none⟩ = some x ∧ w1.cell? ⟨w.heap.size, 1, none⟩ = some y := by
  have h : w1.heap[w.heap.size]? = some (.cells #[x, y] t (0, 0)) := (hb.block w.heap.size (by simp)).trans (heap_alloc_new w _)
  exact ⟨by rw [cell_of_row _ _ _ _ _ _ h]; rfl, by rw [cell_of_row _ _ _ _ _ _ h]; rfl⟩

end Go.Proofs.Ytdkgnechiloimaa
/- Whole numbers, the document's own: what Mul, Add, Sub, Cmp, Same answer. -/

namespace Go.Proofs.Ytdkgnechiloimaa
open Go.RowKit Num

end Go.Proofs.Ytdkgnechiloimaa
/- Whole numbers, the document's own: what Sub, Cmp, Same answer. -/

namespace Go.Proofs.Ytdkgnechiloimaa
open Go.RowKit Num

theorem wv_dec {N : Int} {xs : List Nat} (h : val 4294967296 xs = N.natAbs) : wv (decide (N < 0)) xs = N := by
  by_cases hn : N < 0
  · rw [decide_eq_true hn, wv_true]; omega
  · rw [decide_eq_false hn, wv_false]; omega
theorem len_abs {xs a : List Nat} (hn : Norm 4294967296 xs) (ha : Dg 4294967296 a) {N : Int} (h : val 4294967296 xs = N.natAbs) (hN : N.natAbs ≤ val 4294967296 a) : xs.length ≤ a.length :=
  len_le (b := 4294967296) (by omega) hn.2 ha (by omega)
theorem len_sum {xs a b : List Nat} {n : Nat} (hn : Norm 4294967296 xs) (ha : Dg 4294967296 a) (hb : Dg 4294967296 b) {N : Int} (h : val 4294967296 xs = N.natAbs) (hN : N.natAbs ≤ val 4294967296 a + val 4294967296 b) (h1 : a.length ≤ n) (h2 : b.length ≤ n) : xs.length ≤ n + 1 := by
  refine hn.2.length_le (b := 4294967296) (by omega) ?_
  have k1 := val_lt_pow ha (by omega) h1
  have k2 := val_lt_pow hb (by omega) h2
  rw [h, Nat.pow_succ]
  omega

end Go.Proofs.Ytdkgnechiloimaa
