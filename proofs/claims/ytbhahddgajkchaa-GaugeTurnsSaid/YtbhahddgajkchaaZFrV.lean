/- Fractions: what the program's own Sign, floor, Floor and Round answer. -/
import Derived.Test.YtbhahddgajkchaaZFpY
import Derived.Test.YtbhahddgajkchaaZWhI
import Derived.Test.YtbhahddgajkchaaZFrW
import Derived.Test.YtbhahddgajkchaaZWrX
import Derived.Test.YtbhahddgajkchaaZFrZ
namespace Go.Proofs.Ytbhahddgajkchaa
open Go.RowKit Num

theorem cross_div {x y P Q : Int} (hy : 0 < y) (hQ : 0 < Q) (h : x * Q = P * y) : x / y = P / Q := by
  rw [← Int.mul_ediv_mul_of_pos_left x y hQ, h, Int.mul_comm y Q, Int.mul_ediv_mul_of_pos_left P Q hy]
/-- an argument's box of any type, and that of a result that is a whole number -/
theorem bxw (w : World) (t : TypeId) (v0 v1 v2 : Value) : ∃ W, (w.alloc (.cells #[v0, v1, v2] t)).alloc (.cells #[.bool false, .slice none 0 0] 48) = W ∧ Blk W w.heap.size t [v0, v1, v2] ∧ Blk W (w.heap.size + 1) 48 [.bool false, .slice none 0 0] ∧ Below w.heap.size w W ∧ W.heap.size = w.heap.size + 2 :=
  ⟨_, rfl, (Blk.new w t [v0, v1, v2]).alloc _, Blk.at_new (w.alloc (.cells #[v0, v1, v2] t)) 48 [.bool false, .slice none 0 0] (by simp), (below_one w _).trans ((below_one (w.alloc (.cells #[v0, v1, v2] t)) _).mono (by simp)), by simp⟩

end Go.Proofs.Ytbhahddgajkchaa
/- The same, word by word, or not: the document's own. -/

namespace Go.Proofs.Ytbhahddgajkchaa
open Go.RowKit Num

end Go.Proofs.Ytbhahddgajkchaa
/- Fractions, the document's own: what Same answers. -/

namespace Go.Proofs.Ytbhahddgajkchaa
open Go.RowKit Num

end Go.Proofs.Ytbhahddgajkchaa
