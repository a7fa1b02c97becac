/- Lines in pieces, the document's own: piece. -/
import Derived.Test.YtngnclibeccplaaDoorZDsX
namespace Go.Proofs.YtngnclibeccplaaDoor
open Go.RowKit

/-- the first row of a piece: a point in a block of its own -/
theorem own_first (w : World) (x y : Value) : (w.alloc (.cells #[x, y] 34)).ownsRow w.heap.size 34 2 (.slice (some ⟨w.heap.size, 0, none⟩) 1 1) 1 [x, y] :=
  ⟨rfl, .inr ⟨w.heap.size, 1, #[x, y], rfl, Nat.le_refl _, heap_alloc_new w _, Nat.le_refl _, by simp [maxLen], rfl, rfl⟩⟩
theorem mids_next (p : List Pt) (a b : Int) (i : Nat) : midsTo p a b (i + 1) = if a < chainTo p i ∧ chainTo p i < b then midsTo p a b i ++ [p.getD i pt0] else midsTo p a b i := rfl
theorem once_next (l : List Pt) (i : Nat) : onceTo l (i + 1) = if i = 0 ∨ l.getD i pt0 ≠ l.getD (i - 1) pt0 then onceTo l i ++ [l.getD i pt0] else onceTo l i := rfl
/-- what piece answers -/
def Pieced (L : List Pt) (c : Bool) (a b : Int) (w : World) (e : Ending) (w' : World) : Prop :=
  (∃ v, e = .returned v ∧ w'.ownsRow w.heap.size 34 2 v (pieceP L c a b).length (ptRow (pieceP L c a b))) ∧ Below w.heap.size w w'
theorem rawP_eq (L : List Pt) (c : Bool) (a b : Int) : rawP L c a b = [AtV L c a] ++ midsTo (ringP L c) a b ((ringP L c).length - 1) ++ [AtV L c b] := rfl

end Go.Proofs.YtngnclibeccplaaDoor
