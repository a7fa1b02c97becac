/- The walk of BezQuads. -/
import Derived.Test.YtngnclibeccplaaDoorZBgC
import Derived.Test.YtngnclibeccplaaDoorZOaG
namespace Go.Proofs.YtngnclibeccplaaDoor
open Go.RowKit

theorem same_true {q1 q2 : Option Addr} {k1 k2 : Nat} {l : List Pt} {V : World} (h1 : RdV V V.heap.size q1 (ptRow l)) (h2 : RdV V V.heap.size q2 (ptRow l)) (hl : l.length ≤ 32) : Calls Tryd.prog 13 #[.slice q1 l.length k1, .slice q2 l.length k2] V fun e w' => e = .returned (.bool true) ∧ Below V.heap.size V w' := by
  refine (ref10_Same q1 q2 k1 k2 l l V h1 h2 (by omega)).mono ?_
  rintro e w' ⟨⟨b, rfl, hb⟩, h⟩
  have : b = true := by simpa using hb
  rw [this]
  exact ⟨rfl, h⟩
theorem RdV.front {w : World} {B : Nat} {p : Option Addr} {a b : List Value} (h : RdV w B p (a ++ b)) : RdV w B p a := fun hn => by
  obtain ⟨g, o, e, hb, hc⟩ := h (by rw [List.length_append]; omega)
  exact ⟨g, o, e, hb, fun j hj => by rw [hc j (by rw [List.length_append]; omega), List.getElem_append_left hj]⟩
theorem curveP_le (l : List Pt) : (curveP l).length ≤ 32 := by rw [curveP_length]; exact piecesM_le l

end Go.Proofs.YtngnclibeccplaaDoor
