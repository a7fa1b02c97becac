/- What the closing of StrokeReach needs: the listed variable (the sixteen), a world for the witness. -/
import Derived.Test.YtngnclibeccplaaDoorCards
import Derived.Test.YtngnclibeccplaaDoorTie
import Derived.Test.YtngnclibeccplaaDoorZShutS
import Derived.Test.YtngnclibeccplaaDoorZSuX
import Derived.ProofKit
import Derived.OpenShut
import Derived.SizedLaws
import Derived.Deep.DeepHandedRow
import Derived.Lib.LaidTab
namespace Go.Proofs.YtngnclibeccplaaDoor.shut
open Go.ChangeShapes Go.WideShapes Go.ChangeAt Go.RowKit Go.Deep

/-- what the row lists -/
def list : List (String × DataW Unit) := [("frisket/stroke.sixteen", Rows.laid_frisket_stroke_sixteen)]
theorem sxt_of_laid {W : World} (h0 : laidMetH Tryd.prog list W) : Sxt W := by
  have h : laidMet Tryd.prog list W := h0
  exact Lib.tabIs_of_head (g := 0) (t := 67) (by kernel_rfl) (by kernel_rfl) Tryd.underlying67 Tryd.underlying3 (by kernel_rfl) (by kernel_rfl) (show laidMet Tryd.prog (("frisket/stroke.sixteen", Lib.tabData .i64 cosL) :: _) W from h)

/-- A WORLD FOR THE WITNESS: the settled one, the table holding what its initialiser lays. -/
def nums (k : IntKind) (l : List Int) : Array Value := (l.map fun z => Value.int k z).toArray
def lay (cs : Array Value) (o : Obj) : Obj := match o with
  | .cells _ t frozen => .cells cs t frozen
  | o => o
noncomputable def laidWorld (os : Os) : World :=
  let w0 := World.holding Tryd.prog os ⟨#[], #[], []⟩
  { w0 with heap := w0.heap.modify 0 (lay (nums .i64 cosL)) }
theorem laid_met (os : Os) (args : Array Value) : laidMet Tryd.prog list ((laidWorld os).forCall (fun _ _ => 0) ⟨#[], args, []⟩).memory :=
  laidMet_of_run' 8 (by kernel_rfl) (by kernel_rfl)
end Go.Proofs.YtngnclibeccplaaDoor.shut
