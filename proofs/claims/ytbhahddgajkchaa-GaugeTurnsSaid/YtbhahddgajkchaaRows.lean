/-
  No cell of these rows narrows 'for every input' (looked for: loops, veiled, ifaces, maps, wideKeys, modest, calm, conditions, laid).
  DERIVED. THE GIVEN ROWS OF THIS SEAT. 4 by the template 'for every input the law returns true; each argument reads behind the call as it read before'; 0 by the template 'total and deterministic' (their statements: YtbhahddgajkchaaTotals.lean).
  GIVEN WITH THE SEED: the statements are not yours to turn. If you find one false, say at which input.
  Laid BY PROGRAM, IN A SANDBOX (cutbox-rows.mjs): the forced cells as the released guide's own fill.sh prints them over the translation 30aefd99f4fb0d67… (all of the seat's roots in one cut). By AI agents, Wed Nov 11 2026. No macro, syntax, notation, axiom, sorry.
-/
import Derived.Test.YtbhahddgajkchaaChecked
import GoSem.Claim
import GoSem.ClaimJoined
import GoSem.ClaimMapViews
import Derived.JoinedTies
import Derived.KernelRfl
namespace Go.Proofs.Ytbhahddgajkchaa
/- THE CELL 'sum', in the pinned program and in every row, IS THE sha256 OF THE DUMP (.gsa) THAT YtbhahddgajkchaaProg.lean LOADS. Nothing in Lean hashes anything: it is a label: what it is worth is what the hold of that sum in a sandbox is worth. -/
noncomputable def Try.pinned : Pinned := { name := "ytbhahddgajkchaa", sum := "30aefd99f4fb0d67ada373c81ab54e4bd92485e4f7a5e88913825b39105676b0", checked := Try.checked }
namespace Rows
def none {H : Type} : Left H := { results := [], args := [] }

/-- 'frisketlaw14.GaugeWays': WHATEVER THE INPUT: true; the input reads as it did. -/
def gaugeWaysSpec : ChangeSpec := { name := "gaugeWays", fn := fun _ => fun
  | [d1, d2, d3] => { results := [.lit (.bool true)], args := [d1, d2, d3] }
  | _ => none }
def gaugeWaysRow : OpenClaim := { program := "ytbhahddgajkchaa", sum := "30aefd99f4fb0d67ada373c81ab54e4bd92485e4f7a5e88913825b39105676b0", func := "frisket/frisketlaw14.GaugeWays", spec := "gaugeWays", apart := false }
def GaugeWaysSaid : Prop := gaugeWaysRow.holds Try.pinned (OpenSpec.ofChange gaugeWaysSpec)

/-- ITS FALSE NEIGHBOUR: 'it returns false'. Refute it at one input. -/
def gaugeWaysWrong : ChangeSpec := { name := "gaugeWays", fn := fun _ => fun
  | [d1, d2, d3] => { results := [.lit (.bool false)], args := [d1, d2, d3] }
  | _ => none }
def GaugeWaysWrongFalsely : Prop := gaugeWaysRow.holds Try.pinned (OpenSpec.ofChange gaugeWaysWrong)

/-- 'frisketlaw14.GaugeNear': WHATEVER THE INPUT: true; the input reads as it did. -/
def gaugeNearSpec : ChangeSpec := { name := "gaugeNear", fn := fun _ => fun
  | [d1, d2] => { results := [.lit (.bool true)], args := [d1, d2] }
  | _ => none }
def gaugeNearRow : OpenClaim := { program := "ytbhahddgajkchaa", sum := "30aefd99f4fb0d67ada373c81ab54e4bd92485e4f7a5e88913825b39105676b0", func := "frisket/frisketlaw14.GaugeNear", spec := "gaugeNear", apart := false }
def GaugeNearSaid : Prop := gaugeNearRow.holds Try.pinned (OpenSpec.ofChange gaugeNearSpec)

/-- ITS FALSE NEIGHBOUR: 'it returns false'. Refute it at one input. -/
def gaugeNearWrong : ChangeSpec := { name := "gaugeNear", fn := fun _ => fun
  | [d1, d2] => { results := [.lit (.bool false)], args := [d1, d2] }
  | _ => none }
def GaugeNearWrongFalsely : Prop := gaugeNearRow.holds Try.pinned (OpenSpec.ofChange gaugeNearWrong)

/-- 'frisketlaw14.GaugeLines': WHATEVER THE INPUT: true; the input reads as it did. -/
def gaugeLinesSpec : ChangeSpec := { name := "gaugeLines", fn := fun _ => fun
  | [d] => { results := [.lit (.bool true)], args := [d] }
  | _ => none }
def gaugeLinesRow : OpenClaim := { program := "ytbhahddgajkchaa", sum := "30aefd99f4fb0d67ada373c81ab54e4bd92485e4f7a5e88913825b39105676b0", func := "frisket/frisketlaw14.GaugeLines", spec := "gaugeLines", apart := false }
def GaugeLinesSaid : Prop := gaugeLinesRow.holds Try.pinned (OpenSpec.ofChange gaugeLinesSpec)

/-- ITS FALSE NEIGHBOUR: 'it returns false'. Refute it at one input. -/
def gaugeLinesWrong : ChangeSpec := { name := "gaugeLines", fn := fun _ => fun
  | [d] => { results := [.lit (.bool false)], args := [d] }
  | _ => none }
def GaugeLinesWrongFalsely : Prop := gaugeLinesRow.holds Try.pinned (OpenSpec.ofChange gaugeLinesWrong)

/-- 'frisketlaw14.GaugeTurns': WHATEVER THE INPUT: true; the input reads as it did. -/
def gaugeTurnsSpec : ChangeSpec := { name := "gaugeTurns", fn := fun _ => fun
  | [d1, d2, d3] => { results := [.lit (.bool true)], args := [d1, d2, d3] }
  | _ => none }
def gaugeTurnsRow : OpenClaim := { program := "ytbhahddgajkchaa", sum := "30aefd99f4fb0d67ada373c81ab54e4bd92485e4f7a5e88913825b39105676b0", func := "frisket/frisketlaw14.GaugeTurns", spec := "gaugeTurns", apart := false }
def GaugeTurnsSaid : Prop := gaugeTurnsRow.holds Try.pinned (OpenSpec.ofChange gaugeTurnsSpec)

/-- ITS FALSE NEIGHBOUR: 'it returns false'. Refute it at one input. -/
def gaugeTurnsWrong : ChangeSpec := { name := "gaugeTurns", fn := fun _ => fun
  | [d1, d2, d3] => { results := [.lit (.bool false)], args := [d1, d2, d3] }
  | _ => none }
def GaugeTurnsWrongFalsely : Prop := gaugeTurnsRow.holds Try.pinned (OpenSpec.ofChange gaugeTurnsWrong)

/- THE SECOND FORM. 'bulk': how many values and letters a reading holds, each counted each time it is reached (what is shared counts as often as it is met; a slice's spare places count too). A statement '..UptoSaid' is the law's where the arguments, and the package variables that the reading takes, are together of bulk at most 1048576: NARROWER than '..Said'. Prove '..Said' where nothing that the law and all that it calls make is longer than what came in: it says more and counts as full. Else prove '..UptoSaid'. A law counts once. -/
mutual
def uptoBulk {H : Type} : DataW H → Nat
  | .lit (.string bytes) => bytes.length + 1
  | .lit _ => 1
  | .nil => 1
  | .ptr d => uptoBulk d + 1
  | .slice elems spare => uptoBulkAll elems + uptoBulkAll spare + 1
  | .agg parts => uptoBulkAll parts + 1
  | .iface _ d => uptoBulk d + 1
  | .map entries => uptoBulkEntries entries + 1
  | .held _ => 1
def uptoBulkAll {H : Type} : List (DataW H) → Nat
  | [] => 0
  | d :: r => uptoBulk d + uptoBulkAll r
def uptoBulkEntries {H : Type} : List (Lit × DataW H) → Nat
  | [] => 0
  | x :: r => uptoBulkEntry x + uptoBulkEntries r
def uptoBulkEntry {H : Type} : Lit × DataW H → Nat
  | (.string bytes, d) => bytes.length + uptoBulk d + 1
  | (_, d) => uptoBulk d + 1
 end
def uptoSmall : (H : Type) → List (DataW H) → Bool := fun _ ds => decide (uptoBulkAll ds ≤ 1048576)
def OpenSpec.upto (s : _root_.Go.ChangeSpec) : _root_.Go.OpenSpec := { _root_.Go.OpenSpec.ofChange s with cond := some uptoSmall }

/-- 'frisketlaw14.GaugeWays', WHERE WHAT IT READS IS OF BULK AT MOST 1048576: true; the input reads as it did. -/
def gaugeWaysUptoRow : OpenClaim := { program := "ytbhahddgajkchaa", sum := "30aefd99f4fb0d67ada373c81ab54e4bd92485e4f7a5e88913825b39105676b0", func := "frisket/frisketlaw14.GaugeWays", spec := "gaugeWays", apart := false, narrowed := true }
def GaugeWaysUptoSaid : Prop := gaugeWaysUptoRow.holds Try.pinned (OpenSpec.upto gaugeWaysSpec)

/-- 'frisketlaw14.GaugeNear', WHERE WHAT IT READS IS OF BULK AT MOST 1048576: true; the input reads as it did. -/
def gaugeNearUptoRow : OpenClaim := { program := "ytbhahddgajkchaa", sum := "30aefd99f4fb0d67ada373c81ab54e4bd92485e4f7a5e88913825b39105676b0", func := "frisket/frisketlaw14.GaugeNear", spec := "gaugeNear", apart := false, narrowed := true }
def GaugeNearUptoSaid : Prop := gaugeNearUptoRow.holds Try.pinned (OpenSpec.upto gaugeNearSpec)

/-- 'frisketlaw14.GaugeLines', WHERE WHAT IT READS IS OF BULK AT MOST 1048576: true; the input reads as it did. -/
def gaugeLinesUptoRow : OpenClaim := { program := "ytbhahddgajkchaa", sum := "30aefd99f4fb0d67ada373c81ab54e4bd92485e4f7a5e88913825b39105676b0", func := "frisket/frisketlaw14.GaugeLines", spec := "gaugeLines", apart := false, narrowed := true }
def GaugeLinesUptoSaid : Prop := gaugeLinesUptoRow.holds Try.pinned (OpenSpec.upto gaugeLinesSpec)

/-- 'frisketlaw14.GaugeTurns', WHERE WHAT IT READS IS OF BULK AT MOST 1048576: true; the input reads as it did. -/
def gaugeTurnsUptoRow : OpenClaim := { program := "ytbhahddgajkchaa", sum := "30aefd99f4fb0d67ada373c81ab54e4bd92485e4f7a5e88913825b39105676b0", func := "frisket/frisketlaw14.GaugeTurns", spec := "gaugeTurns", apart := false, narrowed := true }
def GaugeTurnsUptoSaid : Prop := gaugeTurnsUptoRow.holds Try.pinned (OpenSpec.upto gaugeTurnsSpec)

end Rows
end Go.Proofs.Ytbhahddgajkchaa
