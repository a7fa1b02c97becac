/-
  No cell of these rows narrows 'for every input' (looked for: loops, veiled, ifaces, maps, wideKeys, modest, calm, conditions, laid).
  DERIVED. THE GIVEN ROWS OF THIS SEAT. 3 by the template 'for every input the law returns true; each argument reads behind the call as it read before'; 0 by the template 'total and deterministic' (their statements: YtlnkmjjbkmcpaaaTotals.lean).
  GIVEN WITH THE SEED: the statements are not yours to turn. If you find one false, say at which input.
  Laid BY PROGRAM, IN A SANDBOX (cutbox-rows.mjs): the forced cells as the released guide's own fill.sh prints them over the translation 5dfd4b7a95ce0cdf… (all of the seat's roots in one cut). By AI agents, Wed Nov 11 2026. No macro, syntax, notation, axiom, sorry.
-/
import Derived.Test.YtlnkmjjbkmcpaaaChecked
import GoSem.Claim
import GoSem.ClaimJoined
import GoSem.ClaimMapViews
import Derived.JoinedTies
import Derived.KernelRfl
namespace Go.Proofs.Ytlnkmjjbkmcpaaa
/- THE CELL 'sum', in the pinned program and in every row, IS THE sha256 OF THE DUMP (.gsa) THAT YtlnkmjjbkmcpaaaProg.lean LOADS. Nothing in Lean hashes anything: it is a label: what it is worth is what the hold of that sum in a sandbox is worth. -/
noncomputable def Try.pinned : Pinned := { name := "ytlnkmjjbkmcpaaa", sum := "5dfd4b7a95ce0cdfcd0216bdf644929797ff47ac7a295cb6a75a2f996ed11333", checked := Try.checked }
namespace Rows
def none {H : Type} : Left H := { results := [], args := [] }

/-- 'frisketlaw11.BezQuads': WHATEVER THE INPUT: true; the input reads as it did. -/
def bezQuadsSpec : ChangeSpec := { name := "bezQuads", fn := fun _ => fun
  | [d] => { results := [.lit (.bool true)], args := [d] }
  | _ => none }
def bezQuadsRow : OpenClaim := { program := "ytlnkmjjbkmcpaaa", sum := "5dfd4b7a95ce0cdfcd0216bdf644929797ff47ac7a295cb6a75a2f996ed11333", func := "frisket/frisketlaw11.BezQuads", spec := "bezQuads", apart := false }
def BezQuadsSaid : Prop := bezQuadsRow.holds Try.pinned (OpenSpec.ofChange bezQuadsSpec)

/-- ITS FALSE NEIGHBOUR: 'it returns false'. Refute it at one input. -/
def bezQuadsWrong : ChangeSpec := { name := "bezQuads", fn := fun _ => fun
  | [d] => { results := [.lit (.bool false)], args := [d] }
  | _ => none }
def BezQuadsWrongFalsely : Prop := bezQuadsRow.holds Try.pinned (OpenSpec.ofChange bezQuadsWrong)

/-- 'frisketlaw11.BezCubes': WHATEVER THE INPUT: true; the input reads as it did. -/
def bezCubesSpec : ChangeSpec := { name := "bezCubes", fn := fun _ => fun
  | [d] => { results := [.lit (.bool true)], args := [d] }
  | _ => none }
def bezCubesRow : OpenClaim := { program := "ytlnkmjjbkmcpaaa", sum := "5dfd4b7a95ce0cdfcd0216bdf644929797ff47ac7a295cb6a75a2f996ed11333", func := "frisket/frisketlaw11.BezCubes", spec := "bezCubes", apart := false }
def BezCubesSaid : Prop := bezCubesRow.holds Try.pinned (OpenSpec.ofChange bezCubesSpec)

/-- ITS FALSE NEIGHBOUR: 'it returns false'. Refute it at one input. -/
def bezCubesWrong : ChangeSpec := { name := "bezCubes", fn := fun _ => fun
  | [d] => { results := [.lit (.bool false)], args := [d] }
  | _ => none }
def BezCubesWrongFalsely : Prop := bezCubesRow.holds Try.pinned (OpenSpec.ofChange bezCubesWrong)

/-- 'frisketlaw11.BezStays': WHATEVER THE INPUT: true; the input reads as it did. -/
def bezStaysSpec : ChangeSpec := { name := "bezStays", fn := fun _ => fun
  | [d] => { results := [.lit (.bool true)], args := [d] }
  | _ => none }
def bezStaysRow : OpenClaim := { program := "ytlnkmjjbkmcpaaa", sum := "5dfd4b7a95ce0cdfcd0216bdf644929797ff47ac7a295cb6a75a2f996ed11333", func := "frisket/frisketlaw11.BezStays", spec := "bezStays", apart := false }
def BezStaysSaid : Prop := bezStaysRow.holds Try.pinned (OpenSpec.ofChange bezStaysSpec)

/-- ITS FALSE NEIGHBOUR: 'it returns false'. Refute it at one input. -/
def bezStaysWrong : ChangeSpec := { name := "bezStays", fn := fun _ => fun
  | [d] => { results := [.lit (.bool false)], args := [d] }
  | _ => none }
def BezStaysWrongFalsely : Prop := bezStaysRow.holds Try.pinned (OpenSpec.ofChange bezStaysWrong)

/- THE SECOND FORM. 'bulk': how many values and letters a reading holds, each counted each time it is reached (what is shared counts as often as it is met; a slice's spare places count too). A statement '..UptoSaid' is the law's where the arguments, and the package variables that the reading takes, are together of bulk at most 1048576: NARROWER than '..Said'. Prove '..Said' where nothing that the law and all that it calls make is longer than what came in: it says more and counts as full. Else prove '..UptoSaid'. A law counts once. -/
mutual
def uptoBulk {H : Type} : DataW H → Nat
  | .lit (.string bytes) => bytes.length + 1
  | .lit _ => 1
  | .nil => 1
  | .ptr d => uptoBulk d + 1
  | .slice elems spare => uptoBulkAll elems + uptoBulkAll spare + 1
  | .agg parts => uptoBulkAll parts + 1
  | .iface _ d => uptoBulk d + 1
  | .map entries => uptoBulkEntries entries + 1
  | .held _ => 1
def uptoBulkAll {H : Type} : List (DataW H) → Nat
  | [] => 0
  | d :: r => uptoBulk d + uptoBulkAll r
def uptoBulkEntries {H : Type} : List (Lit × DataW H) → Nat
  | [] => 0
  | x :: r => uptoBulkEntry x + uptoBulkEntries r
def uptoBulkEntry {H : Type} : Lit × DataW H → Nat
  | (.string bytes, d) => bytes.length + uptoBulk d + 1
  | (_, d) => uptoBulk d + 1
 end
def uptoSmall : (H : Type) → List (DataW H) → Bool := fun _ ds => decide (uptoBulkAll ds ≤ 1048576)
def OpenSpec.upto (s : _root_.Go.ChangeSpec) : _root_.Go.OpenSpec := { _root_.Go.OpenSpec.ofChange s with cond := some uptoSmall }

/-- 'frisketlaw11.BezQuads', WHERE WHAT IT READS IS OF BULK AT MOST 1048576: true; the input reads as it did. -/
def bezQuadsUptoRow : OpenClaim := { program := "ytlnkmjjbkmcpaaa", sum := "5dfd4b7a95ce0cdfcd0216bdf644929797ff47ac7a295cb6a75a2f996ed11333", func := "frisket/frisketlaw11.BezQuads", spec := "bezQuads", apart := false, narrowed := true }
def BezQuadsUptoSaid : Prop := bezQuadsUptoRow.holds Try.pinned (OpenSpec.upto bezQuadsSpec)

/-- 'frisketlaw11.BezCubes', WHERE WHAT IT READS IS OF BULK AT MOST 1048576: true; the input reads as it did. -/
def bezCubesUptoRow : OpenClaim := { program := "ytlnkmjjbkmcpaaa", sum := "5dfd4b7a95ce0cdfcd0216bdf644929797ff47ac7a295cb6a75a2f996ed11333", func := "frisket/frisketlaw11.BezCubes", spec := "bezCubes", apart := false, narrowed := true }
def BezCubesUptoSaid : Prop := bezCubesUptoRow.holds Try.pinned (OpenSpec.upto bezCubesSpec)

/-- 'frisketlaw11.BezStays', WHERE WHAT IT READS IS OF BULK AT MOST 1048576: true; the input reads as it did. -/
def bezStaysUptoRow : OpenClaim := { program := "ytlnkmjjbkmcpaaa", sum := "5dfd4b7a95ce0cdfcd0216bdf644929797ff47ac7a295cb6a75a2f996ed11333", func := "frisket/frisketlaw11.BezStays", spec := "bezStays", apart := false, narrowed := true }
def BezStaysUptoSaid : Prop := bezStaysUptoRow.holds Try.pinned (OpenSpec.upto bezStaysSpec)

end Rows
end Go.Proofs.Ytlnkmjjbkmcpaaa
