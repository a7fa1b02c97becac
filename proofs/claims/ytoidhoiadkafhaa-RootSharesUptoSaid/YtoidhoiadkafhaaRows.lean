/-
  No cell of these rows narrows 'for every input' (looked for: loops, veiled, ifaces, maps, wideKeys, modest, calm, conditions, laid).
  DERIVED. THE GIVEN ROWS OF THIS SEAT. 3 by the template 'for every input the law returns true; each argument reads behind the call as it read before'; 0 by the template 'total and deterministic' (their statements: YtoidhoiadkafhaaTotals.lean).
  GIVEN WITH THE SEED: the statements are not yours to turn. If you find one false, say at which input.
  Laid BY PROGRAM, IN A SANDBOX (cutbox-rows.mjs): the forced cells as the released guide's own fill.sh prints them over the translation e223aae80a38d2f0… (all of the seat's roots in one cut). By AI agents, Wed Nov 11 2026. No macro, syntax, notation, axiom, sorry.
-/
import Derived.Test.YtoidhoiadkafhaaChecked
import GoSem.Claim
import GoSem.ClaimJoined
import GoSem.ClaimMapViews
import Derived.JoinedTies
import Derived.KernelRfl
namespace Go.Proofs.Ytoidhoiadkafhaa
/- THE CELL 'sum', in the pinned program and in every row, IS THE sha256 OF THE DUMP (.gsa) THAT YtoidhoiadkafhaaProg.lean LOADS. Nothing in Lean hashes anything: it is a label: what it is worth is what the hold of that sum in a sandbox is worth. -/
noncomputable def Try.pinned : Pinned := { name := "ytoidhoiadkafhaa", sum := "e223aae80a38d2f0063e6d5ac16b056c65170897229cc4ee8ab0f0505db072c6", checked := Try.checked }
namespace Rows
def none {H : Type} : Left H := { results := [], args := [] }

/-- 'frisketlaw03.RootFactors': WHATEVER THE INPUT: true; the input reads as it did. -/
def rootFactorsSpec : ChangeSpec := { name := "rootFactors", fn := fun _ => fun
  | [d1, d2] => { results := [.lit (.bool true)], args := [d1, d2] }
  | _ => none }
def rootFactorsRow : OpenClaim := { program := "ytoidhoiadkafhaa", sum := "e223aae80a38d2f0063e6d5ac16b056c65170897229cc4ee8ab0f0505db072c6", func := "frisket/frisketlaw03.RootFactors", spec := "rootFactors", recurses := true, apart := false }
def RootFactorsSaid : Prop := rootFactorsRow.holds Try.pinned (OpenSpec.ofChange rootFactorsSpec)

/-- ITS FALSE NEIGHBOUR: 'it returns false'. Refute it at one input. -/
def rootFactorsWrong : ChangeSpec := { name := "rootFactors", fn := fun _ => fun
  | [d1, d2] => { results := [.lit (.bool false)], args := [d1, d2] }
  | _ => none }
def RootFactorsWrongFalsely : Prop := rootFactorsRow.holds Try.pinned (OpenSpec.ofChange rootFactorsWrong)

/-- 'frisketlaw03.RootRoots': WHATEVER THE INPUT: true; the input reads as it did. -/
def rootRootsSpec : ChangeSpec := { name := "rootRoots", fn := fun _ => fun
  | [d1, d2] => { results := [.lit (.bool true)], args := [d1, d2] }
  | _ => none }
def rootRootsRow : OpenClaim := { program := "ytoidhoiadkafhaa", sum := "e223aae80a38d2f0063e6d5ac16b056c65170897229cc4ee8ab0f0505db072c6", func := "frisket/frisketlaw03.RootRoots", spec := "rootRoots", recurses := true, apart := false }
def RootRootsSaid : Prop := rootRootsRow.holds Try.pinned (OpenSpec.ofChange rootRootsSpec)

/-- ITS FALSE NEIGHBOUR: 'it returns false'. Refute it at one input. -/
def rootRootsWrong : ChangeSpec := { name := "rootRoots", fn := fun _ => fun
  | [d1, d2] => { results := [.lit (.bool false)], args := [d1, d2] }
  | _ => none }
def RootRootsWrongFalsely : Prop := rootRootsRow.holds Try.pinned (OpenSpec.ofChange rootRootsWrong)

/-- 'frisketlaw03.RootShares': WHATEVER THE INPUT: true; the input reads as it did. -/
def rootSharesSpec : ChangeSpec := { name := "rootShares", fn := fun _ => fun
  | [d1, d2] => { results := [.lit (.bool true)], args := [d1, d2] }
  | _ => none }
def rootSharesRow : OpenClaim := { program := "ytoidhoiadkafhaa", sum := "e223aae80a38d2f0063e6d5ac16b056c65170897229cc4ee8ab0f0505db072c6", func := "frisket/frisketlaw03.RootShares", spec := "rootShares", recurses := true, apart := false }
def RootSharesSaid : Prop := rootSharesRow.holds Try.pinned (OpenSpec.ofChange rootSharesSpec)

/-- ITS FALSE NEIGHBOUR: 'it returns false'. Refute it at one input. -/
def rootSharesWrong : ChangeSpec := { name := "rootShares", fn := fun _ => fun
  | [d1, d2] => { results := [.lit (.bool false)], args := [d1, d2] }
  | _ => none }
def RootSharesWrongFalsely : Prop := rootSharesRow.holds Try.pinned (OpenSpec.ofChange rootSharesWrong)

/- THE SECOND FORM. 'bulk': how many values and letters a reading holds, each counted each time it is reached (what is shared counts as often as it is met; a slice's spare places count too). A statement '..UptoSaid' is the law's where the arguments, and the package variables that the reading takes, are together of bulk at most 1048576: NARROWER than '..Said'. Prove '..Said' where nothing that the law and all that it calls make is longer than what came in: it says more and counts as full. Else prove '..UptoSaid'. A law counts once. -/
mutual
def uptoBulk {H : Type} : DataW H → Nat
  | .lit (.string bytes) => bytes.length + 1
  | .lit _ => 1
  | .nil => 1
  | .ptr d => uptoBulk d + 1
  | .slice elems spare => uptoBulkAll elems + uptoBulkAll spare + 1
  | .agg parts => uptoBulkAll parts + 1
  | .iface _ d => uptoBulk d + 1
  | .map entries => uptoBulkEntries entries + 1
  | .held _ => 1
def uptoBulkAll {H : Type} : List (DataW H) → Nat
  | [] => 0
  | d :: r => uptoBulk d + uptoBulkAll r
def uptoBulkEntries {H : Type} : List (Lit × DataW H) → Nat
  | [] => 0
  | x :: r => uptoBulkEntry x + uptoBulkEntries r
def uptoBulkEntry {H : Type} : Lit × DataW H → Nat
  | (.string bytes, d) => bytes.length + uptoBulk d + 1
  | (_, d) => uptoBulk d + 1
 end
def uptoSmall : (H : Type) → List (DataW H) → Bool := fun _ ds => decide (uptoBulkAll ds ≤ 1048576)
def OpenSpec.upto (s : _root_.Go.ChangeSpec) : _root_.Go.OpenSpec := { _root_.Go.OpenSpec.ofChange s with cond := some uptoSmall }

/-- 'frisketlaw03.RootFactors', WHERE WHAT IT READS IS OF BULK AT MOST 1048576: true; the input reads as it did. -/
def rootFactorsUptoRow : OpenClaim := { program := "ytoidhoiadkafhaa", sum := "e223aae80a38d2f0063e6d5ac16b056c65170897229cc4ee8ab0f0505db072c6", func := "frisket/frisketlaw03.RootFactors", spec := "rootFactors", recurses := true, apart := false, narrowed := true }
def RootFactorsUptoSaid : Prop := rootFactorsUptoRow.holds Try.pinned (OpenSpec.upto rootFactorsSpec)

/-- 'frisketlaw03.RootRoots', WHERE WHAT IT READS IS OF BULK AT MOST 1048576: true; the input reads as it did. -/
def rootRootsUptoRow : OpenClaim := { program := "ytoidhoiadkafhaa", sum := "e223aae80a38d2f0063e6d5ac16b056c65170897229cc4ee8ab0f0505db072c6", func := "frisket/frisketlaw03.RootRoots", spec := "rootRoots", recurses := true, apart := false, narrowed := true }
def RootRootsUptoSaid : Prop := rootRootsUptoRow.holds Try.pinned (OpenSpec.upto rootRootsSpec)

/-- 'frisketlaw03.RootShares', WHERE WHAT IT READS IS OF BULK AT MOST 1048576: true; the input reads as it did. -/
def rootSharesUptoRow : OpenClaim := { program := "ytoidhoiadkafhaa", sum := "e223aae80a38d2f0063e6d5ac16b056c65170897229cc4ee8ab0f0505db072c6", func := "frisket/frisketlaw03.RootShares", spec := "rootShares", recurses := true, apart := false, narrowed := true }
def RootSharesUptoSaid : Prop := rootSharesUptoRow.holds Try.pinned (OpenSpec.upto rootSharesSpec)

end Rows
end Go.Proofs.Ytoidhoiadkafhaa
