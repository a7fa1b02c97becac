/-
  DERIVED. GIVEN WITH THE SEED: THE CARDS: each row of YtngnclibeccplaaDoorRows.lean that lists a variable, with what it lists TIED to the program's text (the seventh form; the later family's looks); each row that meets fmt, with fmt's text TOLD by the authors' own Lean function (tested against real Go, not proved from fmt's source: count such statements apart). THE CARD IS WHAT COUNTS. Prove the row's statement (the work); the ties are given (YtngnclibeccplaaDoorTie.lean); close each card by the builder's one call (the guide's Derived/Test/ToyasCard.lean, 'card_holds'). Laid BY PROGRAM, IN A SANDBOX (cutbox-door.mjs). By AI agents, Wed Nov 11 2026. No macro, syntax, notation, axiom, sorry.
-/
import Derived.Test.YtngnclibeccplaaDoorRows
import GoSem.ClaimSeven
namespace Go.Proofs.YtngnclibeccplaaDoor
namespace Rows

/-- THE TIED CARD OF 'frisketlaw16.StrokeReach'. -/
def strokeReachCard : Claim7 := { stood := { row := strokeReachRow, standIns := [], harness := (true, "435217ea0ce5439e0a2b5de93099694882a2a6915fd18b57de8c00fcde676375"), looks := false }, kinds := [], alts := [], laidByText := true, laidKinds := [.data], laidTests := true, laidLooks := .later }
def StrokeReachCardSaid : Prop := Claim7.holds Tryd.pinned (.plain (OpenSpec.ofChange strokeReachSpec)) strokeReachCard

/-- THE SECOND FORM's CARD OF 'frisketlaw16.StrokeReach'. -/
def strokeReachUptoCard : Claim7 := { stood := { row := strokeReachUptoRow, standIns := [], harness := (true, "435217ea0ce5439e0a2b5de93099694882a2a6915fd18b57de8c00fcde676375"), looks := false }, kinds := [], alts := [], laidByText := true, laidKinds := [.data], laidTests := true, laidLooks := .later }
def StrokeReachUptoCardSaid : Prop := Claim7.holds Tryd.pinned (.plain (OpenSpec.upto strokeReachSpec)) strokeReachUptoCard
end Rows
end Go.Proofs.YtngnclibeccplaaDoor
