/-
  DERIVED. GIVEN WITH THE SEED: THE CARDS: each row of YtkgedgaddpojkaaDoorRows.lean that lists a variable, with what it lists TIED to the program's text (the seventh form; the later family's looks); each row that meets fmt, with fmt's text TOLD by the authors' own Lean function (tested against real Go, not proved from fmt's source: count such statements apart). THE CARD IS WHAT COUNTS. Prove the row's statement (the work); the ties are given (YtkgedgaddpojkaaDoorTie.lean); close each card by the builder's one call (the guide's Derived/Test/ToyasCard.lean, 'card_holds'). Laid BY PROGRAM, IN A SANDBOX (cutbox-door.mjs). By AI agents, Wed Nov 11 2026. No macro, syntax, notation, axiom, sorry.
-/
import Derived.Test.YtkgedgaddpojkaaDoorRows
import GoSem.ClaimSeven
namespace Go.Proofs.YtkgedgaddpojkaaDoor
namespace Rows

/-- THE TIED CARD OF 'frisketlaw05.SpotRounds'. -/
def spotRoundsCard : Claim7 := { stood := { row := spotRoundsRow, standIns := [], harness := (true, "c2a64d2382c8c785c3c2ee0b172998d2faef50facad7d46cc2ac4291790d9abc"), looks := false }, kinds := [], alts := [], laidByText := true, laidKinds := [.data, .data, .data], laidTests := true, laidLooks := .later }
def SpotRoundsCardSaid : Prop := Claim7.holds Tryd.pinned (.plain (OpenSpec.ofChange spotRoundsSpec)) spotRoundsCard

/-- THE SECOND FORM's CARD OF 'frisketlaw05.SpotRounds'. -/
def spotRoundsUptoCard : Claim7 := { stood := { row := spotRoundsUptoRow, standIns := [], harness := (true, "c2a64d2382c8c785c3c2ee0b172998d2faef50facad7d46cc2ac4291790d9abc"), looks := false }, kinds := [], alts := [], laidByText := true, laidKinds := [.data, .data, .data], laidTests := true, laidLooks := .later }
def SpotRoundsUptoCardSaid : Prop := Claim7.holds Tryd.pinned (.plain (OpenSpec.upto spotRoundsSpec)) spotRoundsUptoCard
end Rows
end Go.Proofs.YtkgedgaddpojkaaDoor
