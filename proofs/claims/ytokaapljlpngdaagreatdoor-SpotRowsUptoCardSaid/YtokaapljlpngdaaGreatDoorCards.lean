/-
  DERIVED. GIVEN WITH THE SEED: THE CARDS: each row of YtokaapljlpngdaaGreatDoorRows.lean that lists a variable, with what it lists TIED to the program's text (the seventh form; the later family's looks); each row that meets fmt, with fmt's text TOLD by the authors' own Lean function (tested against real Go, not proved from fmt's source: count such statements apart). THE CARD IS WHAT COUNTS. Prove the row's statement (the work); the ties are given (YtokaapljlpngdaaGreatDoorTie.lean); close each card by the builder's one call (the guide's Derived/Test/ToyasCard.lean, 'card_holds'). Laid BY PROGRAM, IN A SANDBOX (cutbox-door.mjs). By AI agents, Wed Nov 11 2026. No macro, syntax, notation, axiom, sorry.
-/
import Derived.Test.YtokaapljlpngdaaGreatDoorRows
import GoSem.ClaimSeven
namespace Go.Proofs.YtokaapljlpngdaaGreatDoor
namespace Rows

/-- THE TIED CARD OF 'frisketlaw05.SpotRows'. -/
def spotRowsCard : Claim7 := { stood := { row := spotRowsRow, standIns := [], harness := (true, "820d0e51dd3247fa0f22f88b9f3f420ed2e65f99e0c039db9f7190f5aefe6042"), looks := false }, kinds := [], alts := [], laidByText := true, laidKinds := [.data, .data, .data], laidTests := true, laidLooks := .later }
def SpotRowsCardSaid : Prop := Claim7.holds Tryz.pinned (.plain (OpenSpec.ofChange spotRowsSpec)) spotRowsCard

/-- THE SECOND FORM's CARD OF 'frisketlaw05.SpotRows'. -/
def spotRowsUptoCard : Claim7 := { stood := { row := spotRowsUptoRow, standIns := [], harness := (true, "820d0e51dd3247fa0f22f88b9f3f420ed2e65f99e0c039db9f7190f5aefe6042"), looks := false }, kinds := [], alts := [], laidByText := true, laidKinds := [.data, .data, .data], laidTests := true, laidLooks := .later }
def SpotRowsUptoCardSaid : Prop := Claim7.holds Tryz.pinned (.plain (OpenSpec.upto spotRowsSpec)) spotRowsUptoCard
end Rows
end Go.Proofs.YtokaapljlpngdaaGreatDoor
