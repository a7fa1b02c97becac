/-
  DERIVED. GIVEN WITH THE SEED: THE CARDS: each row of YtkgedgaddpojkaaGreatDoorRows.lean that lists a variable, with what it lists TIED to the program's text (the seventh form; the later family's looks); each row that meets fmt, with fmt's text TOLD by the authors' own Lean function (tested against real Go, not proved from fmt's source: count such statements apart). THE CARD IS WHAT COUNTS. Prove the row's statement (the work); the ties are given (YtkgedgaddpojkaaGreatDoorTie.lean); close each card by the builder's one call (the guide's Derived/Test/ToyasCard.lean, 'card_holds'). Laid BY PROGRAM, IN A SANDBOX (cutbox-door.mjs). By AI agents, Wed Nov 11 2026. No macro, syntax, notation, axiom, sorry.
-/
import Derived.Test.YtkgedgaddpojkaaGreatDoorRows
import GoSem.ClaimSeven
namespace Go.Proofs.YtkgedgaddpojkaaGreatDoor
namespace Rows

/-- THE TIED CARD OF 'frisketlaw05.SpotTurns'. -/
def spotTurnsCard : Claim7 := { stood := { row := spotTurnsRow, standIns := [], harness := (true, "07ed0139598607bc0f42153ce1af1eb70e41269525f79664f0f3229c8014b2c9"), looks := false }, kinds := [], alts := [], laidByText := true, laidKinds := [.data, .data, .data], laidTests := true, laidLooks := .later }
def SpotTurnsCardSaid : Prop := Claim7.holds Tryz.pinned (.plain (OpenSpec.ofChange spotTurnsSpec)) spotTurnsCard

/-- THE TIED CARD OF 'frisketlaw05.SpotGrids'. -/
def spotGridsCard : Claim7 := { stood := { row := spotGridsRow, standIns := [], harness := (true, "07ed0139598607bc0f42153ce1af1eb70e41269525f79664f0f3229c8014b2c9"), looks := false }, kinds := [], alts := [], laidByText := true, laidKinds := [.data, .data, .data], laidTests := true, laidLooks := .later }
def SpotGridsCardSaid : Prop := Claim7.holds Tryz.pinned (.plain (OpenSpec.ofChange spotGridsSpec)) spotGridsCard

/-- THE TIED CARD OF 'frisketlaw05.SpotWays'. -/
def spotWaysCard : Claim7 := { stood := { row := spotWaysRow, standIns := [], harness := (true, "07ed0139598607bc0f42153ce1af1eb70e41269525f79664f0f3229c8014b2c9"), looks := false }, kinds := [], alts := [], laidByText := true, laidKinds := [.data, .data, .data], laidTests := true, laidLooks := .later }
def SpotWaysCardSaid : Prop := Claim7.holds Tryz.pinned (.plain (OpenSpec.ofChange spotWaysSpec)) spotWaysCard

/-- THE TIED CARD OF 'frisketlaw05.SpotRows'. -/
def spotRowsCard : Claim7 := { stood := { row := spotRowsRow, standIns := [], harness := (true, "07ed0139598607bc0f42153ce1af1eb70e41269525f79664f0f3229c8014b2c9"), looks := false }, kinds := [], alts := [], laidByText := true, laidKinds := [.data, .data, .data], laidTests := true, laidLooks := .later }
def SpotRowsCardSaid : Prop := Claim7.holds Tryz.pinned (.plain (OpenSpec.ofChange spotRowsSpec)) spotRowsCard

/-- THE SECOND FORM's CARD OF 'frisketlaw05.SpotTurns'. -/
def spotTurnsUptoCard : Claim7 := { stood := { row := spotTurnsUptoRow, standIns := [], harness := (true, "07ed0139598607bc0f42153ce1af1eb70e41269525f79664f0f3229c8014b2c9"), looks := false }, kinds := [], alts := [], laidByText := true, laidKinds := [.data, .data, .data], laidTests := true, laidLooks := .later }
def SpotTurnsUptoCardSaid : Prop := Claim7.holds Tryz.pinned (.plain (OpenSpec.upto spotTurnsSpec)) spotTurnsUptoCard

/-- THE SECOND FORM's CARD OF 'frisketlaw05.SpotGrids'. -/
def spotGridsUptoCard : Claim7 := { stood := { row := spotGridsUptoRow, standIns := [], harness := (true, "07ed0139598607bc0f42153ce1af1eb70e41269525f79664f0f3229c8014b2c9"), looks := false }, kinds := [], alts := [], laidByText := true, laidKinds := [.data, .data, .data], laidTests := true, laidLooks := .later }
def SpotGridsUptoCardSaid : Prop := Claim7.holds Tryz.pinned (.plain (OpenSpec.upto spotGridsSpec)) spotGridsUptoCard

/-- THE SECOND FORM's CARD OF 'frisketlaw05.SpotWays'. -/
def spotWaysUptoCard : Claim7 := { stood := { row := spotWaysUptoRow, standIns := [], harness := (true, "07ed0139598607bc0f42153ce1af1eb70e41269525f79664f0f3229c8014b2c9"), looks := false }, kinds := [], alts := [], laidByText := true, laidKinds := [.data, .data, .data], laidTests := true, laidLooks := .later }
def SpotWaysUptoCardSaid : Prop := Claim7.holds Tryz.pinned (.plain (OpenSpec.upto spotWaysSpec)) spotWaysUptoCard

/-- THE SECOND FORM's CARD OF 'frisketlaw05.SpotRows'. -/
def spotRowsUptoCard : Claim7 := { stood := { row := spotRowsUptoRow, standIns := [], harness := (true, "07ed0139598607bc0f42153ce1af1eb70e41269525f79664f0f3229c8014b2c9"), looks := false }, kinds := [], alts := [], laidByText := true, laidKinds := [.data, .data, .data], laidTests := true, laidLooks := .later }
def SpotRowsUptoCardSaid : Prop := Claim7.holds Tryz.pinned (.plain (OpenSpec.upto spotRowsSpec)) spotRowsUptoCard
end Rows
end Go.Proofs.YtkgedgaddpojkaaGreatDoor
