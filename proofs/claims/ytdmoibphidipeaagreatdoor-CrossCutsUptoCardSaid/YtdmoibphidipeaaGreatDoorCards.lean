/-
  DERIVED. GIVEN WITH THE SEED: THE CARDS: each row of YtdmoibphidipeaaGreatDoorRows.lean that lists a variable, with what it lists TIED to the program's text (the seventh form; the later family's looks); each row that meets fmt, with fmt's text TOLD by the authors' own Lean function (tested against real Go, not proved from fmt's source: count such statements apart). THE CARD IS WHAT COUNTS. Prove the row's statement (the work); the ties are given (YtdmoibphidipeaaGreatDoorTie.lean); close each card by the builder's one call (the guide's Derived/Test/ToyasCard.lean, 'card_holds'). Laid BY PROGRAM, IN A SANDBOX (cutbox-door.mjs). By AI agents, Wed Nov 11 2026. No macro, syntax, notation, axiom, sorry.
-/
import Derived.Test.YtdmoibphidipeaaGreatDoorRows
import GoSem.ClaimSeven
namespace Go.Proofs.YtdmoibphidipeaaGreatDoor
namespace Rows

/-- THE TIED CARD OF 'frisketlaw17.CrossMeets'. -/
def crossMeetsCard : Claim7 := { stood := { row := crossMeetsRow, standIns := [], harness := (true, "313e42fc7b54ec656a7f9252454b816a87dc26095e920d20172b60a506684d58"), looks := false }, kinds := [], alts := [], laidByText := true, laidKinds := [.data, .data, .data], laidTests := true, laidLooks := .later }
def CrossMeetsCardSaid : Prop := Claim7.holds Tryz.pinned (.plain (OpenSpec.ofChange crossMeetsSpec)) crossMeetsCard

/-- THE TIED CARD OF 'frisketlaw17.CrossCuts'. -/
def crossCutsCard : Claim7 := { stood := { row := crossCutsRow, standIns := [], harness := (true, "313e42fc7b54ec656a7f9252454b816a87dc26095e920d20172b60a506684d58"), looks := false }, kinds := [], alts := [], laidByText := true, laidKinds := [.data, .data, .data], laidTests := true, laidLooks := .later }
def CrossCutsCardSaid : Prop := Claim7.holds Tryz.pinned (.plain (OpenSpec.ofChange crossCutsSpec)) crossCutsCard

/-- THE TIED CARD OF 'frisketlaw17.CrossBoth'. -/
def crossBothCard : Claim7 := { stood := { row := crossBothRow, standIns := [], harness := (true, "313e42fc7b54ec656a7f9252454b816a87dc26095e920d20172b60a506684d58"), looks := false }, kinds := [], alts := [], laidByText := true, laidKinds := [.data, .data, .data], laidTests := true, laidLooks := .later }
def CrossBothCardSaid : Prop := Claim7.holds Tryz.pinned (.plain (OpenSpec.ofChange crossBothSpec)) crossBothCard

/-- THE TIED CARD OF 'frisketlaw18.SplitPieces'. -/
def splitPiecesCard : Claim7 := { stood := { row := splitPiecesRow, standIns := [], harness := (true, "313e42fc7b54ec656a7f9252454b816a87dc26095e920d20172b60a506684d58"), looks := false }, kinds := [], alts := [], laidByText := true, laidKinds := [.data, .data, .data], laidTests := true, laidLooks := .later }
def SplitPiecesCardSaid : Prop := Claim7.holds Tryz.pinned (.plain (OpenSpec.ofChange splitPiecesSpec)) splitPiecesCard

/-- THE TIED CARD OF 'frisketlaw18.SplitRows'. -/
def splitRowsCard : Claim7 := { stood := { row := splitRowsRow, standIns := [], harness := (true, "313e42fc7b54ec656a7f9252454b816a87dc26095e920d20172b60a506684d58"), looks := false }, kinds := [], alts := [], laidByText := true, laidKinds := [.data, .data, .data], laidTests := true, laidLooks := .later }
def SplitRowsCardSaid : Prop := Claim7.holds Tryz.pinned (.plain (OpenSpec.ofChange splitRowsSpec)) splitRowsCard

/-- THE TIED CARD OF 'frisketlaw18.SplitClean'. -/
def splitCleanCard : Claim7 := { stood := { row := splitCleanRow, standIns := [], harness := (true, "313e42fc7b54ec656a7f9252454b816a87dc26095e920d20172b60a506684d58"), looks := false }, kinds := [], alts := [], laidByText := true, laidKinds := [.data, .data, .data], laidTests := true, laidLooks := .later }
def SplitCleanCardSaid : Prop := Claim7.holds Tryz.pinned (.plain (OpenSpec.ofChange splitCleanSpec)) splitCleanCard

/-- THE SECOND FORM's CARD OF 'frisketlaw17.CrossMeets'. -/
def crossMeetsUptoCard : Claim7 := { stood := { row := crossMeetsUptoRow, standIns := [], harness := (true, "313e42fc7b54ec656a7f9252454b816a87dc26095e920d20172b60a506684d58"), looks := false }, kinds := [], alts := [], laidByText := true, laidKinds := [.data, .data, .data], laidTests := true, laidLooks := .later }
def CrossMeetsUptoCardSaid : Prop := Claim7.holds Tryz.pinned (.plain (OpenSpec.upto crossMeetsSpec)) crossMeetsUptoCard

/-- THE SECOND FORM's CARD OF 'frisketlaw17.CrossCuts'. -/
def crossCutsUptoCard : Claim7 := { stood := { row := crossCutsUptoRow, standIns := [], harness := (true, "313e42fc7b54ec656a7f9252454b816a87dc26095e920d20172b60a506684d58"), looks := false }, kinds := [], alts := [], laidByText := true, laidKinds := [.data, .data, .data], laidTests := true, laidLooks := .later }
def CrossCutsUptoCardSaid : Prop := Claim7.holds Tryz.pinned (.plain (OpenSpec.upto crossCutsSpec)) crossCutsUptoCard

/-- THE SECOND FORM's CARD OF 'frisketlaw17.CrossBoth'. -/
def crossBothUptoCard : Claim7 := { stood := { row := crossBothUptoRow, standIns := [], harness := (true, "313e42fc7b54ec656a7f9252454b816a87dc26095e920d20172b60a506684d58"), looks := false }, kinds := [], alts := [], laidByText := true, laidKinds := [.data, .data, .data], laidTests := true, laidLooks := .later }
def CrossBothUptoCardSaid : Prop := Claim7.holds Tryz.pinned (.plain (OpenSpec.upto crossBothSpec)) crossBothUptoCard

/-- THE SECOND FORM's CARD OF 'frisketlaw18.SplitPieces'. -/
def splitPiecesUptoCard : Claim7 := { stood := { row := splitPiecesUptoRow, standIns := [], harness := (true, "313e42fc7b54ec656a7f9252454b816a87dc26095e920d20172b60a506684d58"), looks := false }, kinds := [], alts := [], laidByText := true, laidKinds := [.data, .data, .data], laidTests := true, laidLooks := .later }
def SplitPiecesUptoCardSaid : Prop := Claim7.holds Tryz.pinned (.plain (OpenSpec.upto splitPiecesSpec)) splitPiecesUptoCard

/-- THE SECOND FORM's CARD OF 'frisketlaw18.SplitRows'. -/
def splitRowsUptoCard : Claim7 := { stood := { row := splitRowsUptoRow, standIns := [], harness := (true, "313e42fc7b54ec656a7f9252454b816a87dc26095e920d20172b60a506684d58"), looks := false }, kinds := [], alts := [], laidByText := true, laidKinds := [.data, .data, .data], laidTests := true, laidLooks := .later }
def SplitRowsUptoCardSaid : Prop := Claim7.holds Tryz.pinned (.plain (OpenSpec.upto splitRowsSpec)) splitRowsUptoCard

/-- THE SECOND FORM's CARD OF 'frisketlaw18.SplitClean'. -/
def splitCleanUptoCard : Claim7 := { stood := { row := splitCleanUptoRow, standIns := [], harness := (true, "313e42fc7b54ec656a7f9252454b816a87dc26095e920d20172b60a506684d58"), looks := false }, kinds := [], alts := [], laidByText := true, laidKinds := [.data, .data, .data], laidTests := true, laidLooks := .later }
def SplitCleanUptoCardSaid : Prop := Claim7.holds Tryz.pinned (.plain (OpenSpec.upto splitCleanSpec)) splitCleanUptoCard
end Rows
end Go.Proofs.YtdmoibphidipeaaGreatDoor
