/-
  DERIVED. GIVEN WITH THE SEED: THE CARDS: each row of YtaiinglogpbfjaaDoorRows.lean that lists a variable, with what it lists TIED to the program's text (the seventh form; the later family's looks); each row that meets fmt, with fmt's text TOLD by the authors' own Lean function (tested against real Go, not proved from fmt's source: count such statements apart). THE CARD IS WHAT COUNTS. Prove the row's statement (the work); the ties are given (YtaiinglogpbfjaaDoorTie.lean); close each card by the builder's one call (the guide's Derived/Test/ToyasCard.lean, 'card_holds'). Laid BY PROGRAM, IN A SANDBOX (cutbox-door.mjs). By AI agents, Wed Nov 11 2026. No macro, syntax, notation, axiom, sorry.
-/
import Derived.Test.YtaiinglogpbfjaaDoorRows
import GoSem.ClaimSeven
namespace Go.Proofs.YtaiinglogpbfjaaDoor
namespace Rows

/-- THE TIED CARD OF 'frisketlaw08.ColourTexts'. -/
def colourTextsCard : Claim7 := { stood := { row := colourTextsRow, standIns := [], harness := (true, "753360aefcf989e956cd806f1bd5b39f58a910ff5a86ad1c5bce2201d90e4d2a"), looks := false }, kinds := [], alts := [], laidByText := true, laidKinds := [.data], laidTests := true, laidLooks := .later }
def ColourTextsCardSaid : Prop := Claim7.holds Tryd.pinned (.plain (OpenSpec.ofChange colourTextsSpec)) colourTextsCard

/-- THE SECOND FORM's CARD OF 'frisketlaw08.ColourTexts'. -/
def colourTextsUptoCard : Claim7 := { stood := { row := colourTextsUptoRow, standIns := [], harness := (true, "753360aefcf989e956cd806f1bd5b39f58a910ff5a86ad1c5bce2201d90e4d2a"), looks := false }, kinds := [], alts := [], laidByText := true, laidKinds := [.data], laidTests := true, laidLooks := .later }
def ColourTextsUptoCardSaid : Prop := Claim7.holds Tryd.pinned (.plain (OpenSpec.upto colourTextsSpec)) colourTextsUptoCard
end Rows
end Go.Proofs.YtaiinglogpbfjaaDoor
