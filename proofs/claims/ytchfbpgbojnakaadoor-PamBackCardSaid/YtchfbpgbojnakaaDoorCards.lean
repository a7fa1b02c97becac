/-
  DERIVED. GIVEN WITH THE SEED: THE CARDS: each row of YtchfbpgbojnakaaDoorRows.lean that lists a variable, with what it lists TIED to the program's text (the seventh form; the later family's looks); each row that meets fmt, with fmt's text TOLD by the authors' own Lean function (tested against real Go, not proved from fmt's source: count such statements apart). THE CARD IS WHAT COUNTS. Prove the row's statement (the work); the ties are given (YtchfbpgbojnakaaDoorTie.lean); close each card by the builder's one call (the guide's Derived/Test/ToyasCard.lean, 'card_holds'). Laid BY PROGRAM, IN A SANDBOX (cutbox-door.mjs). By AI agents, Wed Nov 11 2026. No macro, syntax, notation, axiom, sorry.
-/
import Derived.Test.YtchfbpgbojnakaaDoorRows
import GoSem.ClaimSeven
namespace Go.Proofs.YtchfbpgbojnakaaDoor
namespace Rows

/-- THE TIED CARD OF 'frisketlaw09.PamFiles'. -/
def pamFilesCard : Claim7 := { stood := { row := pamFilesRow, standIns := [], harness := (true, "e072e2bf3cab8d12180b9f77c38e135d851c67ea607d0db05ec174cc3a772b41"), looks := true }, kinds := [], alts := [], laidByText := true, laidKinds := [.data, .data, .data, .sentinel, .sentinel, .data], laidTests := true, laidLooks := .later }
def PamFilesCardSaid : Prop := Claim7.holds Tryd.pinned (.plain (OpenSpec.ofChange pamFilesSpec)) pamFilesCard

/-- THE TIED CARD OF 'frisketlaw09.PamParts'. -/
def pamPartsCard : Claim7 := { stood := { row := pamPartsRow, standIns := [], harness := (true, "e072e2bf3cab8d12180b9f77c38e135d851c67ea607d0db05ec174cc3a772b41"), looks := true }, kinds := [], alts := [], laidByText := true, laidKinds := [.data, .data, .data, .data], laidTests := true, laidLooks := .later }
def PamPartsCardSaid : Prop := Claim7.holds Tryd.pinned (.plain (OpenSpec.ofChange pamPartsSpec)) pamPartsCard

/-- THE TIED CARD OF 'frisketlaw09.PamDiffers'. -/
def pamDiffersCard : Claim7 := { stood := { row := pamDiffersRow, standIns := [], harness := (true, "e072e2bf3cab8d12180b9f77c38e135d851c67ea607d0db05ec174cc3a772b41"), looks := true }, kinds := [], alts := [], laidByText := true, laidKinds := [.data, .data, .data, .data], laidTests := true, laidLooks := .later }
def PamDiffersCardSaid : Prop := Claim7.holds Tryd.pinned (.plain (OpenSpec.ofChange pamDiffersSpec)) pamDiffersCard

/-- THE TIED CARD OF 'frisketlaw09.PamBack'. -/
def pamBackCard : Claim7 := { stood := { row := pamBackRow, standIns := [], harness := (true, "e072e2bf3cab8d12180b9f77c38e135d851c67ea607d0db05ec174cc3a772b41"), looks := true }, kinds := [], alts := [], laidByText := true, laidKinds := [.data, .data, .data, .sentinel, .sentinel, .data], laidTests := true, laidLooks := .later }
def PamBackCardSaid : Prop := Claim7.holds Tryd.pinned (.plain (OpenSpec.ofChange pamBackSpec)) pamBackCard

/-- THE SECOND FORM's CARD OF 'frisketlaw09.PamFiles'. -/
def pamFilesUptoCard : Claim7 := { stood := { row := pamFilesUptoRow, standIns := [], harness := (true, "e072e2bf3cab8d12180b9f77c38e135d851c67ea607d0db05ec174cc3a772b41"), looks := true }, kinds := [], alts := [], laidByText := true, laidKinds := [.data, .data, .data, .sentinel, .sentinel, .data], laidTests := true, laidLooks := .later }
def PamFilesUptoCardSaid : Prop := Claim7.holds Tryd.pinned (.plain (OpenSpec.upto pamFilesSpec)) pamFilesUptoCard

/-- THE SECOND FORM's CARD OF 'frisketlaw09.PamParts'. -/
def pamPartsUptoCard : Claim7 := { stood := { row := pamPartsUptoRow, standIns := [], harness := (true, "e072e2bf3cab8d12180b9f77c38e135d851c67ea607d0db05ec174cc3a772b41"), looks := true }, kinds := [], alts := [], laidByText := true, laidKinds := [.data, .data, .data, .data], laidTests := true, laidLooks := .later }
def PamPartsUptoCardSaid : Prop := Claim7.holds Tryd.pinned (.plain (OpenSpec.upto pamPartsSpec)) pamPartsUptoCard

/-- THE SECOND FORM's CARD OF 'frisketlaw09.PamDiffers'. -/
def pamDiffersUptoCard : Claim7 := { stood := { row := pamDiffersUptoRow, standIns := [], harness := (true, "e072e2bf3cab8d12180b9f77c38e135d851c67ea607d0db05ec174cc3a772b41"), looks := true }, kinds := [], alts := [], laidByText := true, laidKinds := [.data, .data, .data, .data], laidTests := true, laidLooks := .later }
def PamDiffersUptoCardSaid : Prop := Claim7.holds Tryd.pinned (.plain (OpenSpec.upto pamDiffersSpec)) pamDiffersUptoCard

/-- THE SECOND FORM's CARD OF 'frisketlaw09.PamBack'. -/
def pamBackUptoCard : Claim7 := { stood := { row := pamBackUptoRow, standIns := [], harness := (true, "e072e2bf3cab8d12180b9f77c38e135d851c67ea607d0db05ec174cc3a772b41"), looks := true }, kinds := [], alts := [], laidByText := true, laidKinds := [.data, .data, .data, .sentinel, .sentinel, .data], laidTests := true, laidLooks := .later }
def PamBackUptoCardSaid : Prop := Claim7.holds Tryd.pinned (.plain (OpenSpec.upto pamBackSpec)) pamBackUptoCard
end Rows
end Go.Proofs.YtchfbpgbojnakaaDoor
