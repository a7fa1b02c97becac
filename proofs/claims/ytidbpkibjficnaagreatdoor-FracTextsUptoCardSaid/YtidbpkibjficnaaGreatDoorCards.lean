/-
  DERIVED. GIVEN WITH THE SEED: THE CARDS: each row of YtidbpkibjficnaaGreatDoorRows.lean that lists a variable, with what it lists TIED to the program's text (the seventh form; the later family's looks); each row that meets fmt, with fmt's text TOLD by the authors' own Lean function (tested against real Go, not proved from fmt's source: count such statements apart). THE CARD IS WHAT COUNTS. Prove the row's statement (the work); the ties are given (YtidbpkibjficnaaGreatDoorTie.lean); close each card by the builder's one call (the guide's Derived/Test/ToyasCard.lean, 'card_holds'). Laid BY PROGRAM, IN A SANDBOX (cutbox-door.mjs). By AI agents, Wed Nov 11 2026. No macro, syntax, notation, axiom, sorry.
-/
import Derived.Test.YtidbpkibjficnaaGreatDoorRows
import GoSem.ClaimSeven
namespace Go.Proofs.YtidbpkibjficnaaGreatDoor
namespace Rows

/-- THE TIED CARD OF 'frisketlaw04.FracSums'. -/
def fracSumsCard : Claim7 := { stood := { row := fracSumsRow, standIns := [], harness := (true, "c968f31cad6d20726019e2f33c4f1ea626df1047f9e1b8c67bf93fb648dd01e6"), looks := false }, kinds := [], alts := [], laidByText := true, laidKinds := [.data, .data, .data], laidTests := true, laidLooks := .later }
def FracSumsCardSaid : Prop := Claim7.holds Tryz.pinned (.plain (OpenSpec.ofChange fracSumsSpec)) fracSumsCard

/-- THE TIED CARD OF 'frisketlaw04.FracDivs'. -/
def fracDivsCard : Claim7 := { stood := { row := fracDivsRow, standIns := [], harness := (true, "c968f31cad6d20726019e2f33c4f1ea626df1047f9e1b8c67bf93fb648dd01e6"), looks := false }, kinds := [], alts := [], laidByText := true, laidKinds := [.data, .data, .data], laidTests := true, laidLooks := .later }
def FracDivsCardSaid : Prop := Claim7.holds Tryz.pinned (.plain (OpenSpec.ofChange fracDivsSpec)) fracDivsCard

/-- THE TIED CARD OF 'frisketlaw04.FracStands'. -/
def fracStandsCard : Claim7 := { stood := { row := fracStandsRow, standIns := [], harness := (true, "c968f31cad6d20726019e2f33c4f1ea626df1047f9e1b8c67bf93fb648dd01e6"), looks := false }, kinds := [], alts := [], laidByText := true, laidKinds := [.data, .data, .data], laidTests := true, laidLooks := .later }
def FracStandsCardSaid : Prop := Claim7.holds Tryz.pinned (.plain (OpenSpec.ofChange fracStandsSpec)) fracStandsCard

/-- THE TIED CARD OF 'frisketlaw04.FracTexts'. -/
def fracTextsCard : Claim7 := { stood := { row := fracTextsRow, standIns := [], harness := (true, "c968f31cad6d20726019e2f33c4f1ea626df1047f9e1b8c67bf93fb648dd01e6"), looks := false }, kinds := [], alts := [], laidByText := true, laidKinds := [.data, .data, .data], laidTests := true, laidLooks := .later }
def FracTextsCardSaid : Prop := Claim7.holds Tryz.pinned (.plain (OpenSpec.ofChange fracTextsSpec)) fracTextsCard

/-- THE TIED CARD OF 'frisketlaw04.FracRules'. -/
def fracRulesCard : Claim7 := { stood := { row := fracRulesRow, standIns := [], harness := (true, "c968f31cad6d20726019e2f33c4f1ea626df1047f9e1b8c67bf93fb648dd01e6"), looks := false }, kinds := [], alts := [], laidByText := true, laidKinds := [.data, .data, .data], laidTests := true, laidLooks := .later }
def FracRulesCardSaid : Prop := Claim7.holds Tryz.pinned (.plain (OpenSpec.ofChange fracRulesSpec)) fracRulesCard

/-- THE SECOND FORM's CARD OF 'frisketlaw04.FracSums'. -/
def fracSumsUptoCard : Claim7 := { stood := { row := fracSumsUptoRow, standIns := [], harness := (true, "c968f31cad6d20726019e2f33c4f1ea626df1047f9e1b8c67bf93fb648dd01e6"), looks := false }, kinds := [], alts := [], laidByText := true, laidKinds := [.data, .data, .data], laidTests := true, laidLooks := .later }
def FracSumsUptoCardSaid : Prop := Claim7.holds Tryz.pinned (.plain (OpenSpec.upto fracSumsSpec)) fracSumsUptoCard

/-- THE SECOND FORM's CARD OF 'frisketlaw04.FracDivs'. -/
def fracDivsUptoCard : Claim7 := { stood := { row := fracDivsUptoRow, standIns := [], harness := (true, "c968f31cad6d20726019e2f33c4f1ea626df1047f9e1b8c67bf93fb648dd01e6"), looks := false }, kinds := [], alts := [], laidByText := true, laidKinds := [.data, .data, .data], laidTests := true, laidLooks := .later }
def FracDivsUptoCardSaid : Prop := Claim7.holds Tryz.pinned (.plain (OpenSpec.upto fracDivsSpec)) fracDivsUptoCard

/-- THE SECOND FORM's CARD OF 'frisketlaw04.FracStands'. -/
def fracStandsUptoCard : Claim7 := { stood := { row := fracStandsUptoRow, standIns := [], harness := (true, "c968f31cad6d20726019e2f33c4f1ea626df1047f9e1b8c67bf93fb648dd01e6"), looks := false }, kinds := [], alts := [], laidByText := true, laidKinds := [.data, .data, .data], laidTests := true, laidLooks := .later }
def FracStandsUptoCardSaid : Prop := Claim7.holds Tryz.pinned (.plain (OpenSpec.upto fracStandsSpec)) fracStandsUptoCard

/-- THE SECOND FORM's CARD OF 'frisketlaw04.FracTexts'. -/
def fracTextsUptoCard : Claim7 := { stood := { row := fracTextsUptoRow, standIns := [], harness := (true, "c968f31cad6d20726019e2f33c4f1ea626df1047f9e1b8c67bf93fb648dd01e6"), looks := false }, kinds := [], alts := [], laidByText := true, laidKinds := [.data, .data, .data], laidTests := true, laidLooks := .later }
def FracTextsUptoCardSaid : Prop := Claim7.holds Tryz.pinned (.plain (OpenSpec.upto fracTextsSpec)) fracTextsUptoCard

/-- THE SECOND FORM's CARD OF 'frisketlaw04.FracRules'. -/
def fracRulesUptoCard : Claim7 := { stood := { row := fracRulesUptoRow, standIns := [], harness := (true, "c968f31cad6d20726019e2f33c4f1ea626df1047f9e1b8c67bf93fb648dd01e6"), looks := false }, kinds := [], alts := [], laidByText := true, laidKinds := [.data, .data, .data], laidTests := true, laidLooks := .later }
def FracRulesUptoCardSaid : Prop := Claim7.holds Tryz.pinned (.plain (OpenSpec.upto fracRulesSpec)) fracRulesUptoCard
end Rows
end Go.Proofs.YtidbpkibjficnaaGreatDoor
