/-
  DERIVED. GIVEN WITH THE SEED: THE CARDS: each row of YtlohgcdonenmeaaDoorRows.lean that lists a variable, with what it lists TIED to the program's text (the seventh form; the later family's looks); each row that meets fmt, with fmt's text TOLD by the authors' own Lean function (tested against real Go, not proved from fmt's source: count such statements apart). THE CARD IS WHAT COUNTS. Prove the row's statement (the work); the ties are given (YtlohgcdonenmeaaDoorTie.lean); close each card by the builder's one call (the guide's Derived/Test/ToyasCard.lean, 'card_holds'). Laid BY PROGRAM, IN A SANDBOX (cutbox-door.mjs). By AI agents, Wed Nov 11 2026. No macro, syntax, notation, axiom, sorry.
-/
import Derived.Test.YtlohgcdonenmeaaDoorRows
import GoSem.ClaimSeven
namespace Go.Proofs.YtlohgcdonenmeaaDoor
namespace Rows

/-- THE TIED CARD OF 'milllaw13.SortcmdDisorders'. -/
def sortcmdDisordersCard : Claim7 := { stood := { row := sortcmdDisordersRow, standIns := [], harness := (true, "6d6265dd56a64f4e7cdc2a21acab1226b5671ca3f0ac4b6772d721a78943ab13"), looks := false }, kinds := [], alts := [], laidByText := true, laidKinds := [.data, .data, .data], laidTests := true, laidLooks := .later }
def SortcmdDisordersCardSaid : Prop := Claim7.holds Tryd.pinned (.plain (OpenSpec.ofChange sortcmdDisordersSpec)) sortcmdDisordersCard

/-- THE TIED CARD OF 'milllaw13.SortcmdDiagnoses'. -/
def sortcmdDiagnosesCard : Claim7 := { stood := { row := sortcmdDiagnosesRow, standIns := [], harness := (true, "6d6265dd56a64f4e7cdc2a21acab1226b5671ca3f0ac4b6772d721a78943ab13"), looks := false }, kinds := [], alts := [], laidByText := true, laidKinds := [.data, .data, .data], laidTests := true, laidLooks := .later }
def SortcmdDiagnosesCardSaid : Prop := Claim7.holds Tryd.pinned (.plain (OpenSpec.ofChange sortcmdDiagnosesSpec)) sortcmdDiagnosesCard

/-- THE SECOND FORM's CARD OF 'milllaw13.SortcmdDisorders'. -/
def sortcmdDisordersUptoCard : Claim7 := { stood := { row := sortcmdDisordersUptoRow, standIns := [], harness := (true, "6d6265dd56a64f4e7cdc2a21acab1226b5671ca3f0ac4b6772d721a78943ab13"), looks := false }, kinds := [], alts := [], laidByText := true, laidKinds := [.data, .data, .data], laidTests := true, laidLooks := .later }
def SortcmdDisordersUptoCardSaid : Prop := Claim7.holds Tryd.pinned (.plain (OpenSpec.upto sortcmdDisordersSpec)) sortcmdDisordersUptoCard

/-- THE SECOND FORM's CARD OF 'milllaw13.SortcmdDiagnoses'. -/
def sortcmdDiagnosesUptoCard : Claim7 := { stood := { row := sortcmdDiagnosesUptoRow, standIns := [], harness := (true, "6d6265dd56a64f4e7cdc2a21acab1226b5671ca3f0ac4b6772d721a78943ab13"), looks := false }, kinds := [], alts := [], laidByText := true, laidKinds := [.data, .data, .data], laidTests := true, laidLooks := .later }
def SortcmdDiagnosesUptoCardSaid : Prop := Claim7.holds Tryd.pinned (.plain (OpenSpec.upto sortcmdDiagnosesSpec)) sortcmdDiagnosesUptoCard
end Rows
end Go.Proofs.YtlohgcdonenmeaaDoor
