/-
  DERIVED. GIVEN WITH THE SEED: THE CARDS: each row of YthdejcoaledklaaDoorRows.lean that lists a variable, with what it lists TIED to the program's text (the seventh form; the later family's looks); each row that meets fmt, with fmt's text TOLD by the authors' own Lean function (tested against real Go, not proved from fmt's source: count such statements apart). THE CARD IS WHAT COUNTS. Prove the row's statement (the work); the ties are given (YthdejcoaledklaaDoorTie.lean); close each card by the builder's one call (the guide's Derived/Test/ToyasCard.lean, 'card_holds'). Laid BY PROGRAM, IN A SANDBOX (cutbox-door.mjs). By AI agents, Wed Nov 11 2026. No macro, syntax, notation, axiom, sorry.
-/
import Derived.Test.YthdejcoaledklaaDoorRows
import GoSem.ClaimSeven
namespace Go.Proofs.YthdejcoaledklaaDoor
namespace Rows

/-- THE TIED CARD OF 'milllaw5.CollateCut'. -/
def collateCutCard : Claim7 := { stood := { row := collateCutRow, standIns := [], harness := (true, "b0447f578fd49252feced55fcfca5cf106c2b5a2fde388045bb629e8055fb0b3"), looks := false }, kinds := [], alts := [], laidByText := true, laidKinds := [.data], laidTests := true, laidLooks := .later }
def CollateCutCardSaid : Prop := Claim7.holds Tryd.pinned (.plain (OpenSpec.ofChange collateCutSpec)) collateCutCard

/-- THE TIED CARD OF 'milllaw5.CollateFields'. -/
def collateFieldsCard : Claim7 := { stood := { row := collateFieldsRow, standIns := [], harness := (true, "b0447f578fd49252feced55fcfca5cf106c2b5a2fde388045bb629e8055fb0b3"), looks := false }, kinds := [], alts := [], laidByText := true, laidKinds := [.data], laidTests := true, laidLooks := .later }
def CollateFieldsCardSaid : Prop := Claim7.holds Tryd.pinned (.plain (OpenSpec.ofChange collateFieldsSpec)) collateFieldsCard

/-- THE SECOND FORM's CARD OF 'milllaw5.CollateCut'. -/
def collateCutUptoCard : Claim7 := { stood := { row := collateCutUptoRow, standIns := [], harness := (true, "b0447f578fd49252feced55fcfca5cf106c2b5a2fde388045bb629e8055fb0b3"), looks := false }, kinds := [], alts := [], laidByText := true, laidKinds := [.data], laidTests := true, laidLooks := .later }
def CollateCutUptoCardSaid : Prop := Claim7.holds Tryd.pinned (.plain (OpenSpec.upto collateCutSpec)) collateCutUptoCard

/-- THE SECOND FORM's CARD OF 'milllaw5.CollateFields'. -/
def collateFieldsUptoCard : Claim7 := { stood := { row := collateFieldsUptoRow, standIns := [], harness := (true, "b0447f578fd49252feced55fcfca5cf106c2b5a2fde388045bb629e8055fb0b3"), looks := false }, kinds := [], alts := [], laidByText := true, laidKinds := [.data], laidTests := true, laidLooks := .later }
def CollateFieldsUptoCardSaid : Prop := Claim7.holds Tryd.pinned (.plain (OpenSpec.upto collateFieldsSpec)) collateFieldsUptoCard
end Rows
end Go.Proofs.YthdejcoaledklaaDoor
