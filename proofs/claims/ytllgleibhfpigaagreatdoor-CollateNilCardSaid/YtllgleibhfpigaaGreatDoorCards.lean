/-
  DERIVED. GIVEN WITH THE SEED: THE CARDS: each row of YtllgleibhfpigaaGreatDoorRows.lean that lists a variable, with what it lists TIED to the program's text (the seventh form; the later family's looks); each row that meets fmt, with fmt's text TOLD by the authors' own Lean function (tested against real Go, not proved from fmt's source: count such statements apart). THE CARD IS WHAT COUNTS. Prove the row's statement (the work); the ties are given (YtllgleibhfpigaaGreatDoorTie.lean); close each card by the builder's one call (the guide's Derived/Test/ToyasCard.lean, 'card_holds'). Laid BY PROGRAM, IN A SANDBOX (cutbox-door.mjs). By AI agents, Wed Nov 11 2026. No macro, syntax, notation, axiom, sorry.
-/
import Derived.Test.YtllgleibhfpigaaGreatDoorRows
import GoSem.ClaimSeven
namespace Go.Proofs.YtllgleibhfpigaaGreatDoor
namespace Rows

/-- THE TIED CARD OF 'milllaw5.CollateNews'. -/
def collateNewsCard : Claim7 := { stood := { row := collateNewsRow, standIns := [], harness := (true, "21b26a54c70a3c68f72075ea09823ba0000d15727d22b94679bcf4774e37a7ec"), looks := false }, kinds := [], alts := [], laidByText := true, laidKinds := [.data, .data, .data, .data, .data, .data, .pinned], laidTests := true, laidLooks := .later }
def CollateNewsCardSaid : Prop := Claim7.holds Tryz.pinned (.plain (OpenSpec.ofChange collateNewsSpec)) collateNewsCard

/-- THE TIED CARD OF 'milllaw5.CollateSpans'. -/
def collateSpansCard : Claim7 := { stood := { row := collateSpansRow, standIns := [], harness := (true, "21b26a54c70a3c68f72075ea09823ba0000d15727d22b94679bcf4774e37a7ec"), looks := false }, kinds := [], alts := [], laidByText := true, laidKinds := [.data, .data, .data, .data, .data, .data, .pinned], laidTests := true, laidLooks := .later }
def CollateSpansCardSaid : Prop := Claim7.holds Tryz.pinned (.plain (OpenSpec.ofChange collateSpansSpec)) collateSpansCard

/-- THE TIED CARD OF 'milllaw5.CollateNil'. -/
def collateNilCard : Claim7 := { stood := { row := collateNilRow, standIns := [], harness := (true, "21b26a54c70a3c68f72075ea09823ba0000d15727d22b94679bcf4774e37a7ec"), looks := false }, kinds := [], alts := [], laidByText := true, laidKinds := [.data, .data, .data, .data, .data, .data, .pinned], laidTests := true, laidLooks := .later }
def CollateNilCardSaid : Prop := Claim7.holds Tryz.pinned (.plain (OpenSpec.ofChange collateNilSpec)) collateNilCard

/-- THE SECOND FORM's CARD OF 'milllaw5.CollateNews'. -/
def collateNewsUptoCard : Claim7 := { stood := { row := collateNewsUptoRow, standIns := [], harness := (true, "21b26a54c70a3c68f72075ea09823ba0000d15727d22b94679bcf4774e37a7ec"), looks := false }, kinds := [], alts := [], laidByText := true, laidKinds := [.data, .data, .data, .data, .data, .data, .pinned], laidTests := true, laidLooks := .later }
def CollateNewsUptoCardSaid : Prop := Claim7.holds Tryz.pinned (.plain (OpenSpec.upto collateNewsSpec)) collateNewsUptoCard

/-- THE SECOND FORM's CARD OF 'milllaw5.CollateSpans'. -/
def collateSpansUptoCard : Claim7 := { stood := { row := collateSpansUptoRow, standIns := [], harness := (true, "21b26a54c70a3c68f72075ea09823ba0000d15727d22b94679bcf4774e37a7ec"), looks := false }, kinds := [], alts := [], laidByText := true, laidKinds := [.data, .data, .data, .data, .data, .data, .pinned], laidTests := true, laidLooks := .later }
def CollateSpansUptoCardSaid : Prop := Claim7.holds Tryz.pinned (.plain (OpenSpec.upto collateSpansSpec)) collateSpansUptoCard

/-- THE SECOND FORM's CARD OF 'milllaw5.CollateNil'. -/
def collateNilUptoCard : Claim7 := { stood := { row := collateNilUptoRow, standIns := [], harness := (true, "21b26a54c70a3c68f72075ea09823ba0000d15727d22b94679bcf4774e37a7ec"), looks := false }, kinds := [], alts := [], laidByText := true, laidKinds := [.data, .data, .data, .data, .data, .data, .pinned], laidTests := true, laidLooks := .later }
def CollateNilUptoCardSaid : Prop := Claim7.holds Tryz.pinned (.plain (OpenSpec.upto collateNilSpec)) collateNilUptoCard
end Rows
end Go.Proofs.YtllgleibhfpigaaGreatDoor
