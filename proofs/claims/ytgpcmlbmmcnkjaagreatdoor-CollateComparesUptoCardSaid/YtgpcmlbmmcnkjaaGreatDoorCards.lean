/-
  DERIVED. GIVEN WITH THE SEED: THE CARDS: each row of YtgpcmlbmmcnkjaaGreatDoorRows.lean that lists a variable, with what it lists TIED to the program's text (the seventh form; the later family's looks); each row that meets fmt, with fmt's text TOLD by the authors' own Lean function (tested against real Go, not proved from fmt's source: count such statements apart). THE CARD IS WHAT COUNTS. Prove the row's statement (the work); the ties are given (YtgpcmlbmmcnkjaaGreatDoorTie.lean); close each card by the builder's one call (the guide's Derived/Test/ToyasCard.lean, 'card_holds'). Laid BY PROGRAM, IN A SANDBOX (cutbox-door.mjs). By AI agents, Wed Nov 11 2026. No macro, syntax, notation, axiom, sorry.
-/
import Derived.Test.YtgpcmlbmmcnkjaaGreatDoorRows
import GoSem.ClaimSeven
namespace Go.Proofs.YtgpcmlbmmcnkjaaGreatDoor
namespace Rows

/-- THE TIED CARD OF 'milllaw5.CollateTotal'. -/
def collateTotalCard : Claim7 := { stood := { row := collateTotalRow, standIns := [], harness := (true, "1d484958d446cb4442d82143c3a2b7f31475ce427949110a05f82c61d1290f8f"), looks := false }, kinds := [], alts := [], laidByText := true, laidKinds := [.data, .data, .data, .data, .data, .data, .pinned], laidTests := true, laidLooks := .later }
def CollateTotalCardSaid : Prop := Claim7.holds Tryz.pinned (.plain (OpenSpec.ofChange collateTotalSpec)) collateTotalCard

/-- THE TIED CARD OF 'milllaw5.CollateWhole'. -/
def collateWholeCard : Claim7 := { stood := { row := collateWholeRow, standIns := [], harness := (true, "1d484958d446cb4442d82143c3a2b7f31475ce427949110a05f82c61d1290f8f"), looks := false }, kinds := [], alts := [], laidByText := true, laidKinds := [.data, .data, .data, .data, .data, .data, .pinned], laidTests := true, laidLooks := .later }
def CollateWholeCardSaid : Prop := Claim7.holds Tryz.pinned (.plain (OpenSpec.ofChange collateWholeSpec)) collateWholeCard

/-- THE TIED CARD OF 'milllaw5.CollateTurned'. -/
def collateTurnedCard : Claim7 := { stood := { row := collateTurnedRow, standIns := [], harness := (true, "1d484958d446cb4442d82143c3a2b7f31475ce427949110a05f82c61d1290f8f"), looks := false }, kinds := [], alts := [], laidByText := true, laidKinds := [.data, .data, .data, .data, .data, .data, .pinned], laidTests := true, laidLooks := .later }
def CollateTurnedCardSaid : Prop := Claim7.holds Tryz.pinned (.plain (OpenSpec.ofChange collateTurnedSpec)) collateTurnedCard

/-- THE TIED CARD OF 'milllaw5.CollateNews'. -/
def collateNewsCard : Claim7 := { stood := { row := collateNewsRow, standIns := [], harness := (true, "1d484958d446cb4442d82143c3a2b7f31475ce427949110a05f82c61d1290f8f"), looks := false }, kinds := [], alts := [], laidByText := true, laidKinds := [.data, .data, .data, .data, .data, .data, .pinned], laidTests := true, laidLooks := .later }
def CollateNewsCardSaid : Prop := Claim7.holds Tryz.pinned (.plain (OpenSpec.ofChange collateNewsSpec)) collateNewsCard

/-- THE TIED CARD OF 'milllaw5.CollateBlind'. -/
def collateBlindCard : Claim7 := { stood := { row := collateBlindRow, standIns := [], harness := (true, "1d484958d446cb4442d82143c3a2b7f31475ce427949110a05f82c61d1290f8f"), looks := false }, kinds := [], alts := [], laidByText := true, laidKinds := [.data, .data, .data, .data, .data, .data, .pinned], laidTests := true, laidLooks := .later }
def CollateBlindCardSaid : Prop := Claim7.holds Tryz.pinned (.plain (OpenSpec.ofChange collateBlindSpec)) collateBlindCard

/-- THE TIED CARD OF 'milllaw5.CollateSpans'. -/
def collateSpansCard : Claim7 := { stood := { row := collateSpansRow, standIns := [], harness := (true, "1d484958d446cb4442d82143c3a2b7f31475ce427949110a05f82c61d1290f8f"), looks := false }, kinds := [], alts := [], laidByText := true, laidKinds := [.data, .data, .data, .data, .data, .data, .pinned], laidTests := true, laidLooks := .later }
def CollateSpansCardSaid : Prop := Claim7.holds Tryz.pinned (.plain (OpenSpec.ofChange collateSpansSpec)) collateSpansCard

/-- THE TIED CARD OF 'milllaw5.CollateCompares'. -/
def collateComparesCard : Claim7 := { stood := { row := collateComparesRow, standIns := [], harness := (true, "1d484958d446cb4442d82143c3a2b7f31475ce427949110a05f82c61d1290f8f"), looks := false }, kinds := [], alts := [], laidByText := true, laidKinds := [.data, .data, .data, .data, .data, .data, .pinned], laidTests := true, laidLooks := .later }
def CollateComparesCardSaid : Prop := Claim7.holds Tryz.pinned (.plain (OpenSpec.ofChange collateComparesSpec)) collateComparesCard

/-- THE SECOND FORM's CARD OF 'milllaw5.CollateTotal'. -/
def collateTotalUptoCard : Claim7 := { stood := { row := collateTotalUptoRow, standIns := [], harness := (true, "1d484958d446cb4442d82143c3a2b7f31475ce427949110a05f82c61d1290f8f"), looks := false }, kinds := [], alts := [], laidByText := true, laidKinds := [.data, .data, .data, .data, .data, .data, .pinned], laidTests := true, laidLooks := .later }
def CollateTotalUptoCardSaid : Prop := Claim7.holds Tryz.pinned (.plain (OpenSpec.upto collateTotalSpec)) collateTotalUptoCard

/-- THE SECOND FORM's CARD OF 'milllaw5.CollateWhole'. -/
def collateWholeUptoCard : Claim7 := { stood := { row := collateWholeUptoRow, standIns := [], harness := (true, "1d484958d446cb4442d82143c3a2b7f31475ce427949110a05f82c61d1290f8f"), looks := false }, kinds := [], alts := [], laidByText := true, laidKinds := [.data, .data, .data, .data, .data, .data, .pinned], laidTests := true, laidLooks := .later }
def CollateWholeUptoCardSaid : Prop := Claim7.holds Tryz.pinned (.plain (OpenSpec.upto collateWholeSpec)) collateWholeUptoCard

/-- THE SECOND FORM's CARD OF 'milllaw5.CollateTurned'. -/
def collateTurnedUptoCard : Claim7 := { stood := { row := collateTurnedUptoRow, standIns := [], harness := (true, "1d484958d446cb4442d82143c3a2b7f31475ce427949110a05f82c61d1290f8f"), looks := false }, kinds := [], alts := [], laidByText := true, laidKinds := [.data, .data, .data, .data, .data, .data, .pinned], laidTests := true, laidLooks := .later }
def CollateTurnedUptoCardSaid : Prop := Claim7.holds Tryz.pinned (.plain (OpenSpec.upto collateTurnedSpec)) collateTurnedUptoCard

/-- THE SECOND FORM's CARD OF 'milllaw5.CollateNews'. -/
def collateNewsUptoCard : Claim7 := { stood := { row := collateNewsUptoRow, standIns := [], harness := (true, "1d484958d446cb4442d82143c3a2b7f31475ce427949110a05f82c61d1290f8f"), looks := false }, kinds := [], alts := [], laidByText := true, laidKinds := [.data, .data, .data, .data, .data, .data, .pinned], laidTests := true, laidLooks := .later }
def CollateNewsUptoCardSaid : Prop := Claim7.holds Tryz.pinned (.plain (OpenSpec.upto collateNewsSpec)) collateNewsUptoCard

/-- THE SECOND FORM's CARD OF 'milllaw5.CollateBlind'. -/
def collateBlindUptoCard : Claim7 := { stood := { row := collateBlindUptoRow, standIns := [], harness := (true, "1d484958d446cb4442d82143c3a2b7f31475ce427949110a05f82c61d1290f8f"), looks := false }, kinds := [], alts := [], laidByText := true, laidKinds := [.data, .data, .data, .data, .data, .data, .pinned], laidTests := true, laidLooks := .later }
def CollateBlindUptoCardSaid : Prop := Claim7.holds Tryz.pinned (.plain (OpenSpec.upto collateBlindSpec)) collateBlindUptoCard

/-- THE SECOND FORM's CARD OF 'milllaw5.CollateSpans'. -/
def collateSpansUptoCard : Claim7 := { stood := { row := collateSpansUptoRow, standIns := [], harness := (true, "1d484958d446cb4442d82143c3a2b7f31475ce427949110a05f82c61d1290f8f"), looks := false }, kinds := [], alts := [], laidByText := true, laidKinds := [.data, .data, .data, .data, .data, .data, .pinned], laidTests := true, laidLooks := .later }
def CollateSpansUptoCardSaid : Prop := Claim7.holds Tryz.pinned (.plain (OpenSpec.upto collateSpansSpec)) collateSpansUptoCard

/-- THE SECOND FORM's CARD OF 'milllaw5.CollateCompares'. -/
def collateComparesUptoCard : Claim7 := { stood := { row := collateComparesUptoRow, standIns := [], harness := (true, "1d484958d446cb4442d82143c3a2b7f31475ce427949110a05f82c61d1290f8f"), looks := false }, kinds := [], alts := [], laidByText := true, laidKinds := [.data, .data, .data, .data, .data, .data, .pinned], laidTests := true, laidLooks := .later }
def CollateComparesUptoCardSaid : Prop := Claim7.holds Tryz.pinned (.plain (OpenSpec.upto collateComparesSpec)) collateComparesUptoCard
end Rows
end Go.Proofs.YtgpcmlbmmcnkjaaGreatDoor
