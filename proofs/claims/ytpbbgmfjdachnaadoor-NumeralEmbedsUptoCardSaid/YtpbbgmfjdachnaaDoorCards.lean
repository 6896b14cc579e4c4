/-
  DERIVED. GIVEN WITH THE SEED: THE CARDS: each row of YtpbbgmfjdachnaaDoorRows.lean that lists a variable, with what it lists TIED to the program's text (the seventh form; the later family's looks); each row that meets fmt, with fmt's text TOLD by the authors' own Lean function (tested against real Go, not proved from fmt's source: count such statements apart). THE CARD IS WHAT COUNTS. Prove the row's statement (the work); the ties are given (YtpbbgmfjdachnaaDoorTie.lean); close each card by the builder's one call (the guide's Derived/Test/ToyasCard.lean, 'card_holds'). Laid BY PROGRAM, IN A SANDBOX (cutbox-door.mjs). By AI agents, Wed Nov 11 2026. No macro, syntax, notation, axiom, sorry.
-/
import Derived.Test.YtpbbgmfjdachnaaDoorRows
import GoSem.ClaimSeven
namespace Go.Proofs.YtpbbgmfjdachnaaDoor
namespace Rows

/-- THE TIED CARD OF 'milllaw3.NumeralParts'. -/
def numeralPartsCard : Claim7 := { stood := { row := numeralPartsRow, standIns := [], harness := (true, "c21c785e8a461875b0d44559b991a219efff77dee325cfd0a0c0bcd6a8a64963"), looks := false }, kinds := [], alts := [], laidByText := true, laidKinds := [.data, .data, .pinned], laidTests := true, laidLooks := .later }
def NumeralPartsCardSaid : Prop := Claim7.holds Tryd.pinned (.plain (OpenSpec.ofChange numeralPartsSpec)) numeralPartsCard

/-- THE TIED CARD OF 'milllaw3.NumeralMonths'. -/
def numeralMonthsCard : Claim7 := { stood := { row := numeralMonthsRow, standIns := [], harness := (true, "c21c785e8a461875b0d44559b991a219efff77dee325cfd0a0c0bcd6a8a64963"), looks := false }, kinds := [], alts := [], laidByText := true, laidKinds := [.data, .data, .data, .data, .data, .pinned], laidTests := true, laidLooks := .later }
def NumeralMonthsCardSaid : Prop := Claim7.holds Tryd.pinned (.plain (OpenSpec.ofChange numeralMonthsSpec)) numeralMonthsCard

/-- THE TIED CARD OF 'milllaw3.NumeralPreorder'. -/
def numeralPreorderCard : Claim7 := { stood := { row := numeralPreorderRow, standIns := [], harness := (true, "c21c785e8a461875b0d44559b991a219efff77dee325cfd0a0c0bcd6a8a64963"), looks := false }, kinds := [], alts := [], laidByText := true, laidKinds := [.data, .data, .data, .data, .data, .pinned], laidTests := true, laidLooks := .later }
def NumeralPreorderCardSaid : Prop := Claim7.holds Tryd.pinned (.plain (OpenSpec.ofChange numeralPreorderSpec)) numeralPreorderCard

/-- THE TIED CARD OF 'milllaw3.NumeralWhole'. -/
def numeralWholeCard : Claim7 := { stood := { row := numeralWholeRow, standIns := [], harness := (true, "c21c785e8a461875b0d44559b991a219efff77dee325cfd0a0c0bcd6a8a64963"), looks := false }, kinds := [], alts := [], laidByText := true, laidKinds := [.data, .data, .data, .data, .data, .pinned], laidTests := true, laidLooks := .later }
def NumeralWholeCardSaid : Prop := Claim7.holds Tryd.pinned (.plain (OpenSpec.ofChange numeralWholeSpec)) numeralWholeCard

/-- THE TIED CARD OF 'milllaw3.NumeralScale'. -/
def numeralScaleCard : Claim7 := { stood := { row := numeralScaleRow, standIns := [], harness := (true, "c21c785e8a461875b0d44559b991a219efff77dee325cfd0a0c0bcd6a8a64963"), looks := false }, kinds := [], alts := [], laidByText := true, laidKinds := [.data, .data, .data, .data, .data, .pinned], laidTests := true, laidLooks := .later }
def NumeralScaleCardSaid : Prop := Claim7.holds Tryd.pinned (.plain (OpenSpec.ofChange numeralScaleSpec)) numeralScaleCard

/-- THE TIED CARD OF 'milllaw3.NumeralUnits'. -/
def numeralUnitsCard : Claim7 := { stood := { row := numeralUnitsRow, standIns := [], harness := (true, "c21c785e8a461875b0d44559b991a219efff77dee325cfd0a0c0bcd6a8a64963"), looks := false }, kinds := [], alts := [], laidByText := true, laidKinds := [.data, .data, .data, .data, .data, .pinned], laidTests := true, laidLooks := .later }
def NumeralUnitsCardSaid : Prop := Claim7.holds Tryd.pinned (.plain (OpenSpec.ofChange numeralUnitsSpec)) numeralUnitsCard

/-- THE TIED CARD OF 'milllaw3.NumeralVersions'. -/
def numeralVersionsCard : Claim7 := { stood := { row := numeralVersionsRow, standIns := [], harness := (true, "c21c785e8a461875b0d44559b991a219efff77dee325cfd0a0c0bcd6a8a64963"), looks := false }, kinds := [], alts := [], laidByText := true, laidKinds := [.data, .data, .data, .data, .data, .pinned], laidTests := true, laidLooks := .later }
def NumeralVersionsCardSaid : Prop := Claim7.holds Tryd.pinned (.plain (OpenSpec.ofChange numeralVersionsSpec)) numeralVersionsCard

/-- THE TIED CARD OF 'milllaw3.NumeralEmbedding'. -/
def numeralEmbeddingCard : Claim7 := { stood := { row := numeralEmbeddingRow, standIns := [], harness := (true, "c21c785e8a461875b0d44559b991a219efff77dee325cfd0a0c0bcd6a8a64963"), looks := false }, kinds := [], alts := [], laidByText := true, laidKinds := [.data, .data, .data, .data, .data, .pinned], laidTests := true, laidLooks := .later }
def NumeralEmbeddingCardSaid : Prop := Claim7.holds Tryd.pinned (.plain (OpenSpec.ofChange numeralEmbeddingSpec)) numeralEmbeddingCard

/-- THE TIED CARD OF 'milllaw3.NumeralGenerals'. -/
def numeralGeneralsCard : Claim7 := { stood := { row := numeralGeneralsRow, standIns := [], harness := (true, "c21c785e8a461875b0d44559b991a219efff77dee325cfd0a0c0bcd6a8a64963"), looks := false }, kinds := [], alts := [], laidByText := true, laidKinds := [.data, .data, .data, .data, .data, .pinned], laidTests := true, laidLooks := .later }
def NumeralGeneralsCardSaid : Prop := Claim7.holds Tryd.pinned (.plain (OpenSpec.ofChange numeralGeneralsSpec)) numeralGeneralsCard

/-- THE TIED CARD OF 'milllaw3.NumeralDecimals'. -/
def numeralDecimalsCard : Claim7 := { stood := { row := numeralDecimalsRow, standIns := [], harness := (true, "c21c785e8a461875b0d44559b991a219efff77dee325cfd0a0c0bcd6a8a64963"), looks := false }, kinds := [], alts := [], laidByText := true, laidKinds := [.data, .data, .data, .data, .data, .pinned], laidTests := true, laidLooks := .later }
def NumeralDecimalsCardSaid : Prop := Claim7.holds Tryd.pinned (.plain (OpenSpec.ofChange numeralDecimalsSpec)) numeralDecimalsCard

/-- THE TIED CARD OF 'milllaw3.NumeralEmbeds'. -/
def numeralEmbedsCard : Claim7 := { stood := { row := numeralEmbedsRow, standIns := [], harness := (true, "c21c785e8a461875b0d44559b991a219efff77dee325cfd0a0c0bcd6a8a64963"), looks := false }, kinds := [], alts := [], laidByText := true, laidKinds := [.data, .data, .data, .data, .data, .pinned], laidTests := true, laidLooks := .later }
def NumeralEmbedsCardSaid : Prop := Claim7.holds Tryd.pinned (.plain (OpenSpec.ofChange numeralEmbedsSpec)) numeralEmbedsCard

/-- THE TIED CARD OF 'milllaw3.NumeralCompares'. -/
def numeralComparesCard : Claim7 := { stood := { row := numeralComparesRow, standIns := [], harness := (true, "c21c785e8a461875b0d44559b991a219efff77dee325cfd0a0c0bcd6a8a64963"), looks := false }, kinds := [], alts := [], laidByText := true, laidKinds := [.data, .data, .data, .data, .data, .pinned], laidTests := true, laidLooks := .later }
def NumeralComparesCardSaid : Prop := Claim7.holds Tryd.pinned (.plain (OpenSpec.ofChange numeralComparesSpec)) numeralComparesCard

/-- THE SECOND FORM's CARD OF 'milllaw3.NumeralParts'. -/
def numeralPartsUptoCard : Claim7 := { stood := { row := numeralPartsUptoRow, standIns := [], harness := (true, "c21c785e8a461875b0d44559b991a219efff77dee325cfd0a0c0bcd6a8a64963"), looks := false }, kinds := [], alts := [], laidByText := true, laidKinds := [.data, .data, .pinned], laidTests := true, laidLooks := .later }
def NumeralPartsUptoCardSaid : Prop := Claim7.holds Tryd.pinned (.plain (OpenSpec.upto numeralPartsSpec)) numeralPartsUptoCard

/-- THE SECOND FORM's CARD OF 'milllaw3.NumeralMonths'. -/
def numeralMonthsUptoCard : Claim7 := { stood := { row := numeralMonthsUptoRow, standIns := [], harness := (true, "c21c785e8a461875b0d44559b991a219efff77dee325cfd0a0c0bcd6a8a64963"), looks := false }, kinds := [], alts := [], laidByText := true, laidKinds := [.data, .data, .data, .data, .data, .pinned], laidTests := true, laidLooks := .later }
def NumeralMonthsUptoCardSaid : Prop := Claim7.holds Tryd.pinned (.plain (OpenSpec.upto numeralMonthsSpec)) numeralMonthsUptoCard

/-- THE SECOND FORM's CARD OF 'milllaw3.NumeralPreorder'. -/
def numeralPreorderUptoCard : Claim7 := { stood := { row := numeralPreorderUptoRow, standIns := [], harness := (true, "c21c785e8a461875b0d44559b991a219efff77dee325cfd0a0c0bcd6a8a64963"), looks := false }, kinds := [], alts := [], laidByText := true, laidKinds := [.data, .data, .data, .data, .data, .pinned], laidTests := true, laidLooks := .later }
def NumeralPreorderUptoCardSaid : Prop := Claim7.holds Tryd.pinned (.plain (OpenSpec.upto numeralPreorderSpec)) numeralPreorderUptoCard

/-- THE SECOND FORM's CARD OF 'milllaw3.NumeralWhole'. -/
def numeralWholeUptoCard : Claim7 := { stood := { row := numeralWholeUptoRow, standIns := [], harness := (true, "c21c785e8a461875b0d44559b991a219efff77dee325cfd0a0c0bcd6a8a64963"), looks := false }, kinds := [], alts := [], laidByText := true, laidKinds := [.data, .data, .data, .data, .data, .pinned], laidTests := true, laidLooks := .later }
def NumeralWholeUptoCardSaid : Prop := Claim7.holds Tryd.pinned (.plain (OpenSpec.upto numeralWholeSpec)) numeralWholeUptoCard

/-- THE SECOND FORM's CARD OF 'milllaw3.NumeralScale'. -/
def numeralScaleUptoCard : Claim7 := { stood := { row := numeralScaleUptoRow, standIns := [], harness := (true, "c21c785e8a461875b0d44559b991a219efff77dee325cfd0a0c0bcd6a8a64963"), looks := false }, kinds := [], alts := [], laidByText := true, laidKinds := [.data, .data, .data, .data, .data, .pinned], laidTests := true, laidLooks := .later }
def NumeralScaleUptoCardSaid : Prop := Claim7.holds Tryd.pinned (.plain (OpenSpec.upto numeralScaleSpec)) numeralScaleUptoCard

/-- THE SECOND FORM's CARD OF 'milllaw3.NumeralUnits'. -/
def numeralUnitsUptoCard : Claim7 := { stood := { row := numeralUnitsUptoRow, standIns := [], harness := (true, "c21c785e8a461875b0d44559b991a219efff77dee325cfd0a0c0bcd6a8a64963"), looks := false }, kinds := [], alts := [], laidByText := true, laidKinds := [.data, .data, .data, .data, .data, .pinned], laidTests := true, laidLooks := .later }
def NumeralUnitsUptoCardSaid : Prop := Claim7.holds Tryd.pinned (.plain (OpenSpec.upto numeralUnitsSpec)) numeralUnitsUptoCard

/-- THE SECOND FORM's CARD OF 'milllaw3.NumeralVersions'. -/
def numeralVersionsUptoCard : Claim7 := { stood := { row := numeralVersionsUptoRow, standIns := [], harness := (true, "c21c785e8a461875b0d44559b991a219efff77dee325cfd0a0c0bcd6a8a64963"), looks := false }, kinds := [], alts := [], laidByText := true, laidKinds := [.data, .data, .data, .data, .data, .pinned], laidTests := true, laidLooks := .later }
def NumeralVersionsUptoCardSaid : Prop := Claim7.holds Tryd.pinned (.plain (OpenSpec.upto numeralVersionsSpec)) numeralVersionsUptoCard

/-- THE SECOND FORM's CARD OF 'milllaw3.NumeralEmbedding'. -/
def numeralEmbeddingUptoCard : Claim7 := { stood := { row := numeralEmbeddingUptoRow, standIns := [], harness := (true, "c21c785e8a461875b0d44559b991a219efff77dee325cfd0a0c0bcd6a8a64963"), looks := false }, kinds := [], alts := [], laidByText := true, laidKinds := [.data, .data, .data, .data, .data, .pinned], laidTests := true, laidLooks := .later }
def NumeralEmbeddingUptoCardSaid : Prop := Claim7.holds Tryd.pinned (.plain (OpenSpec.upto numeralEmbeddingSpec)) numeralEmbeddingUptoCard

/-- THE SECOND FORM's CARD OF 'milllaw3.NumeralGenerals'. -/
def numeralGeneralsUptoCard : Claim7 := { stood := { row := numeralGeneralsUptoRow, standIns := [], harness := (true, "c21c785e8a461875b0d44559b991a219efff77dee325cfd0a0c0bcd6a8a64963"), looks := false }, kinds := [], alts := [], laidByText := true, laidKinds := [.data, .data, .data, .data, .data, .pinned], laidTests := true, laidLooks := .later }
def NumeralGeneralsUptoCardSaid : Prop := Claim7.holds Tryd.pinned (.plain (OpenSpec.upto numeralGeneralsSpec)) numeralGeneralsUptoCard

/-- THE SECOND FORM's CARD OF 'milllaw3.NumeralDecimals'. -/
def numeralDecimalsUptoCard : Claim7 := { stood := { row := numeralDecimalsUptoRow, standIns := [], harness := (true, "c21c785e8a461875b0d44559b991a219efff77dee325cfd0a0c0bcd6a8a64963"), looks := false }, kinds := [], alts := [], laidByText := true, laidKinds := [.data, .data, .data, .data, .data, .pinned], laidTests := true, laidLooks := .later }
def NumeralDecimalsUptoCardSaid : Prop := Claim7.holds Tryd.pinned (.plain (OpenSpec.upto numeralDecimalsSpec)) numeralDecimalsUptoCard

/-- THE SECOND FORM's CARD OF 'milllaw3.NumeralEmbeds'. -/
def numeralEmbedsUptoCard : Claim7 := { stood := { row := numeralEmbedsUptoRow, standIns := [], harness := (true, "c21c785e8a461875b0d44559b991a219efff77dee325cfd0a0c0bcd6a8a64963"), looks := false }, kinds := [], alts := [], laidByText := true, laidKinds := [.data, .data, .data, .data, .data, .pinned], laidTests := true, laidLooks := .later }
def NumeralEmbedsUptoCardSaid : Prop := Claim7.holds Tryd.pinned (.plain (OpenSpec.upto numeralEmbedsSpec)) numeralEmbedsUptoCard

/-- THE SECOND FORM's CARD OF 'milllaw3.NumeralCompares'. -/
def numeralComparesUptoCard : Claim7 := { stood := { row := numeralComparesUptoRow, standIns := [], harness := (true, "c21c785e8a461875b0d44559b991a219efff77dee325cfd0a0c0bcd6a8a64963"), looks := false }, kinds := [], alts := [], laidByText := true, laidKinds := [.data, .data, .data, .data, .data, .pinned], laidTests := true, laidLooks := .later }
def NumeralComparesUptoCardSaid : Prop := Claim7.holds Tryd.pinned (.plain (OpenSpec.upto numeralComparesSpec)) numeralComparesUptoCard
end Rows
end Go.Proofs.YtpbbgmfjdachnaaDoor
