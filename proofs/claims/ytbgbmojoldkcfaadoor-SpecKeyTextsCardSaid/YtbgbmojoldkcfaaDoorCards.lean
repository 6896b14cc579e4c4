/-
  DERIVED. GIVEN WITH THE SEED: THE CARDS: each row of YtbgbmojoldkcfaaDoorRows.lean that lists a variable, with what it lists TIED to the program's text (the seventh form; the later family's looks); each row that meets fmt, with fmt's text TOLD by the authors' own Lean function (tested against real Go, not proved from fmt's source: count such statements apart). THE CARD IS WHAT COUNTS. Prove the row's statement (the work); the ties are given (YtbgbmojoldkcfaaDoorTie.lean); close each card by the builder's one call (the guide's Derived/Test/ToyasCard.lean, 'card_holds'). Laid BY PROGRAM, IN A SANDBOX (cutbox-door.mjs). By AI agents, Wed Nov 11 2026. No macro, syntax, notation, axiom, sorry.
-/
import Derived.Test.YtbgbmojoldkcfaaDoorRows
import GoSem.ClaimSeven
namespace Go.Proofs.YtbgbmojoldkcfaaDoor
namespace Rows

/-- THE TIED CARD OF 'milllaw4.SpecNames'. -/
def specNamesCard : Claim7 := { stood := { row := specNamesRow, standIns := [], harness := (true, "9f65692af8667592b4e507625cd9745e1665bcfea318e626d8a186a96a774e69"), looks := false }, kinds := [], alts := [], laidByText := true, laidKinds := [.data, .data], laidTests := true, laidLooks := .later }
def SpecNamesCardSaid : Prop := Claim7.holds Tryd.pinned (.plain (OpenSpec.ofChange specNamesSpec)) specNamesCard

/-- THE TIED CARD OF 'milllaw4.SpecKeys'. -/
def specKeysCard : Claim7 := { stood := { row := specKeysRow, standIns := [], harness := (true, "9f65692af8667592b4e507625cd9745e1665bcfea318e626d8a186a96a774e69"), looks := false }, kinds := [], alts := [], laidByText := true, laidKinds := [.data], laidTests := true, laidLooks := .later }
def SpecKeysCardSaid : Prop := Claim7.holds Tryd.pinned (.plain (OpenSpec.ofChange specKeysSpec)) specKeysCard

/-- THE TIED CARD OF 'milllaw4.SpecKeyTexts'. -/
def specKeyTextsCard : Claim7 := { stood := { row := specKeyTextsRow, standIns := [], harness := (true, "9f65692af8667592b4e507625cd9745e1665bcfea318e626d8a186a96a774e69"), looks := false }, kinds := [], alts := [], laidByText := true, laidKinds := [.data, .data, .data, .data], laidTests := true, laidLooks := .later }
def SpecKeyTextsCardSaid : Prop := Claim7.holds Tryd.pinned (.plain (OpenSpec.ofChange specKeyTextsSpec)) specKeyTextsCard

/-- THE SECOND FORM's CARD OF 'milllaw4.SpecNames'. -/
def specNamesUptoCard : Claim7 := { stood := { row := specNamesUptoRow, standIns := [], harness := (true, "9f65692af8667592b4e507625cd9745e1665bcfea318e626d8a186a96a774e69"), looks := false }, kinds := [], alts := [], laidByText := true, laidKinds := [.data, .data], laidTests := true, laidLooks := .later }
def SpecNamesUptoCardSaid : Prop := Claim7.holds Tryd.pinned (.plain (OpenSpec.upto specNamesSpec)) specNamesUptoCard

/-- THE SECOND FORM's CARD OF 'milllaw4.SpecKeys'. -/
def specKeysUptoCard : Claim7 := { stood := { row := specKeysUptoRow, standIns := [], harness := (true, "9f65692af8667592b4e507625cd9745e1665bcfea318e626d8a186a96a774e69"), looks := false }, kinds := [], alts := [], laidByText := true, laidKinds := [.data], laidTests := true, laidLooks := .later }
def SpecKeysUptoCardSaid : Prop := Claim7.holds Tryd.pinned (.plain (OpenSpec.upto specKeysSpec)) specKeysUptoCard

/-- THE SECOND FORM's CARD OF 'milllaw4.SpecKeyTexts'. -/
def specKeyTextsUptoCard : Claim7 := { stood := { row := specKeyTextsUptoRow, standIns := [], harness := (true, "9f65692af8667592b4e507625cd9745e1665bcfea318e626d8a186a96a774e69"), looks := false }, kinds := [], alts := [], laidByText := true, laidKinds := [.data, .data, .data, .data], laidTests := true, laidLooks := .later }
def SpecKeyTextsUptoCardSaid : Prop := Claim7.holds Tryd.pinned (.plain (OpenSpec.upto specKeyTextsSpec)) specKeyTextsUptoCard
end Rows
end Go.Proofs.YtbgbmojoldkcfaaDoor
