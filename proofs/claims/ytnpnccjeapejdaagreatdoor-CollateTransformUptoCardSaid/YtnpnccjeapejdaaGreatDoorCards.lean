/-
  DERIVED. GIVEN WITH THE SEED: THE CARDS: each row of YtnpnccjeapejdaaGreatDoorRows.lean that lists a variable, with what it lists TIED to the program's text (the seventh form; the later family's looks); each row that meets fmt, with fmt's text TOLD by the authors' own Lean function (tested against real Go, not proved from fmt's source: count such statements apart). THE CARD IS WHAT COUNTS. Prove the row's statement (the work); the ties are given (YtnpnccjeapejdaaGreatDoorTie.lean); close each card by the builder's one call (the guide's Derived/Test/ToyasCard.lean, 'card_holds'). Laid BY PROGRAM, IN A SANDBOX (cutbox-door.mjs). By AI agents, Wed Nov 11 2026. No macro, syntax, notation, axiom, sorry.
-/
import Derived.Test.YtnpnccjeapejdaaGreatDoorRows
import GoSem.ClaimSeven
namespace Go.Proofs.YtnpnccjeapejdaaGreatDoor
namespace Rows

/-- THE TIED CARD OF 'milllaw5.CollateTransform'. -/
def collateTransformCard : Claim7 := { stood := { row := collateTransformRow, standIns := [], harness := (true, "0bc0a7519abb9ab4d6be332cf980f1ad97a4c17d6d69b6eac0fb88671bcf75fa"), looks := false }, kinds := [], alts := [], laidByText := true, laidKinds := [.data, .data, .data, .data, .data, .data, .pinned], laidTests := true, laidLooks := .later }
def CollateTransformCardSaid : Prop := Claim7.holds Tryz.pinned (.plain (OpenSpec.ofChange collateTransformSpec)) collateTransformCard

/-- THE TIED CARD OF 'milllaw5.CollateSettles'. -/
def collateSettlesCard : Claim7 := { stood := { row := collateSettlesRow, standIns := [], harness := (true, "0bc0a7519abb9ab4d6be332cf980f1ad97a4c17d6d69b6eac0fb88671bcf75fa"), looks := false }, kinds := [], alts := [], laidByText := true, laidKinds := [.data, .data, .data, .data, .data, .data, .pinned], laidTests := true, laidLooks := .later }
def CollateSettlesCardSaid : Prop := Claim7.holds Tryz.pinned (.plain (OpenSpec.ofChange collateSettlesSpec)) collateSettlesCard

/-- THE TIED CARD OF 'milllaw5.CollateSorts'. -/
def collateSortsCard : Claim7 := { stood := { row := collateSortsRow, standIns := [], harness := (true, "0bc0a7519abb9ab4d6be332cf980f1ad97a4c17d6d69b6eac0fb88671bcf75fa"), looks := false }, kinds := [], alts := [], laidByText := true, laidKinds := [.data, .data, .data, .data, .data, .data, .pinned], laidTests := true, laidLooks := .later }
def CollateSortsCardSaid : Prop := Claim7.holds Tryz.pinned (.plain (OpenSpec.ofChange collateSortsSpec)) collateSortsCard

/-- THE SECOND FORM's CARD OF 'milllaw5.CollateTransform'. -/
def collateTransformUptoCard : Claim7 := { stood := { row := collateTransformUptoRow, standIns := [], harness := (true, "0bc0a7519abb9ab4d6be332cf980f1ad97a4c17d6d69b6eac0fb88671bcf75fa"), looks := false }, kinds := [], alts := [], laidByText := true, laidKinds := [.data, .data, .data, .data, .data, .data, .pinned], laidTests := true, laidLooks := .later }
def CollateTransformUptoCardSaid : Prop := Claim7.holds Tryz.pinned (.plain (OpenSpec.upto collateTransformSpec)) collateTransformUptoCard

/-- THE SECOND FORM's CARD OF 'milllaw5.CollateSettles'. -/
def collateSettlesUptoCard : Claim7 := { stood := { row := collateSettlesUptoRow, standIns := [], harness := (true, "0bc0a7519abb9ab4d6be332cf980f1ad97a4c17d6d69b6eac0fb88671bcf75fa"), looks := false }, kinds := [], alts := [], laidByText := true, laidKinds := [.data, .data, .data, .data, .data, .data, .pinned], laidTests := true, laidLooks := .later }
def CollateSettlesUptoCardSaid : Prop := Claim7.holds Tryz.pinned (.plain (OpenSpec.upto collateSettlesSpec)) collateSettlesUptoCard

/-- THE SECOND FORM's CARD OF 'milllaw5.CollateSorts'. -/
def collateSortsUptoCard : Claim7 := { stood := { row := collateSortsUptoRow, standIns := [], harness := (true, "0bc0a7519abb9ab4d6be332cf980f1ad97a4c17d6d69b6eac0fb88671bcf75fa"), looks := false }, kinds := [], alts := [], laidByText := true, laidKinds := [.data, .data, .data, .data, .data, .data, .pinned], laidTests := true, laidLooks := .later }
def CollateSortsUptoCardSaid : Prop := Claim7.holds Tryz.pinned (.plain (OpenSpec.upto collateSortsSpec)) collateSortsUptoCard
end Rows
end Go.Proofs.YtnpnccjeapejdaaGreatDoor
