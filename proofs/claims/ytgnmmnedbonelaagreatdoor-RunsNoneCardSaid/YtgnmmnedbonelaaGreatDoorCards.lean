/-
  DERIVED. GIVEN WITH THE SEED: THE CARDS: each row of YtgnmmnedbonelaaGreatDoorRows.lean that lists a variable, with what it lists TIED to the program's text (the seventh form; the later family's looks); each row that meets fmt, with fmt's text TOLD by the authors' own Lean function (tested against real Go, not proved from fmt's source: count such statements apart). THE CARD IS WHAT COUNTS. Prove the row's statement (the work); the ties are given (YtgnmmnedbonelaaGreatDoorTie.lean); close each card by the builder's one call (the guide's Derived/Test/ToyasCard.lean, 'card_holds'). Laid BY PROGRAM, IN A SANDBOX (cutbox-door.mjs). By AI agents, Wed Nov 11 2026. No macro, syntax, notation, axiom, sorry.
-/
import Derived.Test.YtgnmmnedbonelaaGreatDoorRows
import GoSem.ClaimSeven
namespace Go.Proofs.YtgnmmnedbonelaaGreatDoor
namespace Rows

/-- THE TIED CARD OF 'milllaw8.RunsNone'. -/
def runsNoneCard : Claim7 := { stood := { row := runsNoneRow, standIns := [], harness := (true, "cd65c2a1ee72ff3bebaf3648f83923496b69513b34ec9399c545533e9931c8ca"), looks := false }, kinds := [], alts := [], goes := true, laidByText := true, laidKinds := [.data], laidTests := true, laidLooks := .later }
def RunsNoneCardSaid : Prop := Claim7.holds Tryz.pinned (.plain (OpenSpec.ofChange runsNoneSpec)) runsNoneCard

/-- THE SECOND FORM's CARD OF 'milllaw8.RunsNone'. -/
def runsNoneUptoCard : Claim7 := { stood := { row := runsNoneUptoRow, standIns := [], harness := (true, "cd65c2a1ee72ff3bebaf3648f83923496b69513b34ec9399c545533e9931c8ca"), looks := false }, kinds := [], alts := [], goes := true, laidByText := true, laidKinds := [.data], laidTests := true, laidLooks := .later }
def RunsNoneUptoCardSaid : Prop := Claim7.holds Tryz.pinned (.plain (OpenSpec.upto runsNoneSpec)) runsNoneUptoCard
end Rows
end Go.Proofs.YtgnmmnedbonelaaGreatDoor
