/-
  DERIVED. GIVEN WITH THE SEED: THE CARDS: each row of YtcpikfaofmlodaaGreatDoorRows.lean that lists a variable, with what it lists TIED to the program's text (the seventh form; the later family's looks); each row that meets fmt, with fmt's text TOLD by the authors' own Lean function (tested against real Go, not proved from fmt's source: count such statements apart). THE CARD IS WHAT COUNTS. Prove the row's statement (the work); the ties are given (YtcpikfaofmlodaaGreatDoorTie.lean); close each card by the builder's one call (the guide's Derived/Test/ToyasCard.lean, 'card_holds'). Laid BY PROGRAM, IN A SANDBOX (cutbox-door.mjs). By AI agents, Wed Nov 11 2026. No macro, syntax, notation, axiom, sorry.
-/
import Derived.Test.YtcpikfaofmlodaaGreatDoorRows
import GoSem.ClaimSeven
namespace Go.Proofs.YtcpikfaofmlodaaGreatDoor
namespace Rows

/-- THE TIED CARD OF 'milllaw7.SpillNothing'. -/
def spillNothingCard : Claim7 := { stood := { row := spillNothingRow, standIns := [], harness := (true, "6209ba99c9654c452d475ca509a8600d195a982f5637a14d6f969bd04ae28ce6"), looks := true }, kinds := [], alts := [], laidByText := true, laidKinds := [.data, .data], laidTests := true, laidLooks := .later }
def SpillNothingCardSaid : Prop := Claim7.holds Tryz.pinned (.plain (OpenSpec.ofChange spillNothingSpec)) spillNothingCard

/-- THE SECOND FORM's CARD OF 'milllaw7.SpillNothing'. -/
def spillNothingUptoCard : Claim7 := { stood := { row := spillNothingUptoRow, standIns := [], harness := (true, "6209ba99c9654c452d475ca509a8600d195a982f5637a14d6f969bd04ae28ce6"), looks := true }, kinds := [], alts := [], laidByText := true, laidKinds := [.data, .data], laidTests := true, laidLooks := .later }
def SpillNothingUptoCardSaid : Prop := Claim7.holds Tryz.pinned (.plain (OpenSpec.upto spillNothingSpec)) spillNothingUptoCard
end Rows
end Go.Proofs.YtcpikfaofmlodaaGreatDoor
