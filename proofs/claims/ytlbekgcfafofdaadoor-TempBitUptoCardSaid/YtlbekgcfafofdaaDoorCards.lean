/-
  DERIVED. GIVEN WITH THE SEED: THE CARDS: each row of YtlbekgcfafofdaaDoorRows.lean that lists a variable, with what it lists TIED to the program's text (the seventh form; the later family's looks); each row that meets fmt, with fmt's text TOLD by the authors' own Lean function (tested against real Go, not proved from fmt's source: count such statements apart). THE CARD IS WHAT COUNTS. Prove the row's statement (the work); the ties are given (YtlbekgcfafofdaaDoorTie.lean); close each card by the builder's one call (the guide's Derived/Test/ToyasCard.lean, 'card_holds'). Laid BY PROGRAM, IN A SANDBOX (cutbox-door.mjs). By AI agents, Wed Nov 11 2026. No macro, syntax, notation, axiom, sorry.
-/
import Derived.Test.YtlbekgcfafofdaaDoorRows
import GoSem.ClaimSeven
namespace Go.Proofs.YtlbekgcfafofdaaDoor
namespace Rows

/-- THE TIED CARD OF 'milllaw11.TempEncodes'. -/
def tempEncodesCard : Claim7 := { stood := { row := tempEncodesRow, standIns := [], harness := (true, "fe3a1fea45d9191ac612370e517f4010854317aa72dae471883a1f0aa1fb5b44"), looks := false }, kinds := [], alts := [], laidByText := true, laidKinds := [.data, .data], laidTests := true, laidLooks := .later }
def TempEncodesCardSaid : Prop := Claim7.holds Tryd.pinned (.plain (OpenSpec.ofChange tempEncodesSpec)) tempEncodesCard

/-- THE TIED CARD OF 'milllaw11.TempRound'. -/
def tempRoundCard : Claim7 := { stood := { row := tempRoundRow, standIns := [], harness := (true, "fe3a1fea45d9191ac612370e517f4010854317aa72dae471883a1f0aa1fb5b44"), looks := false }, kinds := [], alts := [], laidByText := true, laidKinds := [.data, .data], laidTests := true, laidLooks := .later }
def TempRoundCardSaid : Prop := Claim7.holds Tryd.pinned (.plain (OpenSpec.ofChange tempRoundSpec)) tempRoundCard

/-- THE TIED CARD OF 'milllaw11.TempTorn'. -/
def tempTornCard : Claim7 := { stood := { row := tempTornRow, standIns := [], harness := (true, "fe3a1fea45d9191ac612370e517f4010854317aa72dae471883a1f0aa1fb5b44"), looks := false }, kinds := [], alts := [], laidByText := true, laidKinds := [.data, .data], laidTests := true, laidLooks := .later }
def TempTornCardSaid : Prop := Claim7.holds Tryd.pinned (.plain (OpenSpec.ofChange tempTornSpec)) tempTornCard

/-- THE TIED CARD OF 'milllaw11.TempBit'. -/
def tempBitCard : Claim7 := { stood := { row := tempBitRow, standIns := [], harness := (true, "fe3a1fea45d9191ac612370e517f4010854317aa72dae471883a1f0aa1fb5b44"), looks := false }, kinds := [], alts := [], laidByText := true, laidKinds := [.data, .data], laidTests := true, laidLooks := .later }
def TempBitCardSaid : Prop := Claim7.holds Tryd.pinned (.plain (OpenSpec.ofChange tempBitSpec)) tempBitCard

/-- THE TIED CARD OF 'milllaw11.TempDecodes'. -/
def tempDecodesCard : Claim7 := { stood := { row := tempDecodesRow, standIns := [], harness := (true, "fe3a1fea45d9191ac612370e517f4010854317aa72dae471883a1f0aa1fb5b44"), looks := false }, kinds := [], alts := [], laidByText := true, laidKinds := [.data, .data], laidTests := true, laidLooks := .later }
def TempDecodesCardSaid : Prop := Claim7.holds Tryd.pinned (.plain (OpenSpec.ofChange tempDecodesSpec)) tempDecodesCard

/-- THE SECOND FORM's CARD OF 'milllaw11.TempEncodes'. -/
def tempEncodesUptoCard : Claim7 := { stood := { row := tempEncodesUptoRow, standIns := [], harness := (true, "fe3a1fea45d9191ac612370e517f4010854317aa72dae471883a1f0aa1fb5b44"), looks := false }, kinds := [], alts := [], laidByText := true, laidKinds := [.data, .data], laidTests := true, laidLooks := .later }
def TempEncodesUptoCardSaid : Prop := Claim7.holds Tryd.pinned (.plain (OpenSpec.upto tempEncodesSpec)) tempEncodesUptoCard

/-- THE SECOND FORM's CARD OF 'milllaw11.TempRound'. -/
def tempRoundUptoCard : Claim7 := { stood := { row := tempRoundUptoRow, standIns := [], harness := (true, "fe3a1fea45d9191ac612370e517f4010854317aa72dae471883a1f0aa1fb5b44"), looks := false }, kinds := [], alts := [], laidByText := true, laidKinds := [.data, .data], laidTests := true, laidLooks := .later }
def TempRoundUptoCardSaid : Prop := Claim7.holds Tryd.pinned (.plain (OpenSpec.upto tempRoundSpec)) tempRoundUptoCard

/-- THE SECOND FORM's CARD OF 'milllaw11.TempTorn'. -/
def tempTornUptoCard : Claim7 := { stood := { row := tempTornUptoRow, standIns := [], harness := (true, "fe3a1fea45d9191ac612370e517f4010854317aa72dae471883a1f0aa1fb5b44"), looks := false }, kinds := [], alts := [], laidByText := true, laidKinds := [.data, .data], laidTests := true, laidLooks := .later }
def TempTornUptoCardSaid : Prop := Claim7.holds Tryd.pinned (.plain (OpenSpec.upto tempTornSpec)) tempTornUptoCard

/-- THE SECOND FORM's CARD OF 'milllaw11.TempBit'. -/
def tempBitUptoCard : Claim7 := { stood := { row := tempBitUptoRow, standIns := [], harness := (true, "fe3a1fea45d9191ac612370e517f4010854317aa72dae471883a1f0aa1fb5b44"), looks := false }, kinds := [], alts := [], laidByText := true, laidKinds := [.data, .data], laidTests := true, laidLooks := .later }
def TempBitUptoCardSaid : Prop := Claim7.holds Tryd.pinned (.plain (OpenSpec.upto tempBitSpec)) tempBitUptoCard

/-- THE SECOND FORM's CARD OF 'milllaw11.TempDecodes'. -/
def tempDecodesUptoCard : Claim7 := { stood := { row := tempDecodesUptoRow, standIns := [], harness := (true, "fe3a1fea45d9191ac612370e517f4010854317aa72dae471883a1f0aa1fb5b44"), looks := false }, kinds := [], alts := [], laidByText := true, laidKinds := [.data, .data], laidTests := true, laidLooks := .later }
def TempDecodesUptoCardSaid : Prop := Claim7.holds Tryd.pinned (.plain (OpenSpec.upto tempDecodesSpec)) tempDecodesUptoCard
end Rows
end Go.Proofs.YtlbekgcfafofdaaDoor
