/-
  DERIVED. GIVEN WITH THE SEED: THE CARDS: each row of YtfbeipfpkikakaaDoorRows.lean that lists a variable, with what it lists TIED to the program's text (the seventh form; the later family's looks); each row that meets fmt, with fmt's text TOLD by the authors' own Lean function (tested against real Go, not proved from fmt's source: count such statements apart). THE CARD IS WHAT COUNTS. Prove the row's statement (the work); the ties are given (YtfbeipfpkikakaaDoorTie.lean); close each card by the builder's one call (the guide's Derived/Test/ToyasCard.lean, 'card_holds'). Laid BY PROGRAM, IN A SANDBOX (cutbox-door.mjs). By AI agents, Wed Nov 11 2026. No macro, syntax, notation, axiom, sorry.
-/
import Derived.Test.YtfbeipfpkikakaaDoorRows
import GoSem.ClaimSeven
namespace Go.Proofs.YtfbeipfpkikakaaDoor
namespace Rows

/-- THE TIED CARD OF 'milllaw6.SqueezeMore'. -/
def squeezeMoreCard : Claim7 := { stood := { row := squeezeMoreRow, standIns := [], harness := (true, "3eccf02ddab6699262378c892834b6e3df4e3efb89c28beed8d05d29109635c8"), looks := true }, kinds := [], alts := [], laidByText := true, laidKinds := [.data, .data], laidTests := true, laidLooks := .later }
def SqueezeMoreCardSaid : Prop := Claim7.holds Tryd.pinned (.plain (OpenSpec.ofChange squeezeMoreSpec)) squeezeMoreCard

/-- THE TIED CARD OF 'milllaw6.SqueezePrefix'. -/
def squeezePrefixCard : Claim7 := { stood := { row := squeezePrefixRow, standIns := [], harness := (true, "3eccf02ddab6699262378c892834b6e3df4e3efb89c28beed8d05d29109635c8"), looks := true }, kinds := [], alts := [], laidByText := true, laidKinds := [.data, .data], laidTests := true, laidLooks := .later }
def SqueezePrefixCardSaid : Prop := Claim7.holds Tryd.pinned (.plain (OpenSpec.ofChange squeezePrefixSpec)) squeezePrefixCard

/-- THE TIED CARD OF 'milllaw6.SqueezeSums'. -/
def squeezeSumsCard : Claim7 := { stood := { row := squeezeSumsRow, standIns := [], harness := (true, "3eccf02ddab6699262378c892834b6e3df4e3efb89c28beed8d05d29109635c8"), looks := true }, kinds := [], alts := [], laidByText := true, laidKinds := [.data, .data], laidTests := true, laidLooks := .later }
def SqueezeSumsCardSaid : Prop := Claim7.holds Tryd.pinned (.plain (OpenSpec.ofChange squeezeSumsSpec)) squeezeSumsCard

/-- THE TIED CARD OF 'milllaw6.SqueezeCodes'. -/
def squeezeCodesCard : Claim7 := { stood := { row := squeezeCodesRow, standIns := [], harness := (true, "3eccf02ddab6699262378c892834b6e3df4e3efb89c28beed8d05d29109635c8"), looks := true }, kinds := [], alts := [], laidByText := true, laidKinds := [.data, .data], laidTests := true, laidLooks := .later }
def SqueezeCodesCardSaid : Prop := Claim7.holds Tryd.pinned (.plain (OpenSpec.ofChange squeezeCodesSpec)) squeezeCodesCard

/-- THE TIED CARD OF 'milllaw6.SqueezeLooks'. -/
def squeezeLooksCard : Claim7 := { stood := { row := squeezeLooksRow, standIns := [], harness := (true, "3eccf02ddab6699262378c892834b6e3df4e3efb89c28beed8d05d29109635c8"), looks := true }, kinds := [], alts := [], laidByText := true, laidKinds := [.data, .data], laidTests := true, laidLooks := .later }
def SqueezeLooksCardSaid : Prop := Claim7.holds Tryd.pinned (.plain (OpenSpec.ofChange squeezeLooksSpec)) squeezeLooksCard

/-- THE TIED CARD OF 'milllaw6.SqueezeStores'. -/
def squeezeStoresCard : Claim7 := { stood := { row := squeezeStoresRow, standIns := [], harness := (true, "3eccf02ddab6699262378c892834b6e3df4e3efb89c28beed8d05d29109635c8"), looks := true }, kinds := [], alts := [], laidByText := true, laidKinds := [.data, .data], laidTests := true, laidLooks := .later }
def SqueezeStoresCardSaid : Prop := Claim7.holds Tryd.pinned (.plain (OpenSpec.ofChange squeezeStoresSpec)) squeezeStoresCard

/-- THE SECOND FORM's CARD OF 'milllaw6.SqueezeMore'. -/
def squeezeMoreUptoCard : Claim7 := { stood := { row := squeezeMoreUptoRow, standIns := [], harness := (true, "3eccf02ddab6699262378c892834b6e3df4e3efb89c28beed8d05d29109635c8"), looks := true }, kinds := [], alts := [], laidByText := true, laidKinds := [.data, .data], laidTests := true, laidLooks := .later }
def SqueezeMoreUptoCardSaid : Prop := Claim7.holds Tryd.pinned (.plain (OpenSpec.upto squeezeMoreSpec)) squeezeMoreUptoCard

/-- THE SECOND FORM's CARD OF 'milllaw6.SqueezePrefix'. -/
def squeezePrefixUptoCard : Claim7 := { stood := { row := squeezePrefixUptoRow, standIns := [], harness := (true, "3eccf02ddab6699262378c892834b6e3df4e3efb89c28beed8d05d29109635c8"), looks := true }, kinds := [], alts := [], laidByText := true, laidKinds := [.data, .data], laidTests := true, laidLooks := .later }
def SqueezePrefixUptoCardSaid : Prop := Claim7.holds Tryd.pinned (.plain (OpenSpec.upto squeezePrefixSpec)) squeezePrefixUptoCard

/-- THE SECOND FORM's CARD OF 'milllaw6.SqueezeSums'. -/
def squeezeSumsUptoCard : Claim7 := { stood := { row := squeezeSumsUptoRow, standIns := [], harness := (true, "3eccf02ddab6699262378c892834b6e3df4e3efb89c28beed8d05d29109635c8"), looks := true }, kinds := [], alts := [], laidByText := true, laidKinds := [.data, .data], laidTests := true, laidLooks := .later }
def SqueezeSumsUptoCardSaid : Prop := Claim7.holds Tryd.pinned (.plain (OpenSpec.upto squeezeSumsSpec)) squeezeSumsUptoCard

/-- THE SECOND FORM's CARD OF 'milllaw6.SqueezeCodes'. -/
def squeezeCodesUptoCard : Claim7 := { stood := { row := squeezeCodesUptoRow, standIns := [], harness := (true, "3eccf02ddab6699262378c892834b6e3df4e3efb89c28beed8d05d29109635c8"), looks := true }, kinds := [], alts := [], laidByText := true, laidKinds := [.data, .data], laidTests := true, laidLooks := .later }
def SqueezeCodesUptoCardSaid : Prop := Claim7.holds Tryd.pinned (.plain (OpenSpec.upto squeezeCodesSpec)) squeezeCodesUptoCard

/-- THE SECOND FORM's CARD OF 'milllaw6.SqueezeLooks'. -/
def squeezeLooksUptoCard : Claim7 := { stood := { row := squeezeLooksUptoRow, standIns := [], harness := (true, "3eccf02ddab6699262378c892834b6e3df4e3efb89c28beed8d05d29109635c8"), looks := true }, kinds := [], alts := [], laidByText := true, laidKinds := [.data, .data], laidTests := true, laidLooks := .later }
def SqueezeLooksUptoCardSaid : Prop := Claim7.holds Tryd.pinned (.plain (OpenSpec.upto squeezeLooksSpec)) squeezeLooksUptoCard

/-- THE SECOND FORM's CARD OF 'milllaw6.SqueezeStores'. -/
def squeezeStoresUptoCard : Claim7 := { stood := { row := squeezeStoresUptoRow, standIns := [], harness := (true, "3eccf02ddab6699262378c892834b6e3df4e3efb89c28beed8d05d29109635c8"), looks := true }, kinds := [], alts := [], laidByText := true, laidKinds := [.data, .data], laidTests := true, laidLooks := .later }
def SqueezeStoresUptoCardSaid : Prop := Claim7.holds Tryd.pinned (.plain (OpenSpec.upto squeezeStoresSpec)) squeezeStoresUptoCard
end Rows
end Go.Proofs.YtfbeipfpkikakaaDoor
