/-
  NARROWER THAN 'FOR EVERY INPUT', by the rows' own cells (each row's printed sentence says how): TempEncodes: laid · TempRound: laid · TempTorn: laid · TempBit: laid · TempDecodes: laid.
  DERIVED. THE GIVEN ROWS OF THIS SEAT. 5 by the template 'for every input the law returns true; each argument reads behind the call as it read before'; 0 by the template 'total and deterministic' (their statements: YtlbekgcfafofdaaDoorTotals.lean).
  GIVEN WITH THE SEED: the statements are not yours to turn. If you find one false, say at which input.
  Laid BY PROGRAM, IN A SANDBOX (cutbox-rows.mjs): the forced cells as the released guide's own fill.sh prints them over the translation 53da1b8f57dcc9ed… (all of the seat's roots in one cut). By AI agents, Wed Nov 11 2026. No macro, syntax, notation, axiom, sorry.
-/
import Derived.Test.YtlbekgcfafofdaaDoorChecked
import GoSem.Claim
import GoSem.ClaimJoined
import GoSem.ClaimMapViews
import Derived.JoinedTies
import Derived.KernelRfl
namespace Go.Proofs.YtlbekgcfafofdaaDoor
/- THE CELL 'sum', in the pinned program and in every row, IS THE sha256 OF THE DUMP (.gsa) THAT YtlbekgcfafofdaaDoorProg.lean LOADS. Nothing in Lean hashes anything: it is a label: what it is worth is what the hold of that sum in a sandbox is worth. -/
noncomputable def Tryd.pinned : Pinned := { name := "ytlbekgcfafofdaadoor", sum := "53da1b8f57dcc9ed7c7cd1589d6c31b2f21d7fd865e276df1e8d0d5729474cee", checked := Tryd.checked }
namespace Rows
def none {H : Type} : Left H := { results := [], args := [] }

/- WHAT THE LISTED PACKAGE-LEVEL VARIABLES READ AS WHEN THE CALL BEGINS. Each datum BY PROGRAM (the guide's laid-datum.mjs) off the statement by which the dump's own 'gosem.cut.vars' lays the variable. In a bare row this is a premise. The card (YtlbekgcfafofdaaDoorCards.lean) ties it to the program's text. -/
def laid_mill_squeeze_sumSteps {H : Type} : DataW H := .agg [.lit (.int .u32 0), .lit (.int .u32 498536548), .lit (.int .u32 997073096), .lit (.int .u32 651767980), .lit (.int .u32 1994146192), .lit (.int .u32 1802195444), .lit (.int .u32 1303535960), .lit (.int .u32 1342533948), .lit (.int .u32 3988292384), .lit (.int .u32 4027552580), .lit (.int .u32 3604390888), .lit (.int .u32 3412177804), .lit (.int .u32 2607071920), .lit (.int .u32 2262029012), .lit (.int .u32 2685067896), .lit (.int .u32 3183342108)]
def laid_mill_temps_uses {H : Type} : DataW H := .agg [.lit (.int .u8 0), .lit (.int .u8 1), .lit (.int .u8 2), .lit (.int .u8 62), .lit (.int .u8 0), .lit (.int .u8 110), .lit (.int .u8 0)]

/-- 'milllaw11.TempEncodes': WHATEVER THE INPUT: true; the input reads as it did. -/
def tempEncodesSpec : ChangeSpec := { name := "tempEncodes", fn := fun _ => fun
  | [d1, d2] => { results := [.lit (.bool true)], args := [d1, d2] }
  | _ => none }
def tempEncodesRow : OpenClaim := { program := "ytlbekgcfafofdaadoor", sum := "53da1b8f57dcc9ed7c7cd1589d6c31b2f21d7fd865e276df1e8d0d5729474cee", func := "mill/milllaw11.TempEncodes", spec := "tempEncodes", inPlace := ["internal/bytealg.IndexByteString"], unfollowed := true, recurses := true, named := ["mill/temps.uses", "mill/squeeze.sumSteps"], apart := false, laid := [("mill/squeeze.sumSteps", laid_mill_squeeze_sumSteps), ("mill/temps.uses", laid_mill_temps_uses)] }
def TempEncodesSaid : Prop := tempEncodesRow.holds Tryd.pinned (OpenSpec.ofChange tempEncodesSpec)

/-- ITS FALSE NEIGHBOUR: 'it returns false'. Refute it at one input. -/
def tempEncodesWrong : ChangeSpec := { name := "tempEncodes", fn := fun _ => fun
  | [d1, d2] => { results := [.lit (.bool false)], args := [d1, d2] }
  | _ => none }
def TempEncodesWrongFalsely : Prop := tempEncodesRow.holds Tryd.pinned (OpenSpec.ofChange tempEncodesWrong)

/-- 'milllaw11.TempRound': WHATEVER THE INPUT: true; the input reads as it did. -/
def tempRoundSpec : ChangeSpec := { name := "tempRound", fn := fun _ => fun
  | [d1, d2] => { results := [.lit (.bool true)], args := [d1, d2] }
  | _ => none }
def tempRoundRow : OpenClaim := { program := "ytlbekgcfafofdaadoor", sum := "53da1b8f57dcc9ed7c7cd1589d6c31b2f21d7fd865e276df1e8d0d5729474cee", func := "mill/milllaw11.TempRound", spec := "tempRound", inPlace := ["internal/bytealg.IndexByteString"], unfollowed := true, recurses := true, named := ["mill/temps.uses", "mill/squeeze.sumSteps"], apart := false, laid := [("mill/squeeze.sumSteps", laid_mill_squeeze_sumSteps), ("mill/temps.uses", laid_mill_temps_uses)] }
def TempRoundSaid : Prop := tempRoundRow.holds Tryd.pinned (OpenSpec.ofChange tempRoundSpec)

/-- ITS FALSE NEIGHBOUR: 'it returns false'. Refute it at one input. -/
def tempRoundWrong : ChangeSpec := { name := "tempRound", fn := fun _ => fun
  | [d1, d2] => { results := [.lit (.bool false)], args := [d1, d2] }
  | _ => none }
def TempRoundWrongFalsely : Prop := tempRoundRow.holds Tryd.pinned (OpenSpec.ofChange tempRoundWrong)

/-- 'milllaw11.TempTorn': WHATEVER THE INPUT: true; the input reads as it did. -/
def tempTornSpec : ChangeSpec := { name := "tempTorn", fn := fun _ => fun
  | [d1, d2, d3] => { results := [.lit (.bool true)], args := [d1, d2, d3] }
  | _ => none }
def tempTornRow : OpenClaim := { program := "ytlbekgcfafofdaadoor", sum := "53da1b8f57dcc9ed7c7cd1589d6c31b2f21d7fd865e276df1e8d0d5729474cee", func := "mill/milllaw11.TempTorn", spec := "tempTorn", inPlace := ["internal/bytealg.IndexByteString"], unfollowed := true, recurses := true, named := ["mill/temps.uses", "mill/squeeze.sumSteps"], apart := false, laid := [("mill/squeeze.sumSteps", laid_mill_squeeze_sumSteps), ("mill/temps.uses", laid_mill_temps_uses)] }
def TempTornSaid : Prop := tempTornRow.holds Tryd.pinned (OpenSpec.ofChange tempTornSpec)

/-- ITS FALSE NEIGHBOUR: 'it returns false'. Refute it at one input. -/
def tempTornWrong : ChangeSpec := { name := "tempTorn", fn := fun _ => fun
  | [d1, d2, d3] => { results := [.lit (.bool false)], args := [d1, d2, d3] }
  | _ => none }
def TempTornWrongFalsely : Prop := tempTornRow.holds Tryd.pinned (OpenSpec.ofChange tempTornWrong)

/-- 'milllaw11.TempBit': WHATEVER THE INPUT: true; the input reads as it did. -/
def tempBitSpec : ChangeSpec := { name := "tempBit", fn := fun _ => fun
  | [d1, d2, d3] => { results := [.lit (.bool true)], args := [d1, d2, d3] }
  | _ => none }
def tempBitRow : OpenClaim := { program := "ytlbekgcfafofdaadoor", sum := "53da1b8f57dcc9ed7c7cd1589d6c31b2f21d7fd865e276df1e8d0d5729474cee", func := "mill/milllaw11.TempBit", spec := "tempBit", inPlace := ["internal/bytealg.IndexByteString"], unfollowed := true, recurses := true, named := ["mill/temps.uses", "mill/squeeze.sumSteps"], apart := false, laid := [("mill/squeeze.sumSteps", laid_mill_squeeze_sumSteps), ("mill/temps.uses", laid_mill_temps_uses)] }
def TempBitSaid : Prop := tempBitRow.holds Tryd.pinned (OpenSpec.ofChange tempBitSpec)

/-- ITS FALSE NEIGHBOUR: 'it returns false'. Refute it at one input. -/
def tempBitWrong : ChangeSpec := { name := "tempBit", fn := fun _ => fun
  | [d1, d2, d3] => { results := [.lit (.bool false)], args := [d1, d2, d3] }
  | _ => none }
def TempBitWrongFalsely : Prop := tempBitRow.holds Tryd.pinned (OpenSpec.ofChange tempBitWrong)

/-- 'milllaw11.TempDecodes': WHATEVER THE INPUT: true; the input reads as it did. -/
def tempDecodesSpec : ChangeSpec := { name := "tempDecodes", fn := fun _ => fun
  | [d] => { results := [.lit (.bool true)], args := [d] }
  | _ => none }
def tempDecodesRow : OpenClaim := { program := "ytlbekgcfafofdaadoor", sum := "53da1b8f57dcc9ed7c7cd1589d6c31b2f21d7fd865e276df1e8d0d5729474cee", func := "mill/milllaw11.TempDecodes", spec := "tempDecodes", inPlace := ["internal/bytealg.IndexByteString"], unfollowed := true, recurses := true, named := ["mill/squeeze.sumSteps", "mill/temps.uses"], apart := false, laid := [("mill/squeeze.sumSteps", laid_mill_squeeze_sumSteps), ("mill/temps.uses", laid_mill_temps_uses)] }
def TempDecodesSaid : Prop := tempDecodesRow.holds Tryd.pinned (OpenSpec.ofChange tempDecodesSpec)

/-- ITS FALSE NEIGHBOUR: 'it returns false'. Refute it at one input. -/
def tempDecodesWrong : ChangeSpec := { name := "tempDecodes", fn := fun _ => fun
  | [d] => { results := [.lit (.bool false)], args := [d] }
  | _ => none }
def TempDecodesWrongFalsely : Prop := tempDecodesRow.holds Tryd.pinned (OpenSpec.ofChange tempDecodesWrong)

/- THE SECOND FORM. 'bulk': how many values and letters a reading holds, each counted each time it is reached (what is shared counts as often as it is met; a slice's spare places count too). A statement '..UptoSaid' is the law's where the arguments, and the package variables that the reading takes, are together of bulk at most 1048576: NARROWER than '..Said'. Prove '..Said' where nothing that the law and all that it calls make is longer than what came in: it says more and counts as full. Else prove '..UptoSaid'. A law counts once. -/
mutual
def uptoBulk {H : Type} : DataW H → Nat
  | .lit (.string bytes) => bytes.length + 1
  | .lit _ => 1
  | .nil => 1
  | .ptr d => uptoBulk d + 1
  | .slice elems spare => uptoBulkAll elems + uptoBulkAll spare + 1
  | .agg parts => uptoBulkAll parts + 1
  | .iface _ d => uptoBulk d + 1
  | .map entries => uptoBulkEntries entries + 1
  | .held _ => 1
def uptoBulkAll {H : Type} : List (DataW H) → Nat
  | [] => 0
  | d :: r => uptoBulk d + uptoBulkAll r
def uptoBulkEntries {H : Type} : List (Lit × DataW H) → Nat
  | [] => 0
  | x :: r => uptoBulkEntry x + uptoBulkEntries r
def uptoBulkEntry {H : Type} : Lit × DataW H → Nat
  | (.string bytes, d) => bytes.length + uptoBulk d + 1
  | (_, d) => uptoBulk d + 1
 end
def uptoSmall : (H : Type) → List (DataW H) → Bool := fun _ ds => decide (uptoBulkAll ds ≤ 1048576)
def OpenSpec.upto (s : _root_.Go.ChangeSpec) : _root_.Go.OpenSpec := { _root_.Go.OpenSpec.ofChange s with cond := some uptoSmall }

/-- 'milllaw11.TempEncodes', WHERE WHAT IT READS IS OF BULK AT MOST 1048576: true; the input reads as it did. -/
def tempEncodesUptoRow : OpenClaim := { program := "ytlbekgcfafofdaadoor", sum := "53da1b8f57dcc9ed7c7cd1589d6c31b2f21d7fd865e276df1e8d0d5729474cee", func := "mill/milllaw11.TempEncodes", spec := "tempEncodes", inPlace := ["internal/bytealg.IndexByteString"], unfollowed := true, recurses := true, named := ["mill/temps.uses", "mill/squeeze.sumSteps"], apart := false, laid := [("mill/squeeze.sumSteps", laid_mill_squeeze_sumSteps), ("mill/temps.uses", laid_mill_temps_uses)], narrowed := true }
def TempEncodesUptoSaid : Prop := tempEncodesUptoRow.holds Tryd.pinned (OpenSpec.upto tempEncodesSpec)

/-- 'milllaw11.TempRound', WHERE WHAT IT READS IS OF BULK AT MOST 1048576: true; the input reads as it did. -/
def tempRoundUptoRow : OpenClaim := { program := "ytlbekgcfafofdaadoor", sum := "53da1b8f57dcc9ed7c7cd1589d6c31b2f21d7fd865e276df1e8d0d5729474cee", func := "mill/milllaw11.TempRound", spec := "tempRound", inPlace := ["internal/bytealg.IndexByteString"], unfollowed := true, recurses := true, named := ["mill/temps.uses", "mill/squeeze.sumSteps"], apart := false, laid := [("mill/squeeze.sumSteps", laid_mill_squeeze_sumSteps), ("mill/temps.uses", laid_mill_temps_uses)], narrowed := true }
def TempRoundUptoSaid : Prop := tempRoundUptoRow.holds Tryd.pinned (OpenSpec.upto tempRoundSpec)

/-- 'milllaw11.TempTorn', WHERE WHAT IT READS IS OF BULK AT MOST 1048576: true; the input reads as it did. -/
def tempTornUptoRow : OpenClaim := { program := "ytlbekgcfafofdaadoor", sum := "53da1b8f57dcc9ed7c7cd1589d6c31b2f21d7fd865e276df1e8d0d5729474cee", func := "mill/milllaw11.TempTorn", spec := "tempTorn", inPlace := ["internal/bytealg.IndexByteString"], unfollowed := true, recurses := true, named := ["mill/temps.uses", "mill/squeeze.sumSteps"], apart := false, laid := [("mill/squeeze.sumSteps", laid_mill_squeeze_sumSteps), ("mill/temps.uses", laid_mill_temps_uses)], narrowed := true }
def TempTornUptoSaid : Prop := tempTornUptoRow.holds Tryd.pinned (OpenSpec.upto tempTornSpec)

/-- 'milllaw11.TempBit', WHERE WHAT IT READS IS OF BULK AT MOST 1048576: true; the input reads as it did. -/
def tempBitUptoRow : OpenClaim := { program := "ytlbekgcfafofdaadoor", sum := "53da1b8f57dcc9ed7c7cd1589d6c31b2f21d7fd865e276df1e8d0d5729474cee", func := "mill/milllaw11.TempBit", spec := "tempBit", inPlace := ["internal/bytealg.IndexByteString"], unfollowed := true, recurses := true, named := ["mill/temps.uses", "mill/squeeze.sumSteps"], apart := false, laid := [("mill/squeeze.sumSteps", laid_mill_squeeze_sumSteps), ("mill/temps.uses", laid_mill_temps_uses)], narrowed := true }
def TempBitUptoSaid : Prop := tempBitUptoRow.holds Tryd.pinned (OpenSpec.upto tempBitSpec)

/-- 'milllaw11.TempDecodes', WHERE WHAT IT READS IS OF BULK AT MOST 1048576: true; the input reads as it did. -/
def tempDecodesUptoRow : OpenClaim := { program := "ytlbekgcfafofdaadoor", sum := "53da1b8f57dcc9ed7c7cd1589d6c31b2f21d7fd865e276df1e8d0d5729474cee", func := "mill/milllaw11.TempDecodes", spec := "tempDecodes", inPlace := ["internal/bytealg.IndexByteString"], unfollowed := true, recurses := true, named := ["mill/squeeze.sumSteps", "mill/temps.uses"], apart := false, laid := [("mill/squeeze.sumSteps", laid_mill_squeeze_sumSteps), ("mill/temps.uses", laid_mill_temps_uses)], narrowed := true }
def TempDecodesUptoSaid : Prop := tempDecodesUptoRow.holds Tryd.pinned (OpenSpec.upto tempDecodesSpec)

end Rows
end Go.Proofs.YtlbekgcfafofdaaDoor
