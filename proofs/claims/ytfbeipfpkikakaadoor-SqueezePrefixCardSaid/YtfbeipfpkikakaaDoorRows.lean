/-
  NARROWER THAN 'FOR EVERY INPUT', by the rows' own cells (each row's printed sentence says how): SqueezeMore: laid · SqueezePrefix: laid · SqueezeSums: laid · SqueezeCodes: laid · SqueezeLooks: laid · SqueezeStores: laid.
  DERIVED. THE GIVEN ROWS OF THIS SEAT. 6 by the template 'for every input the law returns true; each argument reads behind the call as it read before'; 0 by the template 'total and deterministic' (their statements: YtfbeipfpkikakaaDoorTotals.lean).
  GIVEN WITH THE SEED: the statements are not yours to turn. If you find one false, say at which input.
  Laid BY PROGRAM, IN A SANDBOX (cutbox-rows.mjs): the forced cells as the released guide's own fill.sh prints them over the translation ba0a7547f40724a0… (all of the seat's roots in one cut). By AI agents, Wed Nov 11 2026. No macro, syntax, notation, axiom, sorry.
-/
import Derived.Test.YtfbeipfpkikakaaDoorChecked
import GoSem.Claim
import GoSem.ClaimJoined
import GoSem.ClaimMapViews
import Derived.JoinedTies
import Derived.KernelRfl
namespace Go.Proofs.YtfbeipfpkikakaaDoor
/- THE CELL 'sum', in the pinned program and in every row, IS THE sha256 OF THE DUMP (.gsa) THAT YtfbeipfpkikakaaDoorProg.lean LOADS. Nothing in Lean hashes anything: it is a label: what it is worth is what the hold of that sum in a sandbox is worth. -/
noncomputable def Tryd.pinned : Pinned := { name := "ytfbeipfpkikakaadoor", sum := "ba0a7547f40724a09555d14ce674c7b0c742f1994cf41f22aacc0c24bdd44292", checked := Tryd.checked }
namespace Rows
def none {H : Type} : Left H := { results := [], args := [] }

/- WHAT THE LISTED PACKAGE-LEVEL VARIABLES READ AS WHEN THE CALL BEGINS. Each datum BY PROGRAM (the guide's laid-datum.mjs) off the statement by which the dump's own 'gosem.cut.vars' lays the variable. In a bare row this is a premise. The card (YtfbeipfpkikakaaDoorCards.lean) ties it to the program's text. -/
def laid_mill_squeeze_sumSteps {H : Type} : DataW H := .agg [.lit (.int .u32 0), .lit (.int .u32 498536548), .lit (.int .u32 997073096), .lit (.int .u32 651767980), .lit (.int .u32 1994146192), .lit (.int .u32 1802195444), .lit (.int .u32 1303535960), .lit (.int .u32 1342533948), .lit (.int .u32 3988292384), .lit (.int .u32 4027552580), .lit (.int .u32 3604390888), .lit (.int .u32 3412177804), .lit (.int .u32 2607071920), .lit (.int .u32 2262029012), .lit (.int .u32 2685067896), .lit (.int .u32 3183342108)]
def laid_mill_squeeze_lengthBases {H : Type} : DataW H := .agg [.lit (.int .i64 3), .lit (.int .i64 4), .lit (.int .i64 5), .lit (.int .i64 6), .lit (.int .i64 7), .lit (.int .i64 8), .lit (.int .i64 9), .lit (.int .i64 10), .lit (.int .i64 11), .lit (.int .i64 19), .lit (.int .i64 27), .lit (.int .i64 43), .lit (.int .i64 59), .lit (.int .i64 91), .lit (.int .i64 123), .lit (.int .i64 187)]

/-- 'milllaw6.SqueezeMore': WHATEVER THE INPUT: true; the input reads as it did. -/
def squeezeMoreSpec : ChangeSpec := { name := "squeezeMore", fn := fun _ => fun
  | [d1, d2, d3] => { results := [.lit (.bool true)], args := [d1, d2, d3] }
  | _ => none }
def squeezeMoreRow : OpenClaim := { program := "ytfbeipfpkikakaadoor", sum := "ba0a7547f40724a09555d14ce674c7b0c742f1994cf41f22aacc0c24bdd44292", func := "mill/milllaw6.SqueezeMore", spec := "squeezeMore", unfollowed := true, recurses := true, named := ["mill/squeeze.sumSteps", "mill/squeeze.lengthBases"], apart := false, laid := [("mill/squeeze.sumSteps", laid_mill_squeeze_sumSteps), ("mill/squeeze.lengthBases", laid_mill_squeeze_lengthBases)] }
def SqueezeMoreSaid : Prop := squeezeMoreRow.holds Tryd.pinned (OpenSpec.ofChange squeezeMoreSpec)

/-- ITS FALSE NEIGHBOUR: 'it returns false'. Refute it at one input. -/
def squeezeMoreWrong : ChangeSpec := { name := "squeezeMore", fn := fun _ => fun
  | [d1, d2, d3] => { results := [.lit (.bool false)], args := [d1, d2, d3] }
  | _ => none }
def SqueezeMoreWrongFalsely : Prop := squeezeMoreRow.holds Tryd.pinned (OpenSpec.ofChange squeezeMoreWrong)

/-- 'milllaw6.SqueezePrefix': WHATEVER THE INPUT: true; the input reads as it did. -/
def squeezePrefixSpec : ChangeSpec := { name := "squeezePrefix", fn := fun _ => fun
  | [d] => { results := [.lit (.bool true)], args := [d] }
  | _ => none }
def squeezePrefixRow : OpenClaim := { program := "ytfbeipfpkikakaadoor", sum := "ba0a7547f40724a09555d14ce674c7b0c742f1994cf41f22aacc0c24bdd44292", func := "mill/milllaw6.SqueezePrefix", spec := "squeezePrefix", unfollowed := true, recurses := true, named := ["mill/squeeze.lengthBases", "mill/squeeze.sumSteps"], apart := false, laid := [("mill/squeeze.sumSteps", laid_mill_squeeze_sumSteps), ("mill/squeeze.lengthBases", laid_mill_squeeze_lengthBases)] }
def SqueezePrefixSaid : Prop := squeezePrefixRow.holds Tryd.pinned (OpenSpec.ofChange squeezePrefixSpec)

/-- ITS FALSE NEIGHBOUR: 'it returns false'. Refute it at one input. -/
def squeezePrefixWrong : ChangeSpec := { name := "squeezePrefix", fn := fun _ => fun
  | [d] => { results := [.lit (.bool false)], args := [d] }
  | _ => none }
def SqueezePrefixWrongFalsely : Prop := squeezePrefixRow.holds Tryd.pinned (OpenSpec.ofChange squeezePrefixWrong)

/-- 'milllaw6.SqueezeSums': WHATEVER THE INPUT: true; the input reads as it did. -/
def squeezeSumsSpec : ChangeSpec := { name := "squeezeSums", fn := fun _ => fun
  | [d] => { results := [.lit (.bool true)], args := [d] }
  | _ => none }
def squeezeSumsRow : OpenClaim := { program := "ytfbeipfpkikakaadoor", sum := "ba0a7547f40724a09555d14ce674c7b0c742f1994cf41f22aacc0c24bdd44292", func := "mill/milllaw6.SqueezeSums", spec := "squeezeSums", unfollowed := true, recurses := true, named := ["mill/squeeze.sumSteps", "mill/squeeze.lengthBases"], apart := false, laid := [("mill/squeeze.sumSteps", laid_mill_squeeze_sumSteps), ("mill/squeeze.lengthBases", laid_mill_squeeze_lengthBases)] }
def SqueezeSumsSaid : Prop := squeezeSumsRow.holds Tryd.pinned (OpenSpec.ofChange squeezeSumsSpec)

/-- ITS FALSE NEIGHBOUR: 'it returns false'. Refute it at one input. -/
def squeezeSumsWrong : ChangeSpec := { name := "squeezeSums", fn := fun _ => fun
  | [d] => { results := [.lit (.bool false)], args := [d] }
  | _ => none }
def SqueezeSumsWrongFalsely : Prop := squeezeSumsRow.holds Tryd.pinned (OpenSpec.ofChange squeezeSumsWrong)

/-- 'milllaw6.SqueezeCodes': WHATEVER THE INPUT: true; the input reads as it did. -/
def squeezeCodesSpec : ChangeSpec := { name := "squeezeCodes", fn := fun _ => fun
  | [d] => { results := [.lit (.bool true)], args := [d] }
  | _ => none }
def squeezeCodesRow : OpenClaim := { program := "ytfbeipfpkikakaadoor", sum := "ba0a7547f40724a09555d14ce674c7b0c742f1994cf41f22aacc0c24bdd44292", func := "mill/milllaw6.SqueezeCodes", spec := "squeezeCodes", unfollowed := true, recurses := true, named := ["mill/squeeze.lengthBases", "mill/squeeze.sumSteps"], apart := false, laid := [("mill/squeeze.sumSteps", laid_mill_squeeze_sumSteps), ("mill/squeeze.lengthBases", laid_mill_squeeze_lengthBases)] }
def SqueezeCodesSaid : Prop := squeezeCodesRow.holds Tryd.pinned (OpenSpec.ofChange squeezeCodesSpec)

/-- ITS FALSE NEIGHBOUR: 'it returns false'. Refute it at one input. -/
def squeezeCodesWrong : ChangeSpec := { name := "squeezeCodes", fn := fun _ => fun
  | [d] => { results := [.lit (.bool false)], args := [d] }
  | _ => none }
def SqueezeCodesWrongFalsely : Prop := squeezeCodesRow.holds Tryd.pinned (OpenSpec.ofChange squeezeCodesWrong)

/-- 'milllaw6.SqueezeLooks': WHATEVER THE INPUT: true; the input reads as it did. -/
def squeezeLooksSpec : ChangeSpec := { name := "squeezeLooks", fn := fun _ => fun
  | [d] => { results := [.lit (.bool true)], args := [d] }
  | _ => none }
def squeezeLooksRow : OpenClaim := { program := "ytfbeipfpkikakaadoor", sum := "ba0a7547f40724a09555d14ce674c7b0c742f1994cf41f22aacc0c24bdd44292", func := "mill/milllaw6.SqueezeLooks", spec := "squeezeLooks", unfollowed := true, recurses := true, named := ["mill/squeeze.sumSteps", "mill/squeeze.lengthBases"], apart := false, laid := [("mill/squeeze.sumSteps", laid_mill_squeeze_sumSteps), ("mill/squeeze.lengthBases", laid_mill_squeeze_lengthBases)] }
def SqueezeLooksSaid : Prop := squeezeLooksRow.holds Tryd.pinned (OpenSpec.ofChange squeezeLooksSpec)

/-- ITS FALSE NEIGHBOUR: 'it returns false'. Refute it at one input. -/
def squeezeLooksWrong : ChangeSpec := { name := "squeezeLooks", fn := fun _ => fun
  | [d] => { results := [.lit (.bool false)], args := [d] }
  | _ => none }
def SqueezeLooksWrongFalsely : Prop := squeezeLooksRow.holds Tryd.pinned (OpenSpec.ofChange squeezeLooksWrong)

/-- 'milllaw6.SqueezeStores': WHATEVER THE INPUT: true; the input reads as it did. -/
def squeezeStoresSpec : ChangeSpec := { name := "squeezeStores", fn := fun _ => fun
  | [d1, d2] => { results := [.lit (.bool true)], args := [d1, d2] }
  | _ => none }
def squeezeStoresRow : OpenClaim := { program := "ytfbeipfpkikakaadoor", sum := "ba0a7547f40724a09555d14ce674c7b0c742f1994cf41f22aacc0c24bdd44292", func := "mill/milllaw6.SqueezeStores", spec := "squeezeStores", unfollowed := true, recurses := true, named := ["mill/squeeze.sumSteps", "mill/squeeze.lengthBases"], apart := false, laid := [("mill/squeeze.sumSteps", laid_mill_squeeze_sumSteps), ("mill/squeeze.lengthBases", laid_mill_squeeze_lengthBases)] }
def SqueezeStoresSaid : Prop := squeezeStoresRow.holds Tryd.pinned (OpenSpec.ofChange squeezeStoresSpec)

/-- ITS FALSE NEIGHBOUR: 'it returns false'. Refute it at one input. -/
def squeezeStoresWrong : ChangeSpec := { name := "squeezeStores", fn := fun _ => fun
  | [d1, d2] => { results := [.lit (.bool false)], args := [d1, d2] }
  | _ => none }
def SqueezeStoresWrongFalsely : Prop := squeezeStoresRow.holds Tryd.pinned (OpenSpec.ofChange squeezeStoresWrong)

/- THE SECOND FORM. 'bulk': how many values and letters a reading holds, each counted each time it is reached (what is shared counts as often as it is met; a slice's spare places count too). A statement '..UptoSaid' is the law's where the arguments, and the package variables that the reading takes, are together of bulk at most 1048576: NARROWER than '..Said'. Prove '..Said' where nothing that the law and all that it calls make is longer than what came in: it says more and counts as full. Else prove '..UptoSaid'. A law counts once. -/
mutual
def uptoBulk {H : Type} : DataW H → Nat
  | .lit (.string bytes) => bytes.length + 1
  | .lit _ => 1
  | .nil => 1
  | .ptr d => uptoBulk d + 1
  | .slice elems spare => uptoBulkAll elems + uptoBulkAll spare + 1
  | .agg parts => uptoBulkAll parts + 1
  | .iface _ d => uptoBulk d + 1
  | .map entries => uptoBulkEntries entries + 1
  | .held _ => 1
def uptoBulkAll {H : Type} : List (DataW H) → Nat
  | [] => 0
  | d :: r => uptoBulk d + uptoBulkAll r
def uptoBulkEntries {H : Type} : List (Lit × DataW H) → Nat
  | [] => 0
  | x :: r => uptoBulkEntry x + uptoBulkEntries r
def uptoBulkEntry {H : Type} : Lit × DataW H → Nat
  | (.string bytes, d) => bytes.length + uptoBulk d + 1
  | (_, d) => uptoBulk d + 1
 end
def uptoSmall : (H : Type) → List (DataW H) → Bool := fun _ ds => decide (uptoBulkAll ds ≤ 1048576)
def OpenSpec.upto (s : _root_.Go.ChangeSpec) : _root_.Go.OpenSpec := { _root_.Go.OpenSpec.ofChange s with cond := some uptoSmall }

/-- 'milllaw6.SqueezeMore', WHERE WHAT IT READS IS OF BULK AT MOST 1048576: true; the input reads as it did. -/
def squeezeMoreUptoRow : OpenClaim := { program := "ytfbeipfpkikakaadoor", sum := "ba0a7547f40724a09555d14ce674c7b0c742f1994cf41f22aacc0c24bdd44292", func := "mill/milllaw6.SqueezeMore", spec := "squeezeMore", unfollowed := true, recurses := true, named := ["mill/squeeze.sumSteps", "mill/squeeze.lengthBases"], apart := false, laid := [("mill/squeeze.sumSteps", laid_mill_squeeze_sumSteps), ("mill/squeeze.lengthBases", laid_mill_squeeze_lengthBases)], narrowed := true }
def SqueezeMoreUptoSaid : Prop := squeezeMoreUptoRow.holds Tryd.pinned (OpenSpec.upto squeezeMoreSpec)

/-- 'milllaw6.SqueezePrefix', WHERE WHAT IT READS IS OF BULK AT MOST 1048576: true; the input reads as it did. -/
def squeezePrefixUptoRow : OpenClaim := { program := "ytfbeipfpkikakaadoor", sum := "ba0a7547f40724a09555d14ce674c7b0c742f1994cf41f22aacc0c24bdd44292", func := "mill/milllaw6.SqueezePrefix", spec := "squeezePrefix", unfollowed := true, recurses := true, named := ["mill/squeeze.lengthBases", "mill/squeeze.sumSteps"], apart := false, laid := [("mill/squeeze.sumSteps", laid_mill_squeeze_sumSteps), ("mill/squeeze.lengthBases", laid_mill_squeeze_lengthBases)], narrowed := true }
def SqueezePrefixUptoSaid : Prop := squeezePrefixUptoRow.holds Tryd.pinned (OpenSpec.upto squeezePrefixSpec)

/-- 'milllaw6.SqueezeSums', WHERE WHAT IT READS IS OF BULK AT MOST 1048576: true; the input reads as it did. -/
def squeezeSumsUptoRow : OpenClaim := { program := "ytfbeipfpkikakaadoor", sum := "ba0a7547f40724a09555d14ce674c7b0c742f1994cf41f22aacc0c24bdd44292", func := "mill/milllaw6.SqueezeSums", spec := "squeezeSums", unfollowed := true, recurses := true, named := ["mill/squeeze.sumSteps", "mill/squeeze.lengthBases"], apart := false, laid := [("mill/squeeze.sumSteps", laid_mill_squeeze_sumSteps), ("mill/squeeze.lengthBases", laid_mill_squeeze_lengthBases)], narrowed := true }
def SqueezeSumsUptoSaid : Prop := squeezeSumsUptoRow.holds Tryd.pinned (OpenSpec.upto squeezeSumsSpec)

/-- 'milllaw6.SqueezeCodes', WHERE WHAT IT READS IS OF BULK AT MOST 1048576: true; the input reads as it did. -/
def squeezeCodesUptoRow : OpenClaim := { program := "ytfbeipfpkikakaadoor", sum := "ba0a7547f40724a09555d14ce674c7b0c742f1994cf41f22aacc0c24bdd44292", func := "mill/milllaw6.SqueezeCodes", spec := "squeezeCodes", unfollowed := true, recurses := true, named := ["mill/squeeze.lengthBases", "mill/squeeze.sumSteps"], apart := false, laid := [("mill/squeeze.sumSteps", laid_mill_squeeze_sumSteps), ("mill/squeeze.lengthBases", laid_mill_squeeze_lengthBases)], narrowed := true }
def SqueezeCodesUptoSaid : Prop := squeezeCodesUptoRow.holds Tryd.pinned (OpenSpec.upto squeezeCodesSpec)

/-- 'milllaw6.SqueezeLooks', WHERE WHAT IT READS IS OF BULK AT MOST 1048576: true; the input reads as it did. -/
def squeezeLooksUptoRow : OpenClaim := { program := "ytfbeipfpkikakaadoor", sum := "ba0a7547f40724a09555d14ce674c7b0c742f1994cf41f22aacc0c24bdd44292", func := "mill/milllaw6.SqueezeLooks", spec := "squeezeLooks", unfollowed := true, recurses := true, named := ["mill/squeeze.sumSteps", "mill/squeeze.lengthBases"], apart := false, laid := [("mill/squeeze.sumSteps", laid_mill_squeeze_sumSteps), ("mill/squeeze.lengthBases", laid_mill_squeeze_lengthBases)], narrowed := true }
def SqueezeLooksUptoSaid : Prop := squeezeLooksUptoRow.holds Tryd.pinned (OpenSpec.upto squeezeLooksSpec)

/-- 'milllaw6.SqueezeStores', WHERE WHAT IT READS IS OF BULK AT MOST 1048576: true; the input reads as it did. -/
def squeezeStoresUptoRow : OpenClaim := { program := "ytfbeipfpkikakaadoor", sum := "ba0a7547f40724a09555d14ce674c7b0c742f1994cf41f22aacc0c24bdd44292", func := "mill/milllaw6.SqueezeStores", spec := "squeezeStores", unfollowed := true, recurses := true, named := ["mill/squeeze.sumSteps", "mill/squeeze.lengthBases"], apart := false, laid := [("mill/squeeze.sumSteps", laid_mill_squeeze_sumSteps), ("mill/squeeze.lengthBases", laid_mill_squeeze_lengthBases)], narrowed := true }
def SqueezeStoresUptoSaid : Prop := squeezeStoresUptoRow.holds Tryd.pinned (OpenSpec.upto squeezeStoresSpec)

end Rows
end Go.Proofs.YtfbeipfpkikakaaDoor
