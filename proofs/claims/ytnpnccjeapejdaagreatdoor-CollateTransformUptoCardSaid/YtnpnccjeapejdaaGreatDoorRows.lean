/-
  NARROWER THAN 'FOR EVERY INPUT', by the rows' own cells (each row's printed sentence says how): CollateTransform: laid · CollateSettles: laid · CollateSorts: laid.
  DERIVED. THE GIVEN ROWS OF THIS SEAT. 3 by the template 'for every input the law returns true; each argument reads behind the call as it read before'; 0 by the template 'total and deterministic' (their statements: YtnpnccjeapejdaaGreatDoorTotals.lean).
  GIVEN WITH THE SEED: the statements are not yours to turn. If you find one false, say at which input.
  Laid BY PROGRAM, IN A SANDBOX (cutbox-rows.mjs): the forced cells as the released guide's own fill.sh prints them over the translation 40800aa4f9864885… (all of the seat's roots in one cut). By AI agents, Wed Nov 11 2026. No macro, syntax, notation, axiom, sorry.
-/
import Derived.Test.YtnpnccjeapejdaaGreatDoorChecked
import GoSem.PinnedTables
import GoSem.Claim
import GoSem.ClaimJoined
import GoSem.ClaimMapViews
import Derived.JoinedTies
import Derived.KernelRfl
namespace Go.Proofs.YtnpnccjeapejdaaGreatDoor
/- THE CELL 'sum', in the pinned program and in every row, IS THE sha256 OF THE DUMP (.gsa) THAT YtnpnccjeapejdaaGreatDoorProg.lean LOADS. Nothing in Lean hashes anything: it is a label: what it is worth is what the hold of that sum in a sandbox is worth. -/
noncomputable def Tryz.pinned : Pinned := { name := "ytnpnccjeapejdaagreatdoor", sum := "40800aa4f9864885281849b11059280dbdb3f70eb034e8df64afbb702584d564", checked := Tryz.checked }
namespace Rows
def none {H : Type} : Left H := { results := [], args := [] }

/- WHAT THE LISTED PACKAGE-LEVEL VARIABLES READ AS WHEN THE CALL BEGINS. Each datum BY PROGRAM (the guide's laid-datum.mjs) off the statement by which the dump's own 'gosem.cut.vars' lays the variable. In a bare row this is a premise. The card (YtnpnccjeapejdaaGreatDoorCards.lean) ties it to the program's text. -/
def laid_unicode_utf8_acceptRanges {H : Type} : DataW H := .agg [.agg [.lit (.int .u8 128), .lit (.int .u8 191)], .agg [.lit (.int .u8 160), .lit (.int .u8 191)], .agg [.lit (.int .u8 128), .lit (.int .u8 159)], .agg [.lit (.int .u8 144), .lit (.int .u8 191)], .agg [.lit (.int .u8 128), .lit (.int .u8 143)], .agg [.lit (.int .u8 0), .lit (.int .u8 0)], .agg [.lit (.int .u8 0), .lit (.int .u8 0)], .agg [.lit (.int .u8 0), .lit (.int .u8 0)], .agg [.lit (.int .u8 0), .lit (.int .u8 0)], .agg [.lit (.int .u8 0), .lit (.int .u8 0)], .agg [.lit (.int .u8 0), .lit (.int .u8 0)], .agg [.lit (.int .u8 0), .lit (.int .u8 0)], .agg [.lit (.int .u8 0), .lit (.int .u8 0)], .agg [.lit (.int .u8 0), .lit (.int .u8 0)], .agg [.lit (.int .u8 0), .lit (.int .u8 0)], .agg [.lit (.int .u8 0), .lit (.int .u8 0)]]
def laid_mill_numeral_months {H : Type} : DataW H := .agg [.lit (.string [106, 97, 110]), .lit (.string [102, 101, 98]), .lit (.string [109, 97, 114]), .lit (.string [97, 112, 114]), .lit (.string [109, 97, 121]), .lit (.string [106, 117, 110]), .lit (.string [106, 117, 108]), .lit (.string [97, 117, 103]), .lit (.string [115, 101, 112]), .lit (.string [111, 99, 116]), .lit (.string [110, 111, 118]), .lit (.string [100, 101, 99])]
def laid_mill_numeral_words {H : Type} : DataW H := .agg [.agg [.lit (.string [105, 110, 102, 105, 110, 105, 116, 121]), .lit (.int .u8 4)], .agg [.lit (.string [105, 110, 102]), .lit (.int .u8 4)], .agg [.lit (.string [110, 97, 110]), .lit (.int .u8 1)]]
def laid_mill_numeral_suffixes {H : Type} : DataW H := .agg [.agg [.lit (.int .u8 75), .lit (.int .i64 1)], .agg [.lit (.int .u8 107), .lit (.int .i64 1)], .agg [.lit (.int .u8 77), .lit (.int .i64 2)], .agg [.lit (.int .u8 71), .lit (.int .i64 3)], .agg [.lit (.int .u8 84), .lit (.int .i64 4)], .agg [.lit (.int .u8 80), .lit (.int .i64 5)], .agg [.lit (.int .u8 69), .lit (.int .i64 6)], .agg [.lit (.int .u8 90), .lit (.int .i64 7)], .agg [.lit (.int .u8 89), .lit (.int .i64 8)], .agg [.lit (.int .u8 82), .lit (.int .i64 9)], .agg [.lit (.int .u8 81), .lit (.int .i64 10)]]
def laid_mill_numeral_ranks {H : Type} : DataW H := .agg [.agg [.lit (.int .u8 0), .lit (.int .u8 47), .lit (.int .u8 55)], .agg [.lit (.int .u8 58), .lit (.int .u8 64), .lit (.int .u8 103)], .agg [.lit (.int .u8 65), .lit (.int .u8 90), .lit (.int .u8 3)], .agg [.lit (.int .u8 91), .lit (.int .u8 96), .lit (.int .u8 110)], .agg [.lit (.int .u8 97), .lit (.int .u8 122), .lit (.int .u8 29)], .agg [.lit (.int .u8 123), .lit (.int .u8 125), .lit (.int .u8 116)], .agg [.lit (.int .u8 126), .lit (.int .u8 126), .lit (.int .u8 1)], .agg [.lit (.int .u8 127), .lit (.int .u8 255), .lit (.int .u8 119)]]
def laid_mill_collate_classes {H : Type} : DataW H := .agg [.lit (.int .u8 0), .lit (.int .u8 0), .lit (.int .u8 0), .lit (.int .u8 0), .lit (.int .u8 0), .lit (.int .u8 0), .lit (.int .u8 0), .lit (.int .u8 0), .lit (.int .u8 0), .lit (.int .u8 3), .lit (.int .u8 0), .lit (.int .u8 0), .lit (.int .u8 0), .lit (.int .u8 0), .lit (.int .u8 0), .lit (.int .u8 0), .lit (.int .u8 0), .lit (.int .u8 0), .lit (.int .u8 0), .lit (.int .u8 0), .lit (.int .u8 0), .lit (.int .u8 0), .lit (.int .u8 0), .lit (.int .u8 0), .lit (.int .u8 0), .lit (.int .u8 0), .lit (.int .u8 0), .lit (.int .u8 0), .lit (.int .u8 0), .lit (.int .u8 0), .lit (.int .u8 0), .lit (.int .u8 0), .lit (.int .u8 7), .lit (.int .u8 4), .lit (.int .u8 4), .lit (.int .u8 4), .lit (.int .u8 4), .lit (.int .u8 4), .lit (.int .u8 4), .lit (.int .u8 4), .lit (.int .u8 4), .lit (.int .u8 4), .lit (.int .u8 4), .lit (.int .u8 4), .lit (.int .u8 4), .lit (.int .u8 4), .lit (.int .u8 4), .lit (.int .u8 4), .lit (.int .u8 6), .lit (.int .u8 6), .lit (.int .u8 6), .lit (.int .u8 6), .lit (.int .u8 6), .lit (.int .u8 6), .lit (.int .u8 6), .lit (.int .u8 6), .lit (.int .u8 6), .lit (.int .u8 6), .lit (.int .u8 4), .lit (.int .u8 4), .lit (.int .u8 4), .lit (.int .u8 4), .lit (.int .u8 4), .lit (.int .u8 4), .lit (.int .u8 4), .lit (.int .u8 6), .lit (.int .u8 6), .lit (.int .u8 6), .lit (.int .u8 6), .lit (.int .u8 6), .lit (.int .u8 6), .lit (.int .u8 6), .lit (.int .u8 6), .lit (.int .u8 6), .lit (.int .u8 6), .lit (.int .u8 6), .lit (.int .u8 6), .lit (.int .u8 6), .lit (.int .u8 6), .lit (.int .u8 6), .lit (.int .u8 6), .lit (.int .u8 6), .lit (.int .u8 6), .lit (.int .u8 6), .lit (.int .u8 6), .lit (.int .u8 6), .lit (.int .u8 6), .lit (.int .u8 6), .lit (.int .u8 6), .lit (.int .u8 6), .lit (.int .u8 6), .lit (.int .u8 4), .lit (.int .u8 4), .lit (.int .u8 4), .lit (.int .u8 4), .lit (.int .u8 4), .lit (.int .u8 4), .lit (.int .u8 14), .lit (.int .u8 14), .lit (.int .u8 14), .lit (.int .u8 14), .lit (.int .u8 14), .lit (.int .u8 14), .lit (.int .u8 14), .lit (.int .u8 14), .lit (.int .u8 14), .lit (.int .u8 14), .lit (.int .u8 14), .lit (.int .u8 14), .lit (.int .u8 14), .lit (.int .u8 14), .lit (.int .u8 14), .lit (.int .u8 14), .lit (.int .u8 14), .lit (.int .u8 14), .lit (.int .u8 14), .lit (.int .u8 14), .lit (.int .u8 14), .lit (.int .u8 14), .lit (.int .u8 14), .lit (.int .u8 14), .lit (.int .u8 14), .lit (.int .u8 14), .lit (.int .u8 4), .lit (.int .u8 4), .lit (.int .u8 4), .lit (.int .u8 4), .lit (.int .u8 0), .lit (.int .u8 0), .lit (.int .u8 0), .lit (.int .u8 0), .lit (.int .u8 0), .lit (.int .u8 0), .lit (.int .u8 0), .lit (.int .u8 0), .lit (.int .u8 0), .lit (.int .u8 0), .lit (.int .u8 0), .lit (.int .u8 0), .lit (.int .u8 0), .lit (.int .u8 0), .lit (.int .u8 0), .lit (.int .u8 0), .lit (.int .u8 0), .lit (.int .u8 0), .lit (.int .u8 0), .lit (.int .u8 0), .lit (.int .u8 0), .lit (.int .u8 0), .lit (.int .u8 0), .lit (.int .u8 0), .lit (.int .u8 0), .lit (.int .u8 0), .lit (.int .u8 0), .lit (.int .u8 0), .lit (.int .u8 0), .lit (.int .u8 0), .lit (.int .u8 0), .lit (.int .u8 0), .lit (.int .u8 0), .lit (.int .u8 0), .lit (.int .u8 0), .lit (.int .u8 0), .lit (.int .u8 0), .lit (.int .u8 0), .lit (.int .u8 0), .lit (.int .u8 0), .lit (.int .u8 0), .lit (.int .u8 0), .lit (.int .u8 0), .lit (.int .u8 0), .lit (.int .u8 0), .lit (.int .u8 0), .lit (.int .u8 0), .lit (.int .u8 0), .lit (.int .u8 0), .lit (.int .u8 0), .lit (.int .u8 0), .lit (.int .u8 0), .lit (.int .u8 0), .lit (.int .u8 0), .lit (.int .u8 0), .lit (.int .u8 0), .lit (.int .u8 0), .lit (.int .u8 0), .lit (.int .u8 0), .lit (.int .u8 0), .lit (.int .u8 0), .lit (.int .u8 0), .lit (.int .u8 0), .lit (.int .u8 0), .lit (.int .u8 0), .lit (.int .u8 0), .lit (.int .u8 0), .lit (.int .u8 0), .lit (.int .u8 0), .lit (.int .u8 0), .lit (.int .u8 0), .lit (.int .u8 0), .lit (.int .u8 0), .lit (.int .u8 0), .lit (.int .u8 0), .lit (.int .u8 0), .lit (.int .u8 0), .lit (.int .u8 0), .lit (.int .u8 0), .lit (.int .u8 0), .lit (.int .u8 0), .lit (.int .u8 0), .lit (.int .u8 0), .lit (.int .u8 0), .lit (.int .u8 0), .lit (.int .u8 0), .lit (.int .u8 0), .lit (.int .u8 0), .lit (.int .u8 0), .lit (.int .u8 0), .lit (.int .u8 0), .lit (.int .u8 0), .lit (.int .u8 0), .lit (.int .u8 0), .lit (.int .u8 0), .lit (.int .u8 0), .lit (.int .u8 0), .lit (.int .u8 0), .lit (.int .u8 0), .lit (.int .u8 0), .lit (.int .u8 0), .lit (.int .u8 0), .lit (.int .u8 0), .lit (.int .u8 0), .lit (.int .u8 0), .lit (.int .u8 0), .lit (.int .u8 0), .lit (.int .u8 0), .lit (.int .u8 0), .lit (.int .u8 0), .lit (.int .u8 0), .lit (.int .u8 0), .lit (.int .u8 0), .lit (.int .u8 0), .lit (.int .u8 0), .lit (.int .u8 0), .lit (.int .u8 0), .lit (.int .u8 0), .lit (.int .u8 0), .lit (.int .u8 0), .lit (.int .u8 0), .lit (.int .u8 0), .lit (.int .u8 0), .lit (.int .u8 0), .lit (.int .u8 0), .lit (.int .u8 0), .lit (.int .u8 0), .lit (.int .u8 0), .lit (.int .u8 0)]
/-- One of Go's own tables, pinned by name: the form's constant. -/
def laid_unicode_utf8_first : DataW Unit := Go.Pinned.utf8First

/-- 'milllaw5.CollateTransform': WHATEVER THE INPUT: true; the input reads as it did. -/
def collateTransformSpec : ChangeSpec := { name := "collateTransform", fn := fun _ => fun
  | [d1, d2, d3] => { results := [.lit (.bool true)], args := [d1, d2, d3] }
  | _ => none }
def collateTransformRow : OpenClaim := { program := "ytnpnccjeapejdaagreatdoor", sum := "40800aa4f9864885281849b11059280dbdb3f70eb034e8df64afbb702584d564", func := "mill/milllaw5.CollateTransform", spec := "collateTransform", inPlace := ["internal/bytealg.IndexByteString", "internal/bytealg.abigen_runtime_cmpstring", "internal/bytealg.IndexString"], unfollowed := true, recurses := true, named := ["mill/collate.classes", "mill/numeral.words", "unicode/utf8.first", "unicode/utf8.acceptRanges", "mill/numeral.suffixes", "mill/numeral.months", "mill/numeral.ranks", "internal/bytealg.MaxLen"], apart := false, laid := [("unicode/utf8.acceptRanges", laid_unicode_utf8_acceptRanges), ("mill/numeral.months", laid_mill_numeral_months), ("mill/numeral.words", laid_mill_numeral_words), ("mill/numeral.suffixes", laid_mill_numeral_suffixes), ("mill/numeral.ranks", laid_mill_numeral_ranks), ("mill/collate.classes", laid_mill_collate_classes), ("unicode/utf8.first", laid_unicode_utf8_first)] }
def CollateTransformSaid : Prop := collateTransformRow.holds Tryz.pinned (OpenSpec.ofChange collateTransformSpec)

/-- ITS FALSE NEIGHBOUR: 'it returns false'. Refute it at one input. -/
def collateTransformWrong : ChangeSpec := { name := "collateTransform", fn := fun _ => fun
  | [d1, d2, d3] => { results := [.lit (.bool false)], args := [d1, d2, d3] }
  | _ => none }
def CollateTransformWrongFalsely : Prop := collateTransformRow.holds Tryz.pinned (OpenSpec.ofChange collateTransformWrong)

/-- 'milllaw5.CollateSettles': WHATEVER THE INPUT: true; the input reads as it did. -/
def collateSettlesSpec : ChangeSpec := { name := "collateSettles", fn := fun _ => fun
  | [d1, d2, d3] => { results := [.lit (.bool true)], args := [d1, d2, d3] }
  | _ => none }
def collateSettlesRow : OpenClaim := { program := "ytnpnccjeapejdaagreatdoor", sum := "40800aa4f9864885281849b11059280dbdb3f70eb034e8df64afbb702584d564", func := "mill/milllaw5.CollateSettles", spec := "collateSettles", inPlace := ["internal/bytealg.IndexByteString", "internal/bytealg.abigen_runtime_cmpstring", "internal/bytealg.IndexString"], unfollowed := true, recurses := true, named := ["mill/collate.classes", "mill/numeral.words", "unicode/utf8.first", "unicode/utf8.acceptRanges", "mill/numeral.suffixes", "mill/numeral.months", "mill/numeral.ranks", "internal/bytealg.MaxLen"], apart := false, laid := [("unicode/utf8.acceptRanges", laid_unicode_utf8_acceptRanges), ("mill/numeral.months", laid_mill_numeral_months), ("mill/numeral.words", laid_mill_numeral_words), ("mill/numeral.suffixes", laid_mill_numeral_suffixes), ("mill/numeral.ranks", laid_mill_numeral_ranks), ("mill/collate.classes", laid_mill_collate_classes), ("unicode/utf8.first", laid_unicode_utf8_first)] }
def CollateSettlesSaid : Prop := collateSettlesRow.holds Tryz.pinned (OpenSpec.ofChange collateSettlesSpec)

/-- ITS FALSE NEIGHBOUR: 'it returns false'. Refute it at one input. -/
def collateSettlesWrong : ChangeSpec := { name := "collateSettles", fn := fun _ => fun
  | [d1, d2, d3] => { results := [.lit (.bool false)], args := [d1, d2, d3] }
  | _ => none }
def CollateSettlesWrongFalsely : Prop := collateSettlesRow.holds Tryz.pinned (OpenSpec.ofChange collateSettlesWrong)

/-- 'milllaw5.CollateSorts': WHATEVER THE INPUT: true; the input reads as it did. -/
def collateSortsSpec : ChangeSpec := { name := "collateSorts", fn := fun _ => fun
  | [d1, d2] => { results := [.lit (.bool true)], args := [d1, d2] }
  | _ => none }
def collateSortsRow : OpenClaim := { program := "ytnpnccjeapejdaagreatdoor", sum := "40800aa4f9864885281849b11059280dbdb3f70eb034e8df64afbb702584d564", func := "mill/milllaw5.CollateSorts", spec := "collateSorts", inPlace := ["internal/bytealg.IndexByteString", "internal/bytealg.abigen_runtime_cmpstring", "internal/bytealg.IndexString"], unfollowed := true, recurses := true, named := ["mill/collate.classes", "mill/numeral.words", "unicode/utf8.first", "unicode/utf8.acceptRanges", "mill/numeral.suffixes", "mill/numeral.months", "mill/numeral.ranks", "internal/bytealg.MaxLen"], apart := false, laid := [("unicode/utf8.acceptRanges", laid_unicode_utf8_acceptRanges), ("mill/numeral.months", laid_mill_numeral_months), ("mill/numeral.words", laid_mill_numeral_words), ("mill/numeral.suffixes", laid_mill_numeral_suffixes), ("mill/numeral.ranks", laid_mill_numeral_ranks), ("mill/collate.classes", laid_mill_collate_classes), ("unicode/utf8.first", laid_unicode_utf8_first)] }
def CollateSortsSaid : Prop := collateSortsRow.holds Tryz.pinned (OpenSpec.ofChange collateSortsSpec)

/-- ITS FALSE NEIGHBOUR: 'it returns false'. Refute it at one input. -/
def collateSortsWrong : ChangeSpec := { name := "collateSorts", fn := fun _ => fun
  | [d1, d2] => { results := [.lit (.bool false)], args := [d1, d2] }
  | _ => none }
def CollateSortsWrongFalsely : Prop := collateSortsRow.holds Tryz.pinned (OpenSpec.ofChange collateSortsWrong)

/- THE SECOND FORM. 'bulk': how many values and letters a reading holds, each counted each time it is reached (what is shared counts as often as it is met; a slice's spare places count too). A statement '..UptoSaid' is the law's where the arguments, and the package variables that the reading takes, are together of bulk at most 1048576: NARROWER than '..Said'. Prove '..Said' where nothing that the law and all that it calls make is longer than what came in: it says more and counts as full. Else prove '..UptoSaid'. A law counts once. -/
mutual
def uptoBulk {H : Type} : DataW H → Nat
  | .lit (.string bytes) => bytes.length + 1
  | .lit _ => 1
  | .nil => 1
  | .ptr d => uptoBulk d + 1
  | .slice elems spare => uptoBulkAll elems + uptoBulkAll spare + 1
  | .agg parts => uptoBulkAll parts + 1
  | .iface _ d => uptoBulk d + 1
  | .map entries => uptoBulkEntries entries + 1
  | .held _ => 1
def uptoBulkAll {H : Type} : List (DataW H) → Nat
  | [] => 0
  | d :: r => uptoBulk d + uptoBulkAll r
def uptoBulkEntries {H : Type} : List (Lit × DataW H) → Nat
  | [] => 0
  | x :: r => uptoBulkEntry x + uptoBulkEntries r
def uptoBulkEntry {H : Type} : Lit × DataW H → Nat
  | (.string bytes, d) => bytes.length + uptoBulk d + 1
  | (_, d) => uptoBulk d + 1
 end
def uptoSmall : (H : Type) → List (DataW H) → Bool := fun _ ds => decide (uptoBulkAll ds ≤ 1048576)
def OpenSpec.upto (s : _root_.Go.ChangeSpec) : _root_.Go.OpenSpec := { _root_.Go.OpenSpec.ofChange s with cond := some uptoSmall }

/-- 'milllaw5.CollateTransform', WHERE WHAT IT READS IS OF BULK AT MOST 1048576: true; the input reads as it did. -/
def collateTransformUptoRow : OpenClaim := { program := "ytnpnccjeapejdaagreatdoor", sum := "40800aa4f9864885281849b11059280dbdb3f70eb034e8df64afbb702584d564", func := "mill/milllaw5.CollateTransform", spec := "collateTransform", inPlace := ["internal/bytealg.IndexByteString", "internal/bytealg.abigen_runtime_cmpstring", "internal/bytealg.IndexString"], unfollowed := true, recurses := true, named := ["mill/collate.classes", "mill/numeral.words", "unicode/utf8.first", "unicode/utf8.acceptRanges", "mill/numeral.suffixes", "mill/numeral.months", "mill/numeral.ranks", "internal/bytealg.MaxLen"], apart := false, laid := [("unicode/utf8.acceptRanges", laid_unicode_utf8_acceptRanges), ("mill/numeral.months", laid_mill_numeral_months), ("mill/numeral.words", laid_mill_numeral_words), ("mill/numeral.suffixes", laid_mill_numeral_suffixes), ("mill/numeral.ranks", laid_mill_numeral_ranks), ("mill/collate.classes", laid_mill_collate_classes), ("unicode/utf8.first", laid_unicode_utf8_first)], narrowed := true }
def CollateTransformUptoSaid : Prop := collateTransformUptoRow.holds Tryz.pinned (OpenSpec.upto collateTransformSpec)

/-- 'milllaw5.CollateSettles', WHERE WHAT IT READS IS OF BULK AT MOST 1048576: true; the input reads as it did. -/
def collateSettlesUptoRow : OpenClaim := { program := "ytnpnccjeapejdaagreatdoor", sum := "40800aa4f9864885281849b11059280dbdb3f70eb034e8df64afbb702584d564", func := "mill/milllaw5.CollateSettles", spec := "collateSettles", inPlace := ["internal/bytealg.IndexByteString", "internal/bytealg.abigen_runtime_cmpstring", "internal/bytealg.IndexString"], unfollowed := true, recurses := true, named := ["mill/collate.classes", "mill/numeral.words", "unicode/utf8.first", "unicode/utf8.acceptRanges", "mill/numeral.suffixes", "mill/numeral.months", "mill/numeral.ranks", "internal/bytealg.MaxLen"], apart := false, laid := [("unicode/utf8.acceptRanges", laid_unicode_utf8_acceptRanges), ("mill/numeral.months", laid_mill_numeral_months), ("mill/numeral.words", laid_mill_numeral_words), ("mill/numeral.suffixes", laid_mill_numeral_suffixes), ("mill/numeral.ranks", laid_mill_numeral_ranks), ("mill/collate.classes", laid_mill_collate_classes), ("unicode/utf8.first", laid_unicode_utf8_first)], narrowed := true }
def CollateSettlesUptoSaid : Prop := collateSettlesUptoRow.holds Tryz.pinned (OpenSpec.upto collateSettlesSpec)

/-- 'milllaw5.CollateSorts', WHERE WHAT IT READS IS OF BULK AT MOST 1048576: true; the input reads as it did. -/
def collateSortsUptoRow : OpenClaim := { program := "ytnpnccjeapejdaagreatdoor", sum := "40800aa4f9864885281849b11059280dbdb3f70eb034e8df64afbb702584d564", func := "mill/milllaw5.CollateSorts", spec := "collateSorts", inPlace := ["internal/bytealg.IndexByteString", "internal/bytealg.abigen_runtime_cmpstring", "internal/bytealg.IndexString"], unfollowed := true, recurses := true, named := ["mill/collate.classes", "mill/numeral.words", "unicode/utf8.first", "unicode/utf8.acceptRanges", "mill/numeral.suffixes", "mill/numeral.months", "mill/numeral.ranks", "internal/bytealg.MaxLen"], apart := false, laid := [("unicode/utf8.acceptRanges", laid_unicode_utf8_acceptRanges), ("mill/numeral.months", laid_mill_numeral_months), ("mill/numeral.words", laid_mill_numeral_words), ("mill/numeral.suffixes", laid_mill_numeral_suffixes), ("mill/numeral.ranks", laid_mill_numeral_ranks), ("mill/collate.classes", laid_mill_collate_classes), ("unicode/utf8.first", laid_unicode_utf8_first)], narrowed := true }
def CollateSortsUptoSaid : Prop := collateSortsUptoRow.holds Tryz.pinned (OpenSpec.upto collateSortsSpec)

end Rows
end Go.Proofs.YtnpnccjeapejdaaGreatDoor
