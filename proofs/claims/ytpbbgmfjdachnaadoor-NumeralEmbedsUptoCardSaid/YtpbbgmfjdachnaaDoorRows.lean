/-
  NARROWER THAN 'FOR EVERY INPUT', by the rows' own cells (each row's printed sentence says how): NumeralParts: laid · NumeralMonths: laid · NumeralPreorder: laid · NumeralWhole: laid · NumeralScale: laid · NumeralUnits: laid · NumeralVersions: laid · NumeralEmbedding: laid · NumeralGenerals: laid · NumeralDecimals: laid · NumeralEmbeds: laid · NumeralCompares: laid.
  DERIVED. THE GIVEN ROWS OF THIS SEAT. 12 by the template 'for every input the law returns true; each argument reads behind the call as it read before'; 0 by the template 'total and deterministic' (their statements: YtpbbgmfjdachnaaDoorTotals.lean).
  GIVEN WITH THE SEED: the statements are not yours to turn. If you find one false, say at which input.
  Laid BY PROGRAM, IN A SANDBOX (cutbox-rows.mjs): the forced cells as the released guide's own fill.sh prints them over the translation 1e264793766734a6… (all of the seat's roots in one cut). By AI agents, Wed Nov 11 2026. No macro, syntax, notation, axiom, sorry.
-/
import Derived.Test.YtpbbgmfjdachnaaDoorChecked
import GoSem.PinnedTables
import GoSem.Claim
import GoSem.ClaimJoined
import GoSem.ClaimMapViews
import Derived.JoinedTies
import Derived.KernelRfl
namespace Go.Proofs.YtpbbgmfjdachnaaDoor
/- THE CELL 'sum', in the pinned program and in every row, IS THE sha256 OF THE DUMP (.gsa) THAT YtpbbgmfjdachnaaDoorProg.lean LOADS. Nothing in Lean hashes anything: it is a label: what it is worth is what the hold of that sum in a sandbox is worth. -/
noncomputable def Tryd.pinned : Pinned := { name := "ytpbbgmfjdachnaadoor", sum := "1e264793766734a6ede33c46d001e37012c6dadd7a94dc54597e901af2de87d1", checked := Tryd.checked }
namespace Rows
def none {H : Type} : Left H := { results := [], args := [] }

/- WHAT THE LISTED PACKAGE-LEVEL VARIABLES READ AS WHEN THE CALL BEGINS. Each datum BY PROGRAM (the guide's laid-datum.mjs) off the statement by which the dump's own 'gosem.cut.vars' lays the variable. In a bare row this is a premise. The card (YtpbbgmfjdachnaaDoorCards.lean) ties it to the program's text. -/
def laid_unicode_utf8_acceptRanges {H : Type} : DataW H := .agg [.agg [.lit (.int .u8 128), .lit (.int .u8 191)], .agg [.lit (.int .u8 160), .lit (.int .u8 191)], .agg [.lit (.int .u8 128), .lit (.int .u8 159)], .agg [.lit (.int .u8 144), .lit (.int .u8 191)], .agg [.lit (.int .u8 128), .lit (.int .u8 143)], .agg [.lit (.int .u8 0), .lit (.int .u8 0)], .agg [.lit (.int .u8 0), .lit (.int .u8 0)], .agg [.lit (.int .u8 0), .lit (.int .u8 0)], .agg [.lit (.int .u8 0), .lit (.int .u8 0)], .agg [.lit (.int .u8 0), .lit (.int .u8 0)], .agg [.lit (.int .u8 0), .lit (.int .u8 0)], .agg [.lit (.int .u8 0), .lit (.int .u8 0)], .agg [.lit (.int .u8 0), .lit (.int .u8 0)], .agg [.lit (.int .u8 0), .lit (.int .u8 0)], .agg [.lit (.int .u8 0), .lit (.int .u8 0)], .agg [.lit (.int .u8 0), .lit (.int .u8 0)]]
def laid_mill_numeral_words {H : Type} : DataW H := .agg [.agg [.lit (.string [105, 110, 102, 105, 110, 105, 116, 121]), .lit (.int .u8 4)], .agg [.lit (.string [105, 110, 102]), .lit (.int .u8 4)], .agg [.lit (.string [110, 97, 110]), .lit (.int .u8 1)]]
/-- One of Go's own tables, pinned by name: the form's constant. -/
def laid_unicode_utf8_first : DataW Unit := Go.Pinned.utf8First
def laid_mill_numeral_months {H : Type} : DataW H := .agg [.lit (.string [106, 97, 110]), .lit (.string [102, 101, 98]), .lit (.string [109, 97, 114]), .lit (.string [97, 112, 114]), .lit (.string [109, 97, 121]), .lit (.string [106, 117, 110]), .lit (.string [106, 117, 108]), .lit (.string [97, 117, 103]), .lit (.string [115, 101, 112]), .lit (.string [111, 99, 116]), .lit (.string [110, 111, 118]), .lit (.string [100, 101, 99])]
def laid_mill_numeral_suffixes {H : Type} : DataW H := .agg [.agg [.lit (.int .u8 75), .lit (.int .i64 1)], .agg [.lit (.int .u8 107), .lit (.int .i64 1)], .agg [.lit (.int .u8 77), .lit (.int .i64 2)], .agg [.lit (.int .u8 71), .lit (.int .i64 3)], .agg [.lit (.int .u8 84), .lit (.int .i64 4)], .agg [.lit (.int .u8 80), .lit (.int .i64 5)], .agg [.lit (.int .u8 69), .lit (.int .i64 6)], .agg [.lit (.int .u8 90), .lit (.int .i64 7)], .agg [.lit (.int .u8 89), .lit (.int .i64 8)], .agg [.lit (.int .u8 82), .lit (.int .i64 9)], .agg [.lit (.int .u8 81), .lit (.int .i64 10)]]
def laid_mill_numeral_ranks {H : Type} : DataW H := .agg [.agg [.lit (.int .u8 0), .lit (.int .u8 47), .lit (.int .u8 55)], .agg [.lit (.int .u8 58), .lit (.int .u8 64), .lit (.int .u8 103)], .agg [.lit (.int .u8 65), .lit (.int .u8 90), .lit (.int .u8 3)], .agg [.lit (.int .u8 91), .lit (.int .u8 96), .lit (.int .u8 110)], .agg [.lit (.int .u8 97), .lit (.int .u8 122), .lit (.int .u8 29)], .agg [.lit (.int .u8 123), .lit (.int .u8 125), .lit (.int .u8 116)], .agg [.lit (.int .u8 126), .lit (.int .u8 126), .lit (.int .u8 1)], .agg [.lit (.int .u8 127), .lit (.int .u8 255), .lit (.int .u8 119)]]

/-- 'milllaw3.NumeralParts': WHATEVER THE INPUT: true; the input reads as it did. -/
def numeralPartsSpec : ChangeSpec := { name := "numeralParts", fn := fun _ => fun
  | [d1, d2, d3, d4, d5, d6] => { results := [.lit (.bool true)], args := [d1, d2, d3, d4, d5, d6] }
  | _ => none }
def numeralPartsRow : OpenClaim := { program := "ytpbbgmfjdachnaadoor", sum := "1e264793766734a6ede33c46d001e37012c6dadd7a94dc54597e901af2de87d1", func := "mill/milllaw3.NumeralParts", spec := "numeralParts", inPlace := ["internal/bytealg.IndexByteString", "internal/bytealg.IndexString"], named := ["mill/numeral.words", "unicode/utf8.first", "unicode/utf8.acceptRanges", "internal/bytealg.MaxLen"], apart := false, laid := [("unicode/utf8.acceptRanges", laid_unicode_utf8_acceptRanges), ("mill/numeral.words", laid_mill_numeral_words), ("unicode/utf8.first", laid_unicode_utf8_first)] }
def NumeralPartsSaid : Prop := numeralPartsRow.holds Tryd.pinned (OpenSpec.ofChange numeralPartsSpec)

/-- ITS FALSE NEIGHBOUR: 'it returns false'. Refute it at one input. -/
def numeralPartsWrong : ChangeSpec := { name := "numeralParts", fn := fun _ => fun
  | [d1, d2, d3, d4, d5, d6] => { results := [.lit (.bool false)], args := [d1, d2, d3, d4, d5, d6] }
  | _ => none }
def NumeralPartsWrongFalsely : Prop := numeralPartsRow.holds Tryd.pinned (OpenSpec.ofChange numeralPartsWrong)

/-- 'milllaw3.NumeralMonths': WHATEVER THE INPUT: true; the input reads as it did. -/
def numeralMonthsSpec : ChangeSpec := { name := "numeralMonths", fn := fun _ => fun
  | [d1, d2, d3] => { results := [.lit (.bool true)], args := [d1, d2, d3] }
  | _ => none }
def numeralMonthsRow : OpenClaim := { program := "ytpbbgmfjdachnaadoor", sum := "1e264793766734a6ede33c46d001e37012c6dadd7a94dc54597e901af2de87d1", func := "mill/milllaw3.NumeralMonths", spec := "numeralMonths", inPlace := ["internal/bytealg.IndexByteString", "internal/bytealg.IndexString", "internal/bytealg.abigen_runtime_cmpstring"], named := ["mill/numeral.months", "unicode/utf8.first", "unicode/utf8.acceptRanges", "mill/numeral.words", "mill/numeral.suffixes", "mill/numeral.ranks", "internal/bytealg.MaxLen"], apart := false, laid := [("unicode/utf8.acceptRanges", laid_unicode_utf8_acceptRanges), ("mill/numeral.months", laid_mill_numeral_months), ("mill/numeral.words", laid_mill_numeral_words), ("mill/numeral.suffixes", laid_mill_numeral_suffixes), ("mill/numeral.ranks", laid_mill_numeral_ranks), ("unicode/utf8.first", laid_unicode_utf8_first)] }
def NumeralMonthsSaid : Prop := numeralMonthsRow.holds Tryd.pinned (OpenSpec.ofChange numeralMonthsSpec)

/-- ITS FALSE NEIGHBOUR: 'it returns false'. Refute it at one input. -/
def numeralMonthsWrong : ChangeSpec := { name := "numeralMonths", fn := fun _ => fun
  | [d1, d2, d3] => { results := [.lit (.bool false)], args := [d1, d2, d3] }
  | _ => none }
def NumeralMonthsWrongFalsely : Prop := numeralMonthsRow.holds Tryd.pinned (OpenSpec.ofChange numeralMonthsWrong)

/-- 'milllaw3.NumeralPreorder': WHATEVER THE INPUT: true; the input reads as it did. -/
def numeralPreorderSpec : ChangeSpec := { name := "numeralPreorder", fn := fun _ => fun
  | [d1, d2, d3, d4] => { results := [.lit (.bool true)], args := [d1, d2, d3, d4] }
  | _ => none }
def numeralPreorderRow : OpenClaim := { program := "ytpbbgmfjdachnaadoor", sum := "1e264793766734a6ede33c46d001e37012c6dadd7a94dc54597e901af2de87d1", func := "mill/milllaw3.NumeralPreorder", spec := "numeralPreorder", inPlace := ["internal/bytealg.IndexByteString", "internal/bytealg.IndexString", "internal/bytealg.abigen_runtime_cmpstring"], named := ["mill/numeral.words", "unicode/utf8.first", "unicode/utf8.acceptRanges", "mill/numeral.suffixes", "mill/numeral.months", "mill/numeral.ranks", "internal/bytealg.MaxLen"], apart := false, laid := [("unicode/utf8.acceptRanges", laid_unicode_utf8_acceptRanges), ("mill/numeral.months", laid_mill_numeral_months), ("mill/numeral.words", laid_mill_numeral_words), ("mill/numeral.suffixes", laid_mill_numeral_suffixes), ("mill/numeral.ranks", laid_mill_numeral_ranks), ("unicode/utf8.first", laid_unicode_utf8_first)] }
def NumeralPreorderSaid : Prop := numeralPreorderRow.holds Tryd.pinned (OpenSpec.ofChange numeralPreorderSpec)

/-- ITS FALSE NEIGHBOUR: 'it returns false'. Refute it at one input. -/
def numeralPreorderWrong : ChangeSpec := { name := "numeralPreorder", fn := fun _ => fun
  | [d1, d2, d3, d4] => { results := [.lit (.bool false)], args := [d1, d2, d3, d4] }
  | _ => none }
def NumeralPreorderWrongFalsely : Prop := numeralPreorderRow.holds Tryd.pinned (OpenSpec.ofChange numeralPreorderWrong)

/-- 'milllaw3.NumeralWhole': WHATEVER THE INPUT: true; the input reads as it did. -/
def numeralWholeSpec : ChangeSpec := { name := "numeralWhole", fn := fun _ => fun
  | [d1, d2, d3, d4] => { results := [.lit (.bool true)], args := [d1, d2, d3, d4] }
  | _ => none }
def numeralWholeRow : OpenClaim := { program := "ytpbbgmfjdachnaadoor", sum := "1e264793766734a6ede33c46d001e37012c6dadd7a94dc54597e901af2de87d1", func := "mill/milllaw3.NumeralWhole", spec := "numeralWhole", inPlace := ["internal/bytealg.IndexByteString", "internal/bytealg.IndexString", "internal/bytealg.abigen_runtime_cmpstring"], named := ["mill/numeral.words", "unicode/utf8.first", "unicode/utf8.acceptRanges", "mill/numeral.suffixes", "mill/numeral.months", "mill/numeral.ranks", "internal/bytealg.MaxLen"], apart := false, laid := [("unicode/utf8.acceptRanges", laid_unicode_utf8_acceptRanges), ("mill/numeral.months", laid_mill_numeral_months), ("mill/numeral.words", laid_mill_numeral_words), ("mill/numeral.suffixes", laid_mill_numeral_suffixes), ("mill/numeral.ranks", laid_mill_numeral_ranks), ("unicode/utf8.first", laid_unicode_utf8_first)] }
def NumeralWholeSaid : Prop := numeralWholeRow.holds Tryd.pinned (OpenSpec.ofChange numeralWholeSpec)

/-- ITS FALSE NEIGHBOUR: 'it returns false'. Refute it at one input. -/
def numeralWholeWrong : ChangeSpec := { name := "numeralWhole", fn := fun _ => fun
  | [d1, d2, d3, d4] => { results := [.lit (.bool false)], args := [d1, d2, d3, d4] }
  | _ => none }
def NumeralWholeWrongFalsely : Prop := numeralWholeRow.holds Tryd.pinned (OpenSpec.ofChange numeralWholeWrong)

/-- 'milllaw3.NumeralScale': WHATEVER THE INPUT: true; the input reads as it did. -/
def numeralScaleSpec : ChangeSpec := { name := "numeralScale", fn := fun _ => fun
  | [d1, d2, d3] => { results := [.lit (.bool true)], args := [d1, d2, d3] }
  | _ => none }
def numeralScaleRow : OpenClaim := { program := "ytpbbgmfjdachnaadoor", sum := "1e264793766734a6ede33c46d001e37012c6dadd7a94dc54597e901af2de87d1", func := "mill/milllaw3.NumeralScale", spec := "numeralScale", inPlace := ["internal/bytealg.IndexByteString", "internal/bytealg.IndexString", "internal/bytealg.abigen_runtime_cmpstring"], named := ["mill/numeral.words", "unicode/utf8.first", "unicode/utf8.acceptRanges", "mill/numeral.suffixes", "mill/numeral.months", "mill/numeral.ranks", "internal/bytealg.MaxLen"], apart := false, laid := [("unicode/utf8.acceptRanges", laid_unicode_utf8_acceptRanges), ("mill/numeral.months", laid_mill_numeral_months), ("mill/numeral.words", laid_mill_numeral_words), ("mill/numeral.suffixes", laid_mill_numeral_suffixes), ("mill/numeral.ranks", laid_mill_numeral_ranks), ("unicode/utf8.first", laid_unicode_utf8_first)] }
def NumeralScaleSaid : Prop := numeralScaleRow.holds Tryd.pinned (OpenSpec.ofChange numeralScaleSpec)

/-- ITS FALSE NEIGHBOUR: 'it returns false'. Refute it at one input. -/
def numeralScaleWrong : ChangeSpec := { name := "numeralScale", fn := fun _ => fun
  | [d1, d2, d3] => { results := [.lit (.bool false)], args := [d1, d2, d3] }
  | _ => none }
def NumeralScaleWrongFalsely : Prop := numeralScaleRow.holds Tryd.pinned (OpenSpec.ofChange numeralScaleWrong)

/-- 'milllaw3.NumeralUnits': WHATEVER THE INPUT: true; the input reads as it did. -/
def numeralUnitsSpec : ChangeSpec := { name := "numeralUnits", fn := fun _ => fun
  | [d1, d2, d3, d4] => { results := [.lit (.bool true)], args := [d1, d2, d3, d4] }
  | _ => none }
def numeralUnitsRow : OpenClaim := { program := "ytpbbgmfjdachnaadoor", sum := "1e264793766734a6ede33c46d001e37012c6dadd7a94dc54597e901af2de87d1", func := "mill/milllaw3.NumeralUnits", spec := "numeralUnits", inPlace := ["internal/bytealg.IndexByteString", "internal/bytealg.IndexString", "internal/bytealg.abigen_runtime_cmpstring"], named := ["mill/numeral.words", "unicode/utf8.first", "unicode/utf8.acceptRanges", "mill/numeral.suffixes", "mill/numeral.months", "mill/numeral.ranks", "internal/bytealg.MaxLen"], apart := false, laid := [("unicode/utf8.acceptRanges", laid_unicode_utf8_acceptRanges), ("mill/numeral.months", laid_mill_numeral_months), ("mill/numeral.words", laid_mill_numeral_words), ("mill/numeral.suffixes", laid_mill_numeral_suffixes), ("mill/numeral.ranks", laid_mill_numeral_ranks), ("unicode/utf8.first", laid_unicode_utf8_first)] }
def NumeralUnitsSaid : Prop := numeralUnitsRow.holds Tryd.pinned (OpenSpec.ofChange numeralUnitsSpec)

/-- ITS FALSE NEIGHBOUR: 'it returns false'. Refute it at one input. -/
def numeralUnitsWrong : ChangeSpec := { name := "numeralUnits", fn := fun _ => fun
  | [d1, d2, d3, d4] => { results := [.lit (.bool false)], args := [d1, d2, d3, d4] }
  | _ => none }
def NumeralUnitsWrongFalsely : Prop := numeralUnitsRow.holds Tryd.pinned (OpenSpec.ofChange numeralUnitsWrong)

/-- 'milllaw3.NumeralVersions': WHATEVER THE INPUT: true; the input reads as it did. -/
def numeralVersionsSpec : ChangeSpec := { name := "numeralVersions", fn := fun _ => fun
  | [d1, d2, d3, d4, d5, d6] => { results := [.lit (.bool true)], args := [d1, d2, d3, d4, d5, d6] }
  | _ => none }
def numeralVersionsRow : OpenClaim := { program := "ytpbbgmfjdachnaadoor", sum := "1e264793766734a6ede33c46d001e37012c6dadd7a94dc54597e901af2de87d1", func := "mill/milllaw3.NumeralVersions", spec := "numeralVersions", inPlace := ["internal/bytealg.IndexByteString", "internal/bytealg.IndexString", "internal/bytealg.abigen_runtime_cmpstring"], named := ["mill/numeral.words", "unicode/utf8.first", "unicode/utf8.acceptRanges", "mill/numeral.suffixes", "mill/numeral.months", "mill/numeral.ranks", "internal/bytealg.MaxLen"], apart := false, laid := [("unicode/utf8.acceptRanges", laid_unicode_utf8_acceptRanges), ("mill/numeral.months", laid_mill_numeral_months), ("mill/numeral.words", laid_mill_numeral_words), ("mill/numeral.suffixes", laid_mill_numeral_suffixes), ("mill/numeral.ranks", laid_mill_numeral_ranks), ("unicode/utf8.first", laid_unicode_utf8_first)] }
def NumeralVersionsSaid : Prop := numeralVersionsRow.holds Tryd.pinned (OpenSpec.ofChange numeralVersionsSpec)

/-- ITS FALSE NEIGHBOUR: 'it returns false'. Refute it at one input. -/
def numeralVersionsWrong : ChangeSpec := { name := "numeralVersions", fn := fun _ => fun
  | [d1, d2, d3, d4, d5, d6] => { results := [.lit (.bool false)], args := [d1, d2, d3, d4, d5, d6] }
  | _ => none }
def NumeralVersionsWrongFalsely : Prop := numeralVersionsRow.holds Tryd.pinned (OpenSpec.ofChange numeralVersionsWrong)

/-- 'milllaw3.NumeralEmbedding': WHATEVER THE INPUT: true; the input reads as it did. -/
def numeralEmbeddingSpec : ChangeSpec := { name := "numeralEmbedding", fn := fun _ => fun
  | [d1, d2, d3] => { results := [.lit (.bool true)], args := [d1, d2, d3] }
  | _ => none }
def numeralEmbeddingRow : OpenClaim := { program := "ytpbbgmfjdachnaadoor", sum := "1e264793766734a6ede33c46d001e37012c6dadd7a94dc54597e901af2de87d1", func := "mill/milllaw3.NumeralEmbedding", spec := "numeralEmbedding", inPlace := ["internal/bytealg.IndexByteString", "internal/bytealg.IndexString", "internal/bytealg.abigen_runtime_cmpstring"], named := ["mill/numeral.words", "unicode/utf8.first", "unicode/utf8.acceptRanges", "mill/numeral.suffixes", "mill/numeral.months", "mill/numeral.ranks", "internal/bytealg.MaxLen"], apart := false, laid := [("unicode/utf8.acceptRanges", laid_unicode_utf8_acceptRanges), ("mill/numeral.months", laid_mill_numeral_months), ("mill/numeral.words", laid_mill_numeral_words), ("mill/numeral.suffixes", laid_mill_numeral_suffixes), ("mill/numeral.ranks", laid_mill_numeral_ranks), ("unicode/utf8.first", laid_unicode_utf8_first)] }
def NumeralEmbeddingSaid : Prop := numeralEmbeddingRow.holds Tryd.pinned (OpenSpec.ofChange numeralEmbeddingSpec)

/-- ITS FALSE NEIGHBOUR: 'it returns false'. Refute it at one input. -/
def numeralEmbeddingWrong : ChangeSpec := { name := "numeralEmbedding", fn := fun _ => fun
  | [d1, d2, d3] => { results := [.lit (.bool false)], args := [d1, d2, d3] }
  | _ => none }
def NumeralEmbeddingWrongFalsely : Prop := numeralEmbeddingRow.holds Tryd.pinned (OpenSpec.ofChange numeralEmbeddingWrong)

/-- 'milllaw3.NumeralGenerals': WHATEVER THE INPUT: true; the input reads as it did. -/
def numeralGeneralsSpec : ChangeSpec := { name := "numeralGenerals", fn := fun _ => fun
  | [d] => { results := [.lit (.bool true)], args := [d] }
  | _ => none }
def numeralGeneralsRow : OpenClaim := { program := "ytpbbgmfjdachnaadoor", sum := "1e264793766734a6ede33c46d001e37012c6dadd7a94dc54597e901af2de87d1", func := "mill/milllaw3.NumeralGenerals", spec := "numeralGenerals", inPlace := ["internal/bytealg.IndexByteString", "internal/bytealg.IndexString", "internal/bytealg.abigen_runtime_cmpstring"], named := ["mill/numeral.words", "unicode/utf8.first", "unicode/utf8.acceptRanges", "mill/numeral.suffixes", "mill/numeral.months", "mill/numeral.ranks", "internal/bytealg.MaxLen"], apart := false, laid := [("unicode/utf8.acceptRanges", laid_unicode_utf8_acceptRanges), ("mill/numeral.months", laid_mill_numeral_months), ("mill/numeral.words", laid_mill_numeral_words), ("mill/numeral.suffixes", laid_mill_numeral_suffixes), ("mill/numeral.ranks", laid_mill_numeral_ranks), ("unicode/utf8.first", laid_unicode_utf8_first)] }
def NumeralGeneralsSaid : Prop := numeralGeneralsRow.holds Tryd.pinned (OpenSpec.ofChange numeralGeneralsSpec)

/-- ITS FALSE NEIGHBOUR: 'it returns false'. Refute it at one input. -/
def numeralGeneralsWrong : ChangeSpec := { name := "numeralGenerals", fn := fun _ => fun
  | [d] => { results := [.lit (.bool false)], args := [d] }
  | _ => none }
def NumeralGeneralsWrongFalsely : Prop := numeralGeneralsRow.holds Tryd.pinned (OpenSpec.ofChange numeralGeneralsWrong)

/-- 'milllaw3.NumeralDecimals': WHATEVER THE INPUT: true; the input reads as it did. -/
def numeralDecimalsSpec : ChangeSpec := { name := "numeralDecimals", fn := fun _ => fun
  | [d] => { results := [.lit (.bool true)], args := [d] }
  | _ => none }
def numeralDecimalsRow : OpenClaim := { program := "ytpbbgmfjdachnaadoor", sum := "1e264793766734a6ede33c46d001e37012c6dadd7a94dc54597e901af2de87d1", func := "mill/milllaw3.NumeralDecimals", spec := "numeralDecimals", inPlace := ["internal/bytealg.IndexByteString", "internal/bytealg.IndexString", "internal/bytealg.abigen_runtime_cmpstring"], named := ["mill/numeral.words", "unicode/utf8.first", "unicode/utf8.acceptRanges", "mill/numeral.suffixes", "mill/numeral.months", "mill/numeral.ranks", "internal/bytealg.MaxLen"], apart := false, laid := [("unicode/utf8.acceptRanges", laid_unicode_utf8_acceptRanges), ("mill/numeral.months", laid_mill_numeral_months), ("mill/numeral.words", laid_mill_numeral_words), ("mill/numeral.suffixes", laid_mill_numeral_suffixes), ("mill/numeral.ranks", laid_mill_numeral_ranks), ("unicode/utf8.first", laid_unicode_utf8_first)] }
def NumeralDecimalsSaid : Prop := numeralDecimalsRow.holds Tryd.pinned (OpenSpec.ofChange numeralDecimalsSpec)

/-- ITS FALSE NEIGHBOUR: 'it returns false'. Refute it at one input. -/
def numeralDecimalsWrong : ChangeSpec := { name := "numeralDecimals", fn := fun _ => fun
  | [d] => { results := [.lit (.bool false)], args := [d] }
  | _ => none }
def NumeralDecimalsWrongFalsely : Prop := numeralDecimalsRow.holds Tryd.pinned (OpenSpec.ofChange numeralDecimalsWrong)

/-- 'milllaw3.NumeralEmbeds': WHATEVER THE INPUT: true; the input reads as it did. -/
def numeralEmbedsSpec : ChangeSpec := { name := "numeralEmbeds", fn := fun _ => fun
  | [d1, d2] => { results := [.lit (.bool true)], args := [d1, d2] }
  | _ => none }
def numeralEmbedsRow : OpenClaim := { program := "ytpbbgmfjdachnaadoor", sum := "1e264793766734a6ede33c46d001e37012c6dadd7a94dc54597e901af2de87d1", func := "mill/milllaw3.NumeralEmbeds", spec := "numeralEmbeds", inPlace := ["internal/bytealg.IndexByteString", "internal/bytealg.IndexString", "internal/bytealg.abigen_runtime_cmpstring"], named := ["mill/numeral.words", "unicode/utf8.first", "unicode/utf8.acceptRanges", "mill/numeral.suffixes", "mill/numeral.months", "mill/numeral.ranks", "internal/bytealg.MaxLen"], apart := false, laid := [("unicode/utf8.acceptRanges", laid_unicode_utf8_acceptRanges), ("mill/numeral.months", laid_mill_numeral_months), ("mill/numeral.words", laid_mill_numeral_words), ("mill/numeral.suffixes", laid_mill_numeral_suffixes), ("mill/numeral.ranks", laid_mill_numeral_ranks), ("unicode/utf8.first", laid_unicode_utf8_first)] }
def NumeralEmbedsSaid : Prop := numeralEmbedsRow.holds Tryd.pinned (OpenSpec.ofChange numeralEmbedsSpec)

/-- ITS FALSE NEIGHBOUR: 'it returns false'. Refute it at one input. -/
def numeralEmbedsWrong : ChangeSpec := { name := "numeralEmbeds", fn := fun _ => fun
  | [d1, d2] => { results := [.lit (.bool false)], args := [d1, d2] }
  | _ => none }
def NumeralEmbedsWrongFalsely : Prop := numeralEmbedsRow.holds Tryd.pinned (OpenSpec.ofChange numeralEmbedsWrong)

/-- 'milllaw3.NumeralCompares': WHATEVER THE INPUT: true; the input reads as it did. -/
def numeralComparesSpec : ChangeSpec := { name := "numeralCompares", fn := fun _ => fun
  | [d1, d2, d3] => { results := [.lit (.bool true)], args := [d1, d2, d3] }
  | _ => none }
def numeralComparesRow : OpenClaim := { program := "ytpbbgmfjdachnaadoor", sum := "1e264793766734a6ede33c46d001e37012c6dadd7a94dc54597e901af2de87d1", func := "mill/milllaw3.NumeralCompares", spec := "numeralCompares", inPlace := ["internal/bytealg.IndexByteString", "internal/bytealg.IndexString", "internal/bytealg.abigen_runtime_cmpstring"], named := ["mill/numeral.words", "unicode/utf8.first", "unicode/utf8.acceptRanges", "mill/numeral.suffixes", "mill/numeral.months", "mill/numeral.ranks", "internal/bytealg.MaxLen"], apart := false, laid := [("unicode/utf8.acceptRanges", laid_unicode_utf8_acceptRanges), ("mill/numeral.months", laid_mill_numeral_months), ("mill/numeral.words", laid_mill_numeral_words), ("mill/numeral.suffixes", laid_mill_numeral_suffixes), ("mill/numeral.ranks", laid_mill_numeral_ranks), ("unicode/utf8.first", laid_unicode_utf8_first)] }
def NumeralComparesSaid : Prop := numeralComparesRow.holds Tryd.pinned (OpenSpec.ofChange numeralComparesSpec)

/-- ITS FALSE NEIGHBOUR: 'it returns false'. Refute it at one input. -/
def numeralComparesWrong : ChangeSpec := { name := "numeralCompares", fn := fun _ => fun
  | [d1, d2, d3] => { results := [.lit (.bool false)], args := [d1, d2, d3] }
  | _ => none }
def NumeralComparesWrongFalsely : Prop := numeralComparesRow.holds Tryd.pinned (OpenSpec.ofChange numeralComparesWrong)

/- THE SECOND FORM. 'bulk': how many values and letters a reading holds, each counted each time it is reached (what is shared counts as often as it is met; a slice's spare places count too). A statement '..UptoSaid' is the law's where the arguments, and the package variables that the reading takes, are together of bulk at most 1048576: NARROWER than '..Said'. Prove '..Said' where nothing that the law and all that it calls make is longer than what came in: it says more and counts as full. Else prove '..UptoSaid'. A law counts once. -/
mutual
def uptoBulk {H : Type} : DataW H → Nat
  | .lit (.string bytes) => bytes.length + 1
  | .lit _ => 1
  | .nil => 1
  | .ptr d => uptoBulk d + 1
  | .slice elems spare => uptoBulkAll elems + uptoBulkAll spare + 1
  | .agg parts => uptoBulkAll parts + 1
  | .iface _ d => uptoBulk d + 1
  | .map entries => uptoBulkEntries entries + 1
  | .held _ => 1
def uptoBulkAll {H : Type} : List (DataW H) → Nat
  | [] => 0
  | d :: r => uptoBulk d + uptoBulkAll r
def uptoBulkEntries {H : Type} : List (Lit × DataW H) → Nat
  | [] => 0
  | x :: r => uptoBulkEntry x + uptoBulkEntries r
def uptoBulkEntry {H : Type} : Lit × DataW H → Nat
  | (.string bytes, d) => bytes.length + uptoBulk d + 1
  | (_, d) => uptoBulk d + 1
 end
def uptoSmall : (H : Type) → List (DataW H) → Bool := fun _ ds => decide (uptoBulkAll ds ≤ 1048576)
def OpenSpec.upto (s : _root_.Go.ChangeSpec) : _root_.Go.OpenSpec := { _root_.Go.OpenSpec.ofChange s with cond := some uptoSmall }

/-- 'milllaw3.NumeralParts', WHERE WHAT IT READS IS OF BULK AT MOST 1048576: true; the input reads as it did. -/
def numeralPartsUptoRow : OpenClaim := { program := "ytpbbgmfjdachnaadoor", sum := "1e264793766734a6ede33c46d001e37012c6dadd7a94dc54597e901af2de87d1", func := "mill/milllaw3.NumeralParts", spec := "numeralParts", inPlace := ["internal/bytealg.IndexByteString", "internal/bytealg.IndexString"], named := ["mill/numeral.words", "unicode/utf8.first", "unicode/utf8.acceptRanges", "internal/bytealg.MaxLen"], apart := false, laid := [("unicode/utf8.acceptRanges", laid_unicode_utf8_acceptRanges), ("mill/numeral.words", laid_mill_numeral_words), ("unicode/utf8.first", laid_unicode_utf8_first)], narrowed := true }
def NumeralPartsUptoSaid : Prop := numeralPartsUptoRow.holds Tryd.pinned (OpenSpec.upto numeralPartsSpec)

/-- 'milllaw3.NumeralMonths', WHERE WHAT IT READS IS OF BULK AT MOST 1048576: true; the input reads as it did. -/
def numeralMonthsUptoRow : OpenClaim := { program := "ytpbbgmfjdachnaadoor", sum := "1e264793766734a6ede33c46d001e37012c6dadd7a94dc54597e901af2de87d1", func := "mill/milllaw3.NumeralMonths", spec := "numeralMonths", inPlace := ["internal/bytealg.IndexByteString", "internal/bytealg.IndexString", "internal/bytealg.abigen_runtime_cmpstring"], named := ["mill/numeral.months", "unicode/utf8.first", "unicode/utf8.acceptRanges", "mill/numeral.words", "mill/numeral.suffixes", "mill/numeral.ranks", "internal/bytealg.MaxLen"], apart := false, laid := [("unicode/utf8.acceptRanges", laid_unicode_utf8_acceptRanges), ("mill/numeral.months", laid_mill_numeral_months), ("mill/numeral.words", laid_mill_numeral_words), ("mill/numeral.suffixes", laid_mill_numeral_suffixes), ("mill/numeral.ranks", laid_mill_numeral_ranks), ("unicode/utf8.first", laid_unicode_utf8_first)], narrowed := true }
def NumeralMonthsUptoSaid : Prop := numeralMonthsUptoRow.holds Tryd.pinned (OpenSpec.upto numeralMonthsSpec)

/-- 'milllaw3.NumeralPreorder', WHERE WHAT IT READS IS OF BULK AT MOST 1048576: true; the input reads as it did. -/
def numeralPreorderUptoRow : OpenClaim := { program := "ytpbbgmfjdachnaadoor", sum := "1e264793766734a6ede33c46d001e37012c6dadd7a94dc54597e901af2de87d1", func := "mill/milllaw3.NumeralPreorder", spec := "numeralPreorder", inPlace := ["internal/bytealg.IndexByteString", "internal/bytealg.IndexString", "internal/bytealg.abigen_runtime_cmpstring"], named := ["mill/numeral.words", "unicode/utf8.first", "unicode/utf8.acceptRanges", "mill/numeral.suffixes", "mill/numeral.months", "mill/numeral.ranks", "internal/bytealg.MaxLen"], apart := false, laid := [("unicode/utf8.acceptRanges", laid_unicode_utf8_acceptRanges), ("mill/numeral.months", laid_mill_numeral_months), ("mill/numeral.words", laid_mill_numeral_words), ("mill/numeral.suffixes", laid_mill_numeral_suffixes), ("mill/numeral.ranks", laid_mill_numeral_ranks), ("unicode/utf8.first", laid_unicode_utf8_first)], narrowed := true }
def NumeralPreorderUptoSaid : Prop := numeralPreorderUptoRow.holds Tryd.pinned (OpenSpec.upto numeralPreorderSpec)

/-- 'milllaw3.NumeralWhole', WHERE WHAT IT READS IS OF BULK AT MOST 1048576: true; the input reads as it did. -/
def numeralWholeUptoRow : OpenClaim := { program := "ytpbbgmfjdachnaadoor", sum := "1e264793766734a6ede33c46d001e37012c6dadd7a94dc54597e901af2de87d1", func := "mill/milllaw3.NumeralWhole", spec := "numeralWhole", inPlace := ["internal/bytealg.IndexByteString", "internal/bytealg.IndexString", "internal/bytealg.abigen_runtime_cmpstring"], named := ["mill/numeral.words", "unicode/utf8.first", "unicode/utf8.acceptRanges", "mill/numeral.suffixes", "mill/numeral.months", "mill/numeral.ranks", "internal/bytealg.MaxLen"], apart := false, laid := [("unicode/utf8.acceptRanges", laid_unicode_utf8_acceptRanges), ("mill/numeral.months", laid_mill_numeral_months), ("mill/numeral.words", laid_mill_numeral_words), ("mill/numeral.suffixes", laid_mill_numeral_suffixes), ("mill/numeral.ranks", laid_mill_numeral_ranks), ("unicode/utf8.first", laid_unicode_utf8_first)], narrowed := true }
def NumeralWholeUptoSaid : Prop := numeralWholeUptoRow.holds Tryd.pinned (OpenSpec.upto numeralWholeSpec)

/-- 'milllaw3.NumeralScale', WHERE WHAT IT READS IS OF BULK AT MOST 1048576: true; the input reads as it did. -/
def numeralScaleUptoRow : OpenClaim := { program := "ytpbbgmfjdachnaadoor", sum := "1e264793766734a6ede33c46d001e37012c6dadd7a94dc54597e901af2de87d1", func := "mill/milllaw3.NumeralScale", spec := "numeralScale", inPlace := ["internal/bytealg.IndexByteString", "internal/bytealg.IndexString", "internal/bytealg.abigen_runtime_cmpstring"], named := ["mill/numeral.words", "unicode/utf8.first", "unicode/utf8.acceptRanges", "mill/numeral.suffixes", "mill/numeral.months", "mill/numeral.ranks", "internal/bytealg.MaxLen"], apart := false, laid := [("unicode/utf8.acceptRanges", laid_unicode_utf8_acceptRanges), ("mill/numeral.months", laid_mill_numeral_months), ("mill/numeral.words", laid_mill_numeral_words), ("mill/numeral.suffixes", laid_mill_numeral_suffixes), ("mill/numeral.ranks", laid_mill_numeral_ranks), ("unicode/utf8.first", laid_unicode_utf8_first)], narrowed := true }
def NumeralScaleUptoSaid : Prop := numeralScaleUptoRow.holds Tryd.pinned (OpenSpec.upto numeralScaleSpec)

/-- 'milllaw3.NumeralUnits', WHERE WHAT IT READS IS OF BULK AT MOST 1048576: true; the input reads as it did. -/
def numeralUnitsUptoRow : OpenClaim := { program := "ytpbbgmfjdachnaadoor", sum := "1e264793766734a6ede33c46d001e37012c6dadd7a94dc54597e901af2de87d1", func := "mill/milllaw3.NumeralUnits", spec := "numeralUnits", inPlace := ["internal/bytealg.IndexByteString", "internal/bytealg.IndexString", "internal/bytealg.abigen_runtime_cmpstring"], named := ["mill/numeral.words", "unicode/utf8.first", "unicode/utf8.acceptRanges", "mill/numeral.suffixes", "mill/numeral.months", "mill/numeral.ranks", "internal/bytealg.MaxLen"], apart := false, laid := [("unicode/utf8.acceptRanges", laid_unicode_utf8_acceptRanges), ("mill/numeral.months", laid_mill_numeral_months), ("mill/numeral.words", laid_mill_numeral_words), ("mill/numeral.suffixes", laid_mill_numeral_suffixes), ("mill/numeral.ranks", laid_mill_numeral_ranks), ("unicode/utf8.first", laid_unicode_utf8_first)], narrowed := true }
def NumeralUnitsUptoSaid : Prop := numeralUnitsUptoRow.holds Tryd.pinned (OpenSpec.upto numeralUnitsSpec)

/-- 'milllaw3.NumeralVersions', WHERE WHAT IT READS IS OF BULK AT MOST 1048576: true; the input reads as it did. -/
def numeralVersionsUptoRow : OpenClaim := { program := "ytpbbgmfjdachnaadoor", sum := "1e264793766734a6ede33c46d001e37012c6dadd7a94dc54597e901af2de87d1", func := "mill/milllaw3.NumeralVersions", spec := "numeralVersions", inPlace := ["internal/bytealg.IndexByteString", "internal/bytealg.IndexString", "internal/bytealg.abigen_runtime_cmpstring"], named := ["mill/numeral.words", "unicode/utf8.first", "unicode/utf8.acceptRanges", "mill/numeral.suffixes", "mill/numeral.months", "mill/numeral.ranks", "internal/bytealg.MaxLen"], apart := false, laid := [("unicode/utf8.acceptRanges", laid_unicode_utf8_acceptRanges), ("mill/numeral.months", laid_mill_numeral_months), ("mill/numeral.words", laid_mill_numeral_words), ("mill/numeral.suffixes", laid_mill_numeral_suffixes), ("mill/numeral.ranks", laid_mill_numeral_ranks), ("unicode/utf8.first", laid_unicode_utf8_first)], narrowed := true }
def NumeralVersionsUptoSaid : Prop := numeralVersionsUptoRow.holds Tryd.pinned (OpenSpec.upto numeralVersionsSpec)

/-- 'milllaw3.NumeralEmbedding', WHERE WHAT IT READS IS OF BULK AT MOST 1048576: true; the input reads as it did. -/
def numeralEmbeddingUptoRow : OpenClaim := { program := "ytpbbgmfjdachnaadoor", sum := "1e264793766734a6ede33c46d001e37012c6dadd7a94dc54597e901af2de87d1", func := "mill/milllaw3.NumeralEmbedding", spec := "numeralEmbedding", inPlace := ["internal/bytealg.IndexByteString", "internal/bytealg.IndexString", "internal/bytealg.abigen_runtime_cmpstring"], named := ["mill/numeral.words", "unicode/utf8.first", "unicode/utf8.acceptRanges", "mill/numeral.suffixes", "mill/numeral.months", "mill/numeral.ranks", "internal/bytealg.MaxLen"], apart := false, laid := [("unicode/utf8.acceptRanges", laid_unicode_utf8_acceptRanges), ("mill/numeral.months", laid_mill_numeral_months), ("mill/numeral.words", laid_mill_numeral_words), ("mill/numeral.suffixes", laid_mill_numeral_suffixes), ("mill/numeral.ranks", laid_mill_numeral_ranks), ("unicode/utf8.first", laid_unicode_utf8_first)], narrowed := true }
def NumeralEmbeddingUptoSaid : Prop := numeralEmbeddingUptoRow.holds Tryd.pinned (OpenSpec.upto numeralEmbeddingSpec)

/-- 'milllaw3.NumeralGenerals', WHERE WHAT IT READS IS OF BULK AT MOST 1048576: true; the input reads as it did. -/
def numeralGeneralsUptoRow : OpenClaim := { program := "ytpbbgmfjdachnaadoor", sum := "1e264793766734a6ede33c46d001e37012c6dadd7a94dc54597e901af2de87d1", func := "mill/milllaw3.NumeralGenerals", spec := "numeralGenerals", inPlace := ["internal/bytealg.IndexByteString", "internal/bytealg.IndexString", "internal/bytealg.abigen_runtime_cmpstring"], named := ["mill/numeral.words", "unicode/utf8.first", "unicode/utf8.acceptRanges", "mill/numeral.suffixes", "mill/numeral.months", "mill/numeral.ranks", "internal/bytealg.MaxLen"], apart := false, laid := [("unicode/utf8.acceptRanges", laid_unicode_utf8_acceptRanges), ("mill/numeral.months", laid_mill_numeral_months), ("mill/numeral.words", laid_mill_numeral_words), ("mill/numeral.suffixes", laid_mill_numeral_suffixes), ("mill/numeral.ranks", laid_mill_numeral_ranks), ("unicode/utf8.first", laid_unicode_utf8_first)], narrowed := true }
def NumeralGeneralsUptoSaid : Prop := numeralGeneralsUptoRow.holds Tryd.pinned (OpenSpec.upto numeralGeneralsSpec)

/-- 'milllaw3.NumeralDecimals', WHERE WHAT IT READS IS OF BULK AT MOST 1048576: true; the input reads as it did. -/
def numeralDecimalsUptoRow : OpenClaim := { program := "ytpbbgmfjdachnaadoor", sum := "1e264793766734a6ede33c46d001e37012c6dadd7a94dc54597e901af2de87d1", func := "mill/milllaw3.NumeralDecimals", spec := "numeralDecimals", inPlace := ["internal/bytealg.IndexByteString", "internal/bytealg.IndexString", "internal/bytealg.abigen_runtime_cmpstring"], named := ["mill/numeral.words", "unicode/utf8.first", "unicode/utf8.acceptRanges", "mill/numeral.suffixes", "mill/numeral.months", "mill/numeral.ranks", "internal/bytealg.MaxLen"], apart := false, laid := [("unicode/utf8.acceptRanges", laid_unicode_utf8_acceptRanges), ("mill/numeral.months", laid_mill_numeral_months), ("mill/numeral.words", laid_mill_numeral_words), ("mill/numeral.suffixes", laid_mill_numeral_suffixes), ("mill/numeral.ranks", laid_mill_numeral_ranks), ("unicode/utf8.first", laid_unicode_utf8_first)], narrowed := true }
def NumeralDecimalsUptoSaid : Prop := numeralDecimalsUptoRow.holds Tryd.pinned (OpenSpec.upto numeralDecimalsSpec)

/-- 'milllaw3.NumeralEmbeds', WHERE WHAT IT READS IS OF BULK AT MOST 1048576: true; the input reads as it did. -/
def numeralEmbedsUptoRow : OpenClaim := { program := "ytpbbgmfjdachnaadoor", sum := "1e264793766734a6ede33c46d001e37012c6dadd7a94dc54597e901af2de87d1", func := "mill/milllaw3.NumeralEmbeds", spec := "numeralEmbeds", inPlace := ["internal/bytealg.IndexByteString", "internal/bytealg.IndexString", "internal/bytealg.abigen_runtime_cmpstring"], named := ["mill/numeral.words", "unicode/utf8.first", "unicode/utf8.acceptRanges", "mill/numeral.suffixes", "mill/numeral.months", "mill/numeral.ranks", "internal/bytealg.MaxLen"], apart := false, laid := [("unicode/utf8.acceptRanges", laid_unicode_utf8_acceptRanges), ("mill/numeral.months", laid_mill_numeral_months), ("mill/numeral.words", laid_mill_numeral_words), ("mill/numeral.suffixes", laid_mill_numeral_suffixes), ("mill/numeral.ranks", laid_mill_numeral_ranks), ("unicode/utf8.first", laid_unicode_utf8_first)], narrowed := true }
def NumeralEmbedsUptoSaid : Prop := numeralEmbedsUptoRow.holds Tryd.pinned (OpenSpec.upto numeralEmbedsSpec)

/-- 'milllaw3.NumeralCompares', WHERE WHAT IT READS IS OF BULK AT MOST 1048576: true; the input reads as it did. -/
def numeralComparesUptoRow : OpenClaim := { program := "ytpbbgmfjdachnaadoor", sum := "1e264793766734a6ede33c46d001e37012c6dadd7a94dc54597e901af2de87d1", func := "mill/milllaw3.NumeralCompares", spec := "numeralCompares", inPlace := ["internal/bytealg.IndexByteString", "internal/bytealg.IndexString", "internal/bytealg.abigen_runtime_cmpstring"], named := ["mill/numeral.words", "unicode/utf8.first", "unicode/utf8.acceptRanges", "mill/numeral.suffixes", "mill/numeral.months", "mill/numeral.ranks", "internal/bytealg.MaxLen"], apart := false, laid := [("unicode/utf8.acceptRanges", laid_unicode_utf8_acceptRanges), ("mill/numeral.months", laid_mill_numeral_months), ("mill/numeral.words", laid_mill_numeral_words), ("mill/numeral.suffixes", laid_mill_numeral_suffixes), ("mill/numeral.ranks", laid_mill_numeral_ranks), ("unicode/utf8.first", laid_unicode_utf8_first)], narrowed := true }
def NumeralComparesUptoSaid : Prop := numeralComparesUptoRow.holds Tryd.pinned (OpenSpec.upto numeralComparesSpec)

end Rows
end Go.Proofs.YtpbbgmfjdachnaaDoor
