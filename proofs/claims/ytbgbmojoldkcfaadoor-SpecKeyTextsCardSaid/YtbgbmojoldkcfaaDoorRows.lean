/-
  NARROWER THAN 'FOR EVERY INPUT', by the rows' own cells (each row's printed sentence says how): SpecNames: laid · SpecKeys: laid · SpecKeyTexts: laid.
  DERIVED. THE GIVEN ROWS OF THIS SEAT. 3 by the template 'for every input the law returns true; each argument reads behind the call as it read before'; 0 by the template 'total and deterministic' (their statements: YtbgbmojoldkcfaaDoorTotals.lean).
  GIVEN WITH THE SEED: the statements are not yours to turn. If you find one false, say at which input.
  Laid BY PROGRAM, IN A SANDBOX (cutbox-rows.mjs): the forced cells as the released guide's own fill.sh prints them over the translation 211948adeed3ab36… (all of the seat's roots in one cut). By AI agents, Wed Nov 11 2026. No macro, syntax, notation, axiom, sorry.
-/
import Derived.Test.YtbgbmojoldkcfaaDoorChecked
import GoSem.Claim
import GoSem.ClaimJoined
import GoSem.ClaimMapViews
import Derived.JoinedTies
import Derived.KernelRfl
namespace Go.Proofs.YtbgbmojoldkcfaaDoor
/- THE CELL 'sum', in the pinned program and in every row, IS THE sha256 OF THE DUMP (.gsa) THAT YtbgbmojoldkcfaaDoorProg.lean LOADS. Nothing in Lean hashes anything: it is a label: what it is worth is what the hold of that sum in a sandbox is worth. -/
noncomputable def Tryd.pinned : Pinned := { name := "ytbgbmojoldkcfaadoor", sum := "211948adeed3ab361bab7ac9f681a021bf212d67a396fc1ee27100738b8cf078", checked := Tryd.checked }
namespace Rows
def none {H : Type} : Left H := { results := [], args := [] }

/- WHAT THE LISTED PACKAGE-LEVEL VARIABLES READ AS WHEN THE CALL BEGINS. Each datum BY PROGRAM (the guide's laid-datum.mjs) off the statement by which the dump's own 'gosem.cut.vars' lays the variable. In a bare row this is a premise. The card (YtbgbmojoldkcfaaDoorCards.lean) ties it to the program's text. -/
def laid_mill_millref4_names {H : Type} : DataW H := .slice [.agg [.lit (.string [105, 103, 110, 111, 114, 101, 45, 108, 101, 97, 100, 105, 110, 103, 45, 98, 108, 97, 110, 107, 115]), .lit (.int .u8 98), .lit (.int .i64 0)], .agg [.lit (.string [100, 105, 99, 116, 105, 111, 110, 97, 114, 121, 45, 111, 114, 100, 101, 114]), .lit (.int .u8 100), .lit (.int .i64 0)], .agg [.lit (.string [105, 103, 110, 111, 114, 101, 45, 99, 97, 115, 101]), .lit (.int .u8 102), .lit (.int .i64 0)], .agg [.lit (.string [103, 101, 110, 101, 114, 97, 108, 45, 110, 117, 109, 101, 114, 105, 99, 45, 115, 111, 114, 116]), .lit (.int .u8 103), .lit (.int .i64 0)], .agg [.lit (.string [104, 117, 109, 97, 110, 45, 110, 117, 109, 101, 114, 105, 99, 45, 115, 111, 114, 116]), .lit (.int .u8 104), .lit (.int .i64 0)], .agg [.lit (.string [105, 103, 110, 111, 114, 101, 45, 110, 111, 110, 112, 114, 105, 110, 116, 105, 110, 103]), .lit (.int .u8 105), .lit (.int .i64 0)], .agg [.lit (.string [109, 111, 110, 116, 104, 45, 115, 111, 114, 116]), .lit (.int .u8 77), .lit (.int .i64 0)], .agg [.lit (.string [110, 117, 109, 101, 114, 105, 99, 45, 115, 111, 114, 116]), .lit (.int .u8 110), .lit (.int .i64 0)], .agg [.lit (.string [114, 101, 118, 101, 114, 115, 101]), .lit (.int .u8 114), .lit (.int .i64 0)], .agg [.lit (.string [118, 101, 114, 115, 105, 111, 110, 45, 115, 111, 114, 116]), .lit (.int .u8 86), .lit (.int .i64 0)], .agg [.lit (.string [99, 104, 101, 99, 107]), .lit (.int .u8 99), .lit (.int .i64 2)], .agg [.lit (.string [109, 101, 114, 103, 101]), .lit (.int .u8 109), .lit (.int .i64 0)], .agg [.lit (.string [115, 116, 97, 98, 108, 101]), .lit (.int .u8 115), .lit (.int .i64 0)], .agg [.lit (.string [117, 110, 105, 113, 117, 101]), .lit (.int .u8 117), .lit (.int .i64 0)], .agg [.lit (.string [122, 101, 114, 111, 45, 116, 101, 114, 109, 105, 110, 97, 116, 101, 100]), .lit (.int .u8 122), .lit (.int .i64 0)], .agg [.lit (.string [107, 101, 121]), .lit (.int .u8 107), .lit (.int .i64 1)], .agg [.lit (.string [111, 117, 116, 112, 117, 116]), .lit (.int .u8 111), .lit (.int .i64 1)], .agg [.lit (.string [102, 105, 101, 108, 100, 45, 115, 101, 112, 97, 114, 97, 116, 111, 114]), .lit (.int .u8 116), .lit (.int .i64 1)], .agg [.lit (.string [98, 117, 102, 102, 101, 114, 45, 115, 105, 122, 101]), .lit (.int .u8 83), .lit (.int .i64 1)], .agg [.lit (.string [116, 101, 109, 112, 111, 114, 97, 114, 121, 45, 112, 114, 101, 102, 105, 120]), .lit (.int .u8 84), .lit (.int .i64 1)], .agg [.lit (.string [108, 105, 110, 101, 115]), .lit (.int .u8 0), .lit (.int .i64 1)], .agg [.lit (.string [98, 97, 116, 99, 104, 45, 115, 105, 122, 101]), .lit (.int .u8 0), .lit (.int .i64 1)], .agg [.lit (.string [112, 97, 114, 97, 108, 108, 101, 108]), .lit (.int .u8 0), .lit (.int .i64 1)], .agg [.lit (.string [112, 97, 99, 107]), .lit (.int .u8 0), .lit (.int .i64 0)], .agg [.lit (.string [99, 104, 101, 99, 107, 112, 111, 105, 110, 116]), .lit (.int .u8 0), .lit (.int .i64 1)], .agg [.lit (.string [115, 111, 114, 116]), .lit (.int .u8 0), .lit (.int .i64 1)]] []
def laid_mill_keyspec_options {H : Type} : DataW H := .agg [.agg [.lit (.string [105, 103, 110, 111, 114, 101, 45, 108, 101, 97, 100, 105, 110, 103, 45, 98, 108, 97, 110, 107, 115]), .lit (.int .u8 98), .lit (.bool false), .lit (.string [])], .agg [.lit (.string [100, 105, 99, 116, 105, 111, 110, 97, 114, 121, 45, 111, 114, 100, 101, 114]), .lit (.int .u8 100), .lit (.bool false), .lit (.string [])], .agg [.lit (.string [105, 103, 110, 111, 114, 101, 45, 99, 97, 115, 101]), .lit (.int .u8 102), .lit (.bool false), .lit (.string [])], .agg [.lit (.string [103, 101, 110, 101, 114, 97, 108, 45, 110, 117, 109, 101, 114, 105, 99, 45, 115, 111, 114, 116]), .lit (.int .u8 103), .lit (.bool false), .lit (.string [])], .agg [.lit (.string [104, 117, 109, 97, 110, 45, 110, 117, 109, 101, 114, 105, 99, 45, 115, 111, 114, 116]), .lit (.int .u8 104), .lit (.bool false), .lit (.string [])], .agg [.lit (.string [105, 103, 110, 111, 114, 101, 45, 110, 111, 110, 112, 114, 105, 110, 116, 105, 110, 103]), .lit (.int .u8 105), .lit (.bool false), .lit (.string [])], .agg [.lit (.string [109, 111, 110, 116, 104, 45, 115, 111, 114, 116]), .lit (.int .u8 77), .lit (.bool false), .lit (.string [])], .agg [.lit (.string [110, 117, 109, 101, 114, 105, 99, 45, 115, 111, 114, 116]), .lit (.int .u8 110), .lit (.bool false), .lit (.string [])], .agg [.lit (.string [114, 101, 118, 101, 114, 115, 101]), .lit (.int .u8 114), .lit (.bool false), .lit (.string [])], .agg [.lit (.string [118, 101, 114, 115, 105, 111, 110, 45, 115, 111, 114, 116]), .lit (.int .u8 86), .lit (.bool false), .lit (.string [])], .agg [.lit (.string [99, 104, 101, 99, 107]), .lit (.int .u8 99), .lit (.bool false), .lit (.string [100, 105, 97, 103, 110, 111, 115, 101, 45, 102, 105, 114, 115, 116])], .agg [.lit (.string [99, 104, 101, 99, 107]), .lit (.int .u8 67), .lit (.bool false), .lit (.string [113, 117, 105, 101, 116])], .agg [.lit (.string [109, 101, 114, 103, 101]), .lit (.int .u8 109), .lit (.bool false), .lit (.string [])], .agg [.lit (.string [115, 116, 97, 98, 108, 101]), .lit (.int .u8 115), .lit (.bool false), .lit (.string [])], .agg [.lit (.string [117, 110, 105, 113, 117, 101]), .lit (.int .u8 117), .lit (.bool false), .lit (.string [])], .agg [.lit (.string [122, 101, 114, 111, 45, 116, 101, 114, 109, 105, 110, 97, 116, 101, 100]), .lit (.int .u8 122), .lit (.bool false), .lit (.string [])], .agg [.lit (.string [107, 101, 121]), .lit (.int .u8 107), .lit (.bool true), .lit (.string [])], .agg [.lit (.string [111, 117, 116, 112, 117, 116]), .lit (.int .u8 111), .lit (.bool true), .lit (.string [])], .agg [.lit (.string [102, 105, 101, 108, 100, 45, 115, 101, 112, 97, 114, 97, 116, 111, 114]), .lit (.int .u8 116), .lit (.bool true), .lit (.string [])], .agg [.lit (.string [98, 117, 102, 102, 101, 114, 45, 115, 105, 122, 101]), .lit (.int .u8 83), .lit (.bool true), .lit (.string [])], .agg [.lit (.string [116, 101, 109, 112, 111, 114, 97, 114, 121, 45, 112, 114, 101, 102, 105, 120]), .lit (.int .u8 84), .lit (.bool true), .lit (.string [])], .agg [.lit (.string [108, 105, 110, 101, 115]), .lit (.int .u8 0), .lit (.bool true), .lit (.string [])], .agg [.lit (.string [98, 97, 116, 99, 104, 45, 115, 105, 122, 101]), .lit (.int .u8 0), .lit (.bool true), .lit (.string [])], .agg [.lit (.string [112, 97, 114, 97, 108, 108, 101, 108]), .lit (.int .u8 0), .lit (.bool true), .lit (.string [])], .agg [.lit (.string [112, 97, 99, 107]), .lit (.int .u8 0), .lit (.bool false), .lit (.string [])], .agg [.lit (.string [99, 104, 101, 99, 107, 112, 111, 105, 110, 116]), .lit (.int .u8 0), .lit (.bool true), .lit (.string [])], .agg [.lit (.string [115, 111, 114, 116]), .lit (.int .u8 0), .lit (.bool true), .lit (.string [])]]
def laid_mill_keyspec_bits {H : Type} : DataW H := .agg [.lit (.int .u16 1), .lit (.int .u16 2), .lit (.int .u16 4), .lit (.int .u16 32), .lit (.int .u16 64), .lit (.int .u16 8), .lit (.int .u16 128), .lit (.int .u16 16), .lit (.int .u16 512), .lit (.int .u16 256)]
def laid_math_bits_deBruijn32tab {H : Type} : DataW H := .agg [.lit (.int .u8 0), .lit (.int .u8 1), .lit (.int .u8 28), .lit (.int .u8 2), .lit (.int .u8 29), .lit (.int .u8 14), .lit (.int .u8 24), .lit (.int .u8 3), .lit (.int .u8 30), .lit (.int .u8 22), .lit (.int .u8 20), .lit (.int .u8 15), .lit (.int .u8 25), .lit (.int .u8 17), .lit (.int .u8 4), .lit (.int .u8 8), .lit (.int .u8 31), .lit (.int .u8 27), .lit (.int .u8 13), .lit (.int .u8 23), .lit (.int .u8 21), .lit (.int .u8 19), .lit (.int .u8 16), .lit (.int .u8 7), .lit (.int .u8 26), .lit (.int .u8 12), .lit (.int .u8 18), .lit (.int .u8 6), .lit (.int .u8 11), .lit (.int .u8 5), .lit (.int .u8 10), .lit (.int .u8 9)]
def laid_math_bits_deBruijn64tab {H : Type} : DataW H := .agg [.lit (.int .u8 0), .lit (.int .u8 1), .lit (.int .u8 56), .lit (.int .u8 2), .lit (.int .u8 57), .lit (.int .u8 49), .lit (.int .u8 28), .lit (.int .u8 3), .lit (.int .u8 61), .lit (.int .u8 58), .lit (.int .u8 42), .lit (.int .u8 50), .lit (.int .u8 38), .lit (.int .u8 29), .lit (.int .u8 17), .lit (.int .u8 4), .lit (.int .u8 62), .lit (.int .u8 47), .lit (.int .u8 59), .lit (.int .u8 36), .lit (.int .u8 45), .lit (.int .u8 43), .lit (.int .u8 51), .lit (.int .u8 22), .lit (.int .u8 53), .lit (.int .u8 39), .lit (.int .u8 33), .lit (.int .u8 30), .lit (.int .u8 24), .lit (.int .u8 18), .lit (.int .u8 12), .lit (.int .u8 5), .lit (.int .u8 63), .lit (.int .u8 55), .lit (.int .u8 48), .lit (.int .u8 27), .lit (.int .u8 60), .lit (.int .u8 41), .lit (.int .u8 37), .lit (.int .u8 16), .lit (.int .u8 46), .lit (.int .u8 35), .lit (.int .u8 44), .lit (.int .u8 21), .lit (.int .u8 52), .lit (.int .u8 32), .lit (.int .u8 23), .lit (.int .u8 11), .lit (.int .u8 54), .lit (.int .u8 26), .lit (.int .u8 40), .lit (.int .u8 15), .lit (.int .u8 34), .lit (.int .u8 20), .lit (.int .u8 31), .lit (.int .u8 10), .lit (.int .u8 25), .lit (.int .u8 14), .lit (.int .u8 19), .lit (.int .u8 9), .lit (.int .u8 13), .lit (.int .u8 8), .lit (.int .u8 7), .lit (.int .u8 6)]
def laid_internal_strconv_uint64pow10 {H : Type} : DataW H := .agg [.lit (.int .u64 1), .lit (.int .u64 10), .lit (.int .u64 100), .lit (.int .u64 1000), .lit (.int .u64 10000), .lit (.int .u64 100000), .lit (.int .u64 1000000), .lit (.int .u64 10000000), .lit (.int .u64 100000000), .lit (.int .u64 1000000000), .lit (.int .u64 10000000000), .lit (.int .u64 100000000000), .lit (.int .u64 1000000000000), .lit (.int .u64 10000000000000), .lit (.int .u64 100000000000000), .lit (.int .u64 1000000000000000), .lit (.int .u64 10000000000000000), .lit (.int .u64 100000000000000000), .lit (.int .u64 1000000000000000000), .lit (.int .u64 10000000000000000000)]

/-- 'milllaw4.SpecNames': WHATEVER THE INPUT: true; the input reads as it did. -/
def specNamesSpec : ChangeSpec := { name := "specNames", fn := fun _ => fun
  | [d] => { results := [.lit (.bool true)], args := [d] }
  | _ => none }
def specNamesRow : OpenClaim := { program := "ytbgbmojoldkcfaadoor", sum := "211948adeed3ab361bab7ac9f681a021bf212d67a396fc1ee27100738b8cf078", func := "mill/milllaw4.SpecNames", spec := "specNames", named := ["mill/keyspec.options", "mill/millref4.names"], apart := false, laid := [("mill/millref4.names", laid_mill_millref4_names), ("mill/keyspec.options", laid_mill_keyspec_options)] }
def SpecNamesSaid : Prop := specNamesRow.holds Tryd.pinned (OpenSpec.ofChange specNamesSpec)

/-- ITS FALSE NEIGHBOUR: 'it returns false'. Refute it at one input. -/
def specNamesWrong : ChangeSpec := { name := "specNames", fn := fun _ => fun
  | [d] => { results := [.lit (.bool false)], args := [d] }
  | _ => none }
def SpecNamesWrongFalsely : Prop := specNamesRow.holds Tryd.pinned (OpenSpec.ofChange specNamesWrong)

/-- 'milllaw4.SpecKeys': WHATEVER THE INPUT: true; the input reads as it did. -/
def specKeysSpec : ChangeSpec := { name := "specKeys", fn := fun _ => fun
  | [d] => { results := [.lit (.bool true)], args := [d] }
  | _ => none }
def specKeysRow : OpenClaim := { program := "ytbgbmojoldkcfaadoor", sum := "211948adeed3ab361bab7ac9f681a021bf212d67a396fc1ee27100738b8cf078", func := "mill/milllaw4.SpecKeys", spec := "specKeys", inPlace := ["internal/bytealg.IndexByteString"], named := ["mill/keyspec.bits"], apart := false, laid := [("mill/keyspec.bits", laid_mill_keyspec_bits)] }
def SpecKeysSaid : Prop := specKeysRow.holds Tryd.pinned (OpenSpec.ofChange specKeysSpec)

/-- ITS FALSE NEIGHBOUR: 'it returns false'. Refute it at one input. -/
def specKeysWrong : ChangeSpec := { name := "specKeys", fn := fun _ => fun
  | [d] => { results := [.lit (.bool false)], args := [d] }
  | _ => none }
def SpecKeysWrongFalsely : Prop := specKeysRow.holds Tryd.pinned (OpenSpec.ofChange specKeysWrong)

/-- 'milllaw4.SpecKeyTexts': WHATEVER THE INPUT: true; the input reads as it did. -/
def specKeyTextsSpec : ChangeSpec := { name := "specKeyTexts", fn := fun _ => fun
  | [d] => { results := [.lit (.bool true)], args := [d] }
  | _ => none }
def specKeyTextsRow : OpenClaim := { program := "ytbgbmojoldkcfaadoor", sum := "211948adeed3ab361bab7ac9f681a021bf212d67a396fc1ee27100738b8cf078", func := "mill/milllaw4.SpecKeyTexts", spec := "specKeyTexts", inPlace := ["internal/abi.NoEscape"], recurses := true, named := ["internal/strconv.uint64pow10", "math/bits.deBruijn32tab", "math/bits.deBruijn64tab", "mill/keyspec.bits"], apart := false, laid := [("math/bits.deBruijn32tab", laid_math_bits_deBruijn32tab), ("math/bits.deBruijn64tab", laid_math_bits_deBruijn64tab), ("internal/strconv.uint64pow10", laid_internal_strconv_uint64pow10), ("mill/keyspec.bits", laid_mill_keyspec_bits)] }
def SpecKeyTextsSaid : Prop := specKeyTextsRow.holds Tryd.pinned (OpenSpec.ofChange specKeyTextsSpec)

/-- ITS FALSE NEIGHBOUR: 'it returns false'. Refute it at one input. -/
def specKeyTextsWrong : ChangeSpec := { name := "specKeyTexts", fn := fun _ => fun
  | [d] => { results := [.lit (.bool false)], args := [d] }
  | _ => none }
def SpecKeyTextsWrongFalsely : Prop := specKeyTextsRow.holds Tryd.pinned (OpenSpec.ofChange specKeyTextsWrong)

/- THE SECOND FORM. 'bulk': how many values and letters a reading holds, each counted each time it is reached (what is shared counts as often as it is met; a slice's spare places count too). A statement '..UptoSaid' is the law's where the arguments, and the package variables that the reading takes, are together of bulk at most 1048576: NARROWER than '..Said'. Prove '..Said' where nothing that the law and all that it calls make is longer than what came in: it says more and counts as full. Else prove '..UptoSaid'. A law counts once. -/
mutual
def uptoBulk {H : Type} : DataW H → Nat
  | .lit (.string bytes) => bytes.length + 1
  | .lit _ => 1
  | .nil => 1
  | .ptr d => uptoBulk d + 1
  | .slice elems spare => uptoBulkAll elems + uptoBulkAll spare + 1
  | .agg parts => uptoBulkAll parts + 1
  | .iface _ d => uptoBulk d + 1
  | .map entries => uptoBulkEntries entries + 1
  | .held _ => 1
def uptoBulkAll {H : Type} : List (DataW H) → Nat
  | [] => 0
  | d :: r => uptoBulk d + uptoBulkAll r
def uptoBulkEntries {H : Type} : List (Lit × DataW H) → Nat
  | [] => 0
  | x :: r => uptoBulkEntry x + uptoBulkEntries r
def uptoBulkEntry {H : Type} : Lit × DataW H → Nat
  | (.string bytes, d) => bytes.length + uptoBulk d + 1
  | (_, d) => uptoBulk d + 1
 end
def uptoSmall : (H : Type) → List (DataW H) → Bool := fun _ ds => decide (uptoBulkAll ds ≤ 1048576)
def OpenSpec.upto (s : _root_.Go.ChangeSpec) : _root_.Go.OpenSpec := { _root_.Go.OpenSpec.ofChange s with cond := some uptoSmall }

/-- 'milllaw4.SpecNames', WHERE WHAT IT READS IS OF BULK AT MOST 1048576: true; the input reads as it did. -/
def specNamesUptoRow : OpenClaim := { program := "ytbgbmojoldkcfaadoor", sum := "211948adeed3ab361bab7ac9f681a021bf212d67a396fc1ee27100738b8cf078", func := "mill/milllaw4.SpecNames", spec := "specNames", named := ["mill/keyspec.options", "mill/millref4.names"], apart := false, laid := [("mill/millref4.names", laid_mill_millref4_names), ("mill/keyspec.options", laid_mill_keyspec_options)], narrowed := true }
def SpecNamesUptoSaid : Prop := specNamesUptoRow.holds Tryd.pinned (OpenSpec.upto specNamesSpec)

/-- 'milllaw4.SpecKeys', WHERE WHAT IT READS IS OF BULK AT MOST 1048576: true; the input reads as it did. -/
def specKeysUptoRow : OpenClaim := { program := "ytbgbmojoldkcfaadoor", sum := "211948adeed3ab361bab7ac9f681a021bf212d67a396fc1ee27100738b8cf078", func := "mill/milllaw4.SpecKeys", spec := "specKeys", inPlace := ["internal/bytealg.IndexByteString"], named := ["mill/keyspec.bits"], apart := false, laid := [("mill/keyspec.bits", laid_mill_keyspec_bits)], narrowed := true }
def SpecKeysUptoSaid : Prop := specKeysUptoRow.holds Tryd.pinned (OpenSpec.upto specKeysSpec)

/-- 'milllaw4.SpecKeyTexts', WHERE WHAT IT READS IS OF BULK AT MOST 1048576: true; the input reads as it did. -/
def specKeyTextsUptoRow : OpenClaim := { program := "ytbgbmojoldkcfaadoor", sum := "211948adeed3ab361bab7ac9f681a021bf212d67a396fc1ee27100738b8cf078", func := "mill/milllaw4.SpecKeyTexts", spec := "specKeyTexts", inPlace := ["internal/abi.NoEscape"], recurses := true, named := ["internal/strconv.uint64pow10", "math/bits.deBruijn32tab", "math/bits.deBruijn64tab", "mill/keyspec.bits"], apart := false, laid := [("math/bits.deBruijn32tab", laid_math_bits_deBruijn32tab), ("math/bits.deBruijn64tab", laid_math_bits_deBruijn64tab), ("internal/strconv.uint64pow10", laid_internal_strconv_uint64pow10), ("mill/keyspec.bits", laid_mill_keyspec_bits)], narrowed := true }
def SpecKeyTextsUptoSaid : Prop := specKeyTextsUptoRow.holds Tryd.pinned (OpenSpec.upto specKeyTextsSpec)

end Rows
end Go.Proofs.YtbgbmojoldkcfaaDoor
