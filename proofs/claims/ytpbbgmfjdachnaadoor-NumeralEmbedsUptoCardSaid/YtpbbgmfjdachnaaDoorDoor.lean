/- What the rows' listed tables say of the memory. -/
import Derived.Test.YtpbbgmfjdachnaaDoorRows
import Derived.Test.YtpbbgmfjdachnaaDoorLaid
import Derived.Test.YtpbbgmfjdachnaaDoorTabs
import Derived.ProofKit
import Derived.LaidMore
import Derived.Lay
namespace Go.Proofs.YtpbbgmfjdachnaaDoor
open Go.RowKit

theorem drOwn : ownKnob Tryd.prog.godebug = none := by kernel_rfl
/-- The list of the tables, as the rows have it. -/
def tabList : List (String × DataW Unit) := [("unicode/utf8.acceptRanges", Rows.laid_unicode_utf8_acceptRanges), ("mill/numeral.months", Rows.laid_mill_numeral_months), ("mill/numeral.words", Rows.laid_mill_numeral_words), ("mill/numeral.suffixes", Rows.laid_mill_numeral_suffixes), ("mill/numeral.ranks", Rows.laid_mill_numeral_ranks), ("unicode/utf8.first", Rows.laid_unicode_utf8_first)]
theorem tabs_of {W : World} (h0 : laidMetH Tryd.prog tabList W) : Tabs W := by
  rw [MakeChecks.laidMetH_plain _ _ _ (by kernel_rfl)] at h0
  have r1 := Lib.laidMet.reads h0 (n := "mill/numeral.months") (d := Rows.laid_mill_numeral_months) (by simp [tabList])
  have r2 := Lib.laidMet.reads h0 (n := "mill/numeral.words") (d := Rows.laid_mill_numeral_words) (by simp [tabList])
  have r3 := Lib.laidMet.reads h0 (n := "mill/numeral.suffixes") (d := Rows.laid_mill_numeral_suffixes) (by simp [tabList])
  have r4 := Lib.laidMet.reads h0 (n := "mill/numeral.ranks") (d := Rows.laid_mill_numeral_ranks) (by simp [tabList])
  exact ⟨block_of_reads (g := 0) (t := 63) (x := (cMonths.toList, [])) r1 (by kernel_rfl) (by kernel_rfl) (by kernel_rfl) (by kernel_rfl),
    block_of_reads (g := 1) (t := 108) (x := (cSuffixes.toList, [])) r3 (by kernel_rfl) (by kernel_rfl) (by kernel_rfl) (by kernel_rfl),
    block_of_reads (g := 2) (t := 122) (x := (cWords.toList, [])) r2 (by kernel_rfl) (by kernel_rfl) (by kernel_rfl) (by kernel_rfl),
    block_of_reads (g := 4) (t := 132) (x := (cRanks.toList, [])) r4 (by kernel_rfl) (by kernel_rfl) (by kernel_rfl) (by kernel_rfl)⟩
theorem below_len {l : List UInt8} (h : l.length ≤ reachBytes) : l.length ≤ 140737488351232 := h
end Go.Proofs.YtpbbgmfjdachnaaDoor
