/- What the row's listed table of words says of the memory. -/
import Derived.Test.YtpbbgmfjdachnaaDoorDoor
import Derived.Test.YtpbbgmfjdachnaaDoorScanW
namespace Go.Proofs.YtpbbgmfjdachnaaDoor
open Go.RowKit

theorem words_of {W : World} (h0 : laidMetH Tryd.prog [("unicode/utf8.acceptRanges", Rows.laid_unicode_utf8_acceptRanges), ("mill/numeral.words", Rows.laid_mill_numeral_words), ("unicode/utf8.first", Rows.laid_unicode_utf8_first)] W) : TabW W := by
  rw [MakeChecks.laidMetH_plain _ _ _ (by kernel_rfl)] at h0
  have r2 := Lib.laidMet.reads h0 (n := "mill/numeral.words") (d := Rows.laid_mill_numeral_words) (by simp)
  exact ⟨block_of_reads (g := 2) (t := 122) (x := (cWords.toList, [])) r2 (by kernel_rfl) (by kernel_rfl) (by kernel_rfl) (by kernel_rfl)⟩
end Go.Proofs.YtpbbgmfjdachnaaDoor
