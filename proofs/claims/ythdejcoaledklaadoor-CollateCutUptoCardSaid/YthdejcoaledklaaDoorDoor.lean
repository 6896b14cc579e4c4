/- What the rows' listed table says of the memory. -/
import Derived.Test.YthdejcoaledklaaDoorRows
import Derived.Test.YthdejcoaledklaaDoorLaid
import Derived.Test.YthdejcoaledklaaDoorTabs
import Derived.ProofKit
import Derived.LaidMore
import Derived.Lay
namespace Go.Proofs.YthdejcoaledklaaDoor
open Go.RowKit

theorem drOwn : ownKnob Tryd.prog.godebug = none := by kernel_rfl
theorem tabs_of {W : World} (h0 : laidMetH Tryd.prog [("mill/collate.classes", Rows.laid_mill_collate_classes)] W) : Tabs W := by
  rw [MakeChecks.laidMetH_plain _ _ _ (by kernel_rfl)] at h0
  have r1 := Lib.laidMet.reads h0 (n := "mill/collate.classes") (d := Rows.laid_mill_collate_classes) (by simp)
  exact block_of_reads (g := 0) (t := 36) (x := (cClasses.toList, [])) r1 (by kernel_rfl) (by kernel_rfl) (by kernel_rfl) (by kernel_rfl)
end Go.Proofs.YthdejcoaledklaaDoor
