/- What the row's listed table of bits says of the memory. -/
import Derived.Test.YtbgbmojoldkcfaaDoorRows
import Derived.Test.YtbgbmojoldkcfaaDoorMo
import Derived.Test.YtbgbmojoldkcfaaDoorLaid
import Derived.ProofKit
import Derived.LaidMore
import Derived.Lay
namespace Go.Proofs.YtbgbmojoldkcfaaDoor
open Go.RowKit

theorem drOwnK : ownKnob Tryd.prog.godebug = none := by kernel_rfl
theorem bits_of {W : World} (h0 : laidMetH Tryd.prog [("mill/keyspec.bits", Rows.laid_mill_keyspec_bits)] W) : BitsT W := by
  rw [MakeChecks.laidMetH_plain _ _ _ (by kernel_rfl)] at h0
  have r1 := Lib.laidMet.reads h0 (n := "mill/keyspec.bits") (d := Rows.laid_mill_keyspec_bits) (by simp)
  exact block_of_reads (g := 2) (t := 88) (x := (cBits.toList, [])) r1 (by kernel_rfl) (by kernel_rfl) (by kernel_rfl) (by kernel_rfl)
end Go.Proofs.YtbgbmojoldkcfaaDoor
