/- CollateTotal, with the contracts laid in. -/
import Derived.Test.YtnpnccjeapejdaaGreatDoorTc
namespace Go.Proofs.YtnpnccjeapejdaaGreatDoor
section
open Go.RowKit
open Num (IsCmp)
set_option maxRecDepth 100000
end
section
open Go.RowKit
open Num (IsCmp)
set_option maxRecDepth 100000
theorem eff_lenT (ks : List KeyL) (m : Nat) (t : Int) : (effL ks m t).length ≤ ks.length + 1 := by
  unfold effL dflt
  rw [List.length_map]
  split
  · simp
  · omega
end
end Go.Proofs.YtnpnccjeapejdaaGreatDoor
