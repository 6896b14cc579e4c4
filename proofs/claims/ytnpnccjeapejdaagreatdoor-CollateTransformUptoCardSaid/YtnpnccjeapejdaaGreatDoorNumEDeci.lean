/- Whole numbers as texts, compared: the plain mathematics. -/
import Derived.Test.YtnpnccjeapejdaaGreatDoorNumEWrit
import Derived.Test.YtnpnccjeapejdaaGreatDoorNumEmb
namespace Go.Proofs.YtnpnccjeapejdaaGreatDoor.Num

theorem isDig_iff {c : UInt8} : isDig c = true ↔ 48 ≤ c.toNat ∧ c.toNat ≤ 57 := by
  unfold isDig; simp
theorem trimL_eq (l : List UInt8) : trimL l = l.dropWhile (· == 48) := by
  unfold trimL Lib.trimLeftS
  congr 1; funext c; simp; rfl
theorem trimR_eq (l : List UInt8) : trimR l = (l.reverse.dropWhile (· == 48)).reverse := by
  unfold trimR Lib.trimRightS
  congr 2; funext c; simp; rfl
end Go.Proofs.YtnpnccjeapejdaaGreatDoor.Num
