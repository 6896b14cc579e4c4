/- The key of an order without keys. -/
import Derived.Test.YtgpcmlbmmcnkjaaGreatDoorCl
namespace Go.Proofs.YtgpcmlbmmcnkjaaGreatDoor
open Go.RowKit

set_option maxRecDepth 100000
theorem kind0 (w : World) : Calls Tryz.prog 55 #[.int .u16 0] w (RetV w (.int .u16 0)) := by
  go_enter Tryz.func55, Tryz.ntmps55
  go_wp2_with fail
  go_ret
  exact ⟨rfl, rfl⟩
theorem filter0 (w : World) : Calls Tryz.prog 53 #[.int .u16 0] w (RetB w (.agg #[.int .u8 0, .bool false])) := by
  have b4 : bits BinOp.and IntKind.u16 0 4 = 0 := by decide +kernel
  have b2 : bits BinOp.and IntKind.u16 0 2 = 0 := by decide +kernel
  have b8 : bits BinOp.and IntKind.u16 0 8 = 0 := by decide +kernel
  go_enter Tryz.func53, Tryz.ntmps53
  go_wp2_with fail
  exact bodyPost_ret (v := .agg #[.int .u8 0, .bool false]) (by simp [results, Tryz.results53, go_sem]) rfl ⟨rfl, ((Below.refl _ _).alloc (Nat.le_refl _) _).alloc (by simp) _⟩
theorem comparison0 (w : World) : Calls Tryz.prog 54 #[.int .u16 0, .agg #[.int .u8 0, .bool false]] w (fun e w' => e = .returned (.func (.func 27) #[] #[]) ∧ Below w.heap.size w w') := by
  go_enter Tryz.func54, Tryz.ntmps54
  go_wp2_with fail

  go_ret
  exact ⟨rfl, ((Below.refl _ _).alloc (Nat.le_refl _) _).alloc (by simp) _⟩
end Go.Proofs.YtgpcmlbmmcnkjaaGreatDoor
