/- keyspec.fieldsHold where a key may not be, or there are too many. -/
import Derived.Test.YtgpcmlbmmcnkjaaGreatDoorFh
namespace Go.Proofs.YtgpcmlbmmcnkjaaGreatDoor
open Go.RowKit

set_option maxRecDepth 100000
attribute [local go_sem] undef
set_option maxHeartbeats 3200000 in
theorem fields_b1 (ks : List KeyL) (m : Nat) (t : Int) (ao : Option Addr) (c : Nat) (w : World) (t1 : decide ((ks.length : Int) ≤ 16) = true) (C : Hid (Calls Tryz.prog 69 #[Value.slice ao ks.length c, Value.func (Fn.func 70) #[] #[]] (w.alloc (Obj.cells (oC (Value.slice ao ks.length c) m t).toArray 28)) (RetBk (w.alloc (Obj.cells (oC (Value.slice ao ks.length c) m t).toArray 28)) (Value.bool true)))) :
    Calls Tryz.prog 51 #[.agg #[.slice ao ks.length c, .int .u16 (m : Int), .int .i64 t, .bool false, .bool false, .bool false, .bool false, .int .u8 0, .string ⟨#[]⟩, .bool false, .int .i64 0, .int .i64 0, .int .i64 0, .int .i64 0, .string ⟨#[]⟩, .bool false, .string ⟨#[]⟩, .slice none 0 0]] w (RetBk w (.bool false)) := by
  have B0 := Lib.hid ((Below.refl w.heap.size w).alloc (Nat.le_refl _) (.cells (oC (.slice ao ks.length c) m t).toArray 28))
  go_enter Tryz.func51, Tryz.ntmps51
  go_wp2_with fail
  refine C.out.mono ?_
  rintro e w1 ⟨rfl, hb1⟩
  have B1 := Lib.hid (B0.out.trans (hb1.mono (by simp)))
  clear hb1 B0 C
  go_wp2_with fail
  go_ret
  exact ⟨rfl, B1.out⟩
set_option maxHeartbeats 3200000 in
theorem fields_b4 (ks : List KeyL) (m : Nat) (t : Int) (ao : Option Addr) (c : Nat) (w : World) (t1 : decide ((ks.length : Int) ≤ 16) = false) :
    Calls Tryz.prog 51 #[.agg #[.slice ao ks.length c, .int .u16 (m : Int), .int .i64 t, .bool false, .bool false, .bool false, .bool false, .int .u8 0, .string ⟨#[]⟩, .bool false, .int .i64 0, .int .i64 0, .int .i64 0, .int .i64 0, .string ⟨#[]⟩, .bool false, .string ⟨#[]⟩, .slice none 0 0]] w (RetBk w (.bool false)) := by
  have B0 := Lib.hid ((Below.refl w.heap.size w).alloc (Nat.le_refl _) (.cells (oC (.slice ao ks.length c) m t).toArray 28))
  go_enter Tryz.func51, Tryz.ntmps51
  go_wp2_with fail
  go_ret
  exact ⟨rfl, B0.out⟩
end Go.Proofs.YtgpcmlbmmcnkjaaGreatDoor
