/- keyspec.fieldsHold where the separator may not be. -/
import Derived.Test.YtgpcmlbmmcnkjaaGreatDoorFh
namespace Go.Proofs.YtgpcmlbmmcnkjaaGreatDoor
open Go.RowKit

set_option maxRecDepth 100000
attribute [local go_sem] undef
set_option maxHeartbeats 3200000 in
theorem fields_b3 (ks : List KeyL) (m : Nat) (t : Int) (ao : Option Addr) (c : Nat) (w : World) (t1 : decide ((ks.length : Int) ≤ 16) = true) (C : Hid (Calls Tryz.prog 69 #[Value.slice ao ks.length c, Value.func (Fn.func 70) #[] #[]] (w.alloc (Obj.cells (oC (Value.slice ao ks.length c) m t).toArray 28)) (RetBk (w.alloc (Obj.cells (oC (Value.slice ao ks.length c) m t).toArray 28)) (Value.bool false)))) (e2 : bits BinOp.andNot IntKind.u16 (m : Int) 1023 = 0) (T : Hid (∀ w, Calls Tryz.prog 72 #[.int .i64 t, .int .i64 (-1), .int .i64 255] w (RetV w (.bool false)))) :
    Calls Tryz.prog 51 #[.agg #[.slice ao ks.length c, .int .u16 (m : Int), .int .i64 t, .bool false, .bool false, .bool false, .bool false, .int .u8 0, .string ⟨#[]⟩, .bool false, .int .i64 0, .int .i64 0, .int .i64 0, .int .i64 0, .string ⟨#[]⟩, .bool false, .string ⟨#[]⟩, .slice none 0 0]] w (RetBk w (.bool false)) := by
  have A0 := Lib.hid (CellsAt.new w (oC (.slice ao ks.length c) m t) 28)
  have B0 := Lib.hid ((Below.refl w.heap.size w).alloc (Nat.le_refl _) (.cells (oC (.slice ao ks.length c) m t).toArray 28))
  go_enter Tryz.func51, Tryz.ntmps51
  go_wp2_with fail
  refine C.out.mono ?_
  rintro e w1 ⟨rfl, hb1⟩
  have A1 := Lib.hid (A0.out.step hb1)
  have B1 := Lib.hid (B0.out.trans (hb1.mono (by simp)))
  clear hb1 A0 B0 C
  have a1 := A1.out.cell 1 _ rfl
  have a2 := A1.out.cell 2 _ rfl
  go_wp2_with (go_at_call 72; refine (T.out _).mono ?_; rintro e w' ⟨rfl, rfl⟩)
  go_ret
  exact ⟨rfl, B1.out⟩
end Go.Proofs.YtgpcmlbmmcnkjaaGreatDoor
