/- keyspec.fieldsHold where all may be. -/
import Derived.Test.YtgpcmlbmmcnkjaaGreatDoorFh
namespace Go.Proofs.YtgpcmlbmmcnkjaaGreatDoor
open Go.RowKit

set_option maxRecDepth 100000
set_option maxHeartbeats 16000000 in
theorem fields_b0 (ks : List KeyL) (m : Nat) (t : Int) (ao : Option Addr) (c : Nat) (w : World) (t1 : decide ((ks.length : Int) ≤ 16) = true) (C : Hid (Calls Tryz.prog 69 #[Value.slice ao ks.length c, Value.func (Fn.func 70) #[] #[]] (w.alloc (Obj.cells (oC (Value.slice ao ks.length c) m t).toArray 28)) (RetBk (w.alloc (Obj.cells (oC (Value.slice ao ks.length c) m t).toArray 28)) (Value.bool false)))) (e2 : bits BinOp.andNot IntKind.u16 (m : Int) 1023 = 0) (T : Hid (∀ w, Calls Tryz.prog 72 #[.int .i64 t, .int .i64 (-1), .int .i64 255] w (RetV w (.bool true)))) :
    Calls Tryz.prog 51 #[.agg #[.slice ao ks.length c, .int .u16 (m : Int), .int .i64 t, .bool false, .bool false, .bool false, .bool false, .int .u8 0, .string ⟨#[]⟩, .bool false, .int .i64 0, .int .i64 0, .int .i64 0, .int .i64 0, .string ⟨#[]⟩, .bool false, .string ⟨#[]⟩, .slice none 0 0]] w (RetBk w (.bool true)) := by
  have A0 := Lib.hid (CellsAt.new w (oC (.slice ao ks.length c) m t) 28)
  have B0 := Lib.hid ((Below.refl w.heap.size w).alloc (Nat.le_refl _) (.cells (oC (.slice ao ks.length c) m t).toArray 28))
  go_enter Tryz.func51, Tryz.ntmps51
  go_wp2_with fail
  refine C.out.mono ?_
  rintro e w1 ⟨rfl, hb1⟩
  have A1 := Lib.hid (A0.out.step hb1)
  have B1 := Lib.hid (B0.out.trans (hb1.mono (by simp)))
  clear hb1 A0 B0 C
  have a1 := A1.out.cell 1 _ rfl
  have a2 := A1.out.cell 2 _ rfl
  have a7 := A1.out.cell 7 _ rfl
  have a8 := A1.out.cell 8 _ rfl
  have a9 := A1.out.cell 9 _ rfl
  have a10 := A1.out.cell 10 _ rfl
  have a11 := A1.out.cell 11 _ rfl
  have a12 := A1.out.cell 12 _ rfl
  have a13 := A1.out.cell 13 _ rfl
  have a14 := A1.out.cell 14 _ rfl
  have a15 := A1.out.cell 15 _ rfl
  have a16 := A1.out.cell 16 _ rfl
  have a17 := A1.out.cell 17 _ rfl
  go_wp2_with (first
    | (go_at_call 74; refine (contains_nilS _ _).mono ?_; rintro e w' ⟨rfl, rfl⟩)
    | (go_at_call 72; refine (within_true _ _ _ (by decide) (by decide) _).mono ?_; rintro e w' ⟨rfl, rfl⟩)
    | (go_at_call 72; refine (T.out _).mono ?_; rintro e w' ⟨rfl, rfl⟩))
  go_ret
  exact ⟨rfl, B1.out⟩
end Go.Proofs.YtgpcmlbmmcnkjaaGreatDoor
