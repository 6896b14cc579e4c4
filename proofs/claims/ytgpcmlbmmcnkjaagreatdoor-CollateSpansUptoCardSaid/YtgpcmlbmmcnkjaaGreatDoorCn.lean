/- Options without keys, as New hands them on: may they be? The small functions. -/
import Derived.Test.YtgpcmlbmmcnkjaaGreatDoorNil
namespace Go.Proofs.YtgpcmlbmmcnkjaaGreatDoor
open Go.RowKit

def RetV (w : World) (v : Value) (e : Ending) (w' : World) : Prop := e = .returned v ∧ w = w'
def RetB (w : World) (v : Value) (e : Ending) (w' : World) : Prop := e = .returned v ∧ Below w.heap.size w w'
set_option maxRecDepth 100000
theorem within_true (n l m : Int) (h1 : l ≤ n) (h2 : n ≤ m) (w : World) : Calls Tryz.prog 72 #[.int .i64 n, .int .i64 l, .int .i64 m] w (RetV w (.bool true)) := by
  have t1 : decide (l ≤ n) = true := by simpa using h1
  have t2 : decide (n ≤ m) = true := by simpa using h2
  go_enter Tryz.func72, Tryz.ntmps72
  go_wp2_with fail
  go_ret
  exact ⟨rfl, rfl⟩
theorem index_nilK (f : Value) (w : World) : Calls Tryz.prog 98 #[.slice none 0 0, f] w (RetV w (.int .i64 (-1))) := by
  go_enter Tryz.func98, Tryz.ntmps98
  go_wp2_with fail
  refine wp_loop_rounds 1 ?_
  rw [rounds_succ]
  go_wp2_with fail
  go_ret
  exact ⟨rfl, rfl⟩
theorem contains_nilK (f : Value) (w : World) : Calls Tryz.prog 69 #[.slice none 0 0, f] w (RetV w (.bool false)) := by
  have C := Lib.hid (index_nilK f w)
  go_enter Tryz.func69, Tryz.ntmps69
  go_wp2_with fail
  refine C.out.mono ?_
  rintro e w' ⟨rfl, rfl⟩
  go_wp2_with fail
  go_ret
  exact ⟨rfl, rfl⟩
theorem index_nilS (f : Value) (w : World) : Calls Tryz.prog 99 #[.slice none 0 0, f] w (RetV w (.int .i64 (-1))) := by
  go_enter Tryz.func99, Tryz.ntmps99
  go_wp2_with fail
  refine wp_loop_rounds 1 ?_
  rw [rounds_succ]
  go_wp2_with fail
  go_ret
  exact ⟨rfl, rfl⟩
theorem contains_nilS (f : Value) (w : World) : Calls Tryz.prog 74 #[.slice none 0 0, f] w (RetV w (.bool false)) := by
  have C := Lib.hid (index_nilS f w)
  go_enter Tryz.func74, Tryz.ntmps74
  go_wp2_with fail
  refine C.out.mono ?_
  rintro e w' ⟨rfl, rfl⟩
  go_wp2_with fail
  go_ret
  exact ⟨rfl, rfl⟩
theorem tog0 (w : World) : Calls Tryz.prog 76 #[.int .u16 0] w (RetV w (.bool true)) := by
  go_enter Tryz.func76, Tryz.ntmps76
  go_wp2_with fail
  go_ret
  exact ⟨rfl, rfl⟩
theorem eff0 (w : World) : Calls Tryz.prog 41 #[.agg #[.slice none 0 0, .int .u16 0, .int .i64 (-1), .bool false, .bool false, .bool false, .bool false, .int .u8 0, .string ⟨#[]⟩, .bool false, .int .i64 0, .int .i64 0, .int .i64 0, .int .i64 0, .string ⟨#[]⟩, .bool false, .string ⟨#[]⟩, .slice none 0 0]] w (RetKeys w [⟨1, 1, 0, 0, 0, false⟩]) :=
  eff_nil ⟨0, -1, false, false, false, false, 0, ⟨#[]⟩, false, 0, 0, 0, 0, ⟨#[]⟩, false, ⟨#[]⟩⟩ (.slice none 0 0) (.slice none 0 0) w ⟨rfl, Or.inl ⟨Or.inl rfl, rfl⟩⟩
def o0C : List Value := [.slice none 0 0, .int .u16 0, .int .i64 (-1), .bool false, .bool false, .bool false, .bool false, .int .u8 0, .string ⟨#[]⟩, .bool false, .int .i64 0, .int .i64 0, .int .i64 0, .int .i64 0, .string ⟨#[]⟩, .bool false, .string ⟨#[]⟩, .slice none 0 0]
set_option maxHeartbeats 3200000 in
theorem fields0 (w : World) : Calls Tryz.prog 51 #[.agg #[.slice none 0 0, .int .u16 0, .int .i64 (-1), .bool false, .bool false, .bool false, .bool false, .int .u8 0, .string ⟨#[]⟩, .bool false, .int .i64 0, .int .i64 0, .int .i64 0, .int .i64 0, .string ⟨#[]⟩, .bool false, .string ⟨#[]⟩, .slice none 0 0]] w (RetB w (.bool true)) := by
  have A0 := Lib.hid (CellsAt.new w o0C 28)
  go_enter Tryz.func51, Tryz.ntmps51
  go_wp2_with (first
    | (go_at_call 69; refine (contains_nilK _ _).mono ?_; rintro e w' ⟨rfl, rfl⟩)
    | (go_at_call 74; refine (contains_nilS _ _).mono ?_; rintro e w' ⟨rfl, rfl⟩)
    | (go_at_call 72; refine (within_true _ _ _ (by decide) (by decide) _).mono ?_; rintro e w' ⟨rfl, rfl⟩))
  go_ret
  exact ⟨rfl, (Below.refl _ _).alloc (Nat.le_refl _) _⟩
end Go.Proofs.YtgpcmlbmmcnkjaaGreatDoor
