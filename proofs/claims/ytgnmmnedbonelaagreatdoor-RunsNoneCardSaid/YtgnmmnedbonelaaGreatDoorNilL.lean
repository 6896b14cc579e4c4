/- RunsNone: the walk. -/
import Derived.Test.YtgnmmnedbonelaaGreatDoorBase
import Derived.ProofKit
import Derived.WalkKit
import Derived.Below
import Derived.Laws.EntriesVeiled
import Derived.Scope
import Derived.Deep.Cut
namespace Go.Proofs.YtgnmmnedbonelaaGreatDoor
open Go.RowKit

def RetV (w : World) (v : Value) : Ending → World → Prop := fun e w' => e = .returned v ∧ w' = w
def RetB (w : World) (v : Value) : Ending → World → Prop := fun e w' => e = .returned v ∧ Below w.heap.size w w'
set_option maxRecDepth 100000
theorem heap_none (w : World) : Calls Tryz.prog 4 #[.nilFunc] w (RetV w (.tuple #[.pointer none, .int .i64 2])) := by
  have hrun : ∀ w, Sem.run Tryz.prog (binOp BinOp.eql 22 Value.nilFunc Value.nilFunc) w = .ok (.bool true) w := fun _ => by kernel_rfl
  go_enter Tryz.func4, Tryz.ntmps4
  go_wp2_with fail
  exact bodyPost_ret (v := .tuple #[.pointer none, .int .i64 2]) (by simp [results, Tryz.results4, go_sem]) rfl ⟨rfl, rfl⟩
theorem push_nil (s : ByteArray) (w : World) : Calls Tryz.prog 5 #[.pointer none, .string s] w (RetV w (.tuple #[])) := by
  go_enter Tryz.func5, Tryz.ntmps5
  go_wp2_with fail
  go_end0
  exact ⟨rfl, rfl⟩
theorem len_nil (w : World) : Calls Tryz.prog 9 #[.pointer none] w (RetV w (.int .i64 0)) := by
  go_enter Tryz.func9, Tryz.ntmps9
  go_wp2_with fail
  go_ret
  exact ⟨rfl, rfl⟩
theorem pop_nil (w : World) : Calls Tryz.prog 6 #[.pointer none] w (RetV w (.tuple #[.string ⟨#[]⟩, .bool false])) := by
  go_enter Tryz.func6, Tryz.ntmps6
  go_wp2_with (go_at_call 9; refine (len_nil _).mono ?_; rintro e w' ⟨rfl, rfl⟩)
  exact bodyPost_ret (v := .tuple #[.string ⟨#[]⟩, .bool false]) (by simp [results, Tryz.results6, go_sem]) rfl ⟨rfl, rfl⟩
theorem peek_nil (w : World) : Calls Tryz.prog 7 #[.pointer none] w (RetV w (.tuple #[.string ⟨#[]⟩, .bool false])) := by
  go_enter Tryz.func7, Tryz.ntmps7
  go_wp2_with (go_at_call 9; refine (len_nil _).mono ?_; rintro e w' ⟨rfl, rfl⟩)
  exact bodyPost_ret (v := .tuple #[.string ⟨#[]⟩, .bool false]) (by simp [results, Tryz.results7, go_sem]) rfl ⟨rfl, rfl⟩
theorem num_ok (x : Int) (w : World) : Calls Tryz.prog 8 #[.int .i64 x] w (RetV w (.int .i64 x)) := by
  go_enter Tryz.func8, Tryz.ntmps8
  go_wp2_with fail
  go_ret
  exact ⟨rfl, rfl⟩
theorem stock_nil (a b : Int) (w : World) : Calls Tryz.prog 24 #[.pointer none, .int .i64 a, .int .i64 b] w (RetB w (.tuple #[.agg #[.pointer none, .int .i64 0, .int .i64 0, .int .i64 0, .int .i64 0, .int .u64 0], .int .i64 1])) := by
  go_enter Tryz.func24, Tryz.ntmps24
  go_wp2_with fail
  exact bodyPost_ret (v := .tuple #[.agg #[.pointer none, .int .i64 0, .int .i64 0, .int .i64 0, .int .i64 0, .int .u64 0], .int .i64 1]) (by simp [results, Tryz.results24, go_sem]) rfl ⟨rfl, (Below.refl _ _).alloc (Nat.le_refl _) _⟩
theorem gen_nil (a b : Int) (w : World) : Calls Tryz.prog 10 #[.pointer none, .int .i64 a, .int .i64 b] w (RetB w (.tuple #[.pointer none, .int .i64 1])) := by
  go_enter Tryz.func10, Tryz.ntmps10
  go_wp2_with fail
  refine (stock_nil _ _ _).mono ?_
  rintro e w1 ⟨rfl, hb⟩
  have B1 := Lib.hid (((Below.refl w.heap.size w).alloc (Nat.le_refl _) (.cells #[.pointer none] 65)).trans (hb.mono (by simp)))
  clear hb
  go_wp2_with fail
  exact bodyPost_ret (v := .tuple #[.pointer none, .int .i64 1]) (by simp [results, Tryz.results10, go_sem]) rfl ⟨rfl, B1.out.alloc B1.out.size _⟩
theorem load_nil (a b c : Int) (w : World) : Calls Tryz.prog 11 #[.pointer none, .int .i64 a, .int .i64 b, .int .i64 c, .chan none] w (RetB w (.tuple #[.pointer none, .int .i64 1])) := by
  go_enter Tryz.func11, Tryz.ntmps11
  go_wp2_with fail
  refine (stock_nil _ _ _).mono ?_
  rintro e w1 ⟨rfl, hb⟩
  have B1 := Lib.hid hb
  clear hb
  go_wp2_with fail
  exact bodyPost_ret (v := .tuple #[.pointer none, .int .i64 1]) (by simp [results, Tryz.results11, go_sem]) rfl ⟨rfl, B1.out.alloc B1.out.size _⟩
theorem sort_nil (v : Value) (c : Int) (w : World) : Calls Tryz.prog 12 #[.pointer none, v, .int .i64 c, .chan none] w (RetV w (.tuple #[.slice none 0 0, .bool false])) := by
  go_enter Tryz.func12, Tryz.ntmps12
  go_wp2_with fail
  exact bodyPost_ret (v := .tuple #[.slice none 0 0, .bool false]) (by simp [results, Tryz.results12, go_sem]) rfl ⟨rfl, rfl⟩
theorem gadd_nil (s : ByteArray) (w : World) : Calls Tryz.prog 13 #[.pointer none, .string s] w (RetV w (.tuple #[.slice none 0 0, .int .i64 1])) := by
  go_enter Tryz.func13, Tryz.ntmps13
  go_wp2_with fail
  exact bodyPost_ret (v := .tuple #[.slice none 0 0, .int .i64 1]) (by simp [results, Tryz.results13, go_sem]) rfl ⟨rfl, rfl⟩
theorem gfin_nil (w : World) : Calls Tryz.prog 14 #[.pointer none] w (RetV w (.slice none 0 0)) := by
  go_enter Tryz.func14, Tryz.ntmps14
  go_wp2_with fail
  go_ret
  exact ⟨rfl, rfl⟩
theorem gheld_nil (w : World) : Calls Tryz.prog 15 #[.pointer none] w (RetV w (.tuple #[.int .i64 0, .int .i64 0])) := by
  go_enter Tryz.func15, Tryz.ntmps15
  go_wp2_with fail
  exact bodyPost_ret (v := .tuple #[.int .i64 0, .int .i64 0]) (by simp [results, Tryz.results15, go_sem]) rfl ⟨rfl, rfl⟩
theorem ladd_nil (s : ByteArray) (w : World) : Calls Tryz.prog 16 #[.pointer none, .string s] w (RetV w (.tuple #[.slice none 0 0, .int .i64 1])) := by
  go_enter Tryz.func16, Tryz.ntmps16
  go_wp2_with fail
  exact bodyPost_ret (v := .tuple #[.slice none 0 0, .int .i64 1]) (by simp [results, Tryz.results16, go_sem]) rfl ⟨rfl, rfl⟩
theorem lfin_nil (w : World) : Calls Tryz.prog 17 #[.pointer none] w (RetV w (.tuple #[.slice none 0 0, .int .i64 1])) := by
  go_enter Tryz.func17, Tryz.ntmps17
  go_wp2_with fail
  exact bodyPost_ret (v := .tuple #[.slice none 0 0, .int .i64 1]) (by simp [results, Tryz.results17, go_sem]) rfl ⟨rfl, rfl⟩
theorem lheld_nil (w : World) : Calls Tryz.prog 18 #[.pointer none] w (RetV w (.tuple #[.int .i64 0, .int .i64 0])) := by
  go_enter Tryz.func18, Tryz.ntmps18
  go_wp2_with fail
  exact bodyPost_ret (v := .tuple #[.int .i64 0, .int .i64 0]) (by simp [results, Tryz.results18, go_sem]) rfl ⟨rfl, rfl⟩
theorem skip_nil (a b : Int) (w : World) : Calls Tryz.prog 19 #[.pointer none, .int .i64 a, .int .i64 b] w (RetV w (.int .i64 1)) := by
  go_enter Tryz.func19, Tryz.ntmps19
  go_wp2_with fail
  go_ret
  exact ⟨rfl, rfl⟩
theorem runs_nil (w : World) : Calls Tryz.prog 20 #[.pointer none] w (RetV w (.int .i64 0)) := by
  go_enter Tryz.func20, Tryz.ntmps20
  go_wp2_with fail
  go_ret
  exact ⟨rfl, rfl⟩
set_option maxHeartbeats 1600000 in
theorem none_law (a b : Int) (s : ByteArray) (c : Int) (w : World) : Calls Tryz.prog 3 #[.int .i64 a, .int .i64 b, .string s, .int .i64 c] w (RetB w (.bool true)) := by
  go_enter Tryz.func3, Tryz.ntmps3
  go_wp2_with (first | (go_at_call 4; refine (heap_none _).mono ?_; rintro e w' ⟨rfl, rfl⟩) | (go_at_call 5; refine (push_nil _ _).mono ?_; rintro e w' ⟨rfl, rfl⟩) | (go_at_call 6; refine (pop_nil _).mono ?_; rintro e w' ⟨rfl, rfl⟩) | (go_at_call 7; refine (peek_nil _).mono ?_; rintro e w' ⟨rfl, rfl⟩) | (go_at_call 8; refine (num_ok _ _).mono ?_; rintro e w' ⟨rfl, rfl⟩) | (go_at_call 9; refine (len_nil _).mono ?_; rintro e w' ⟨rfl, rfl⟩))
  refine (gen_nil _ _ _).mono ?_
  rintro e w1 ⟨rfl, hb⟩
  have B1 := Lib.hid hb
  clear hb
  go_wp2_with fail
  refine (load_nil _ _ _ _).mono ?_
  rintro e w2 ⟨rfl, hb⟩
  have B2 := Lib.hid (B1.out.trans (hb.mono B1.out.size))
  clear hb B1
  go_wp2_with (first | (go_at_call 8; refine (num_ok _ _).mono ?_; rintro e w' ⟨rfl, rfl⟩) | (go_at_call 12; refine (sort_nil _ _ _).mono ?_; rintro e w' ⟨rfl, rfl⟩) | (go_at_call 13; refine (gadd_nil _ _).mono ?_; rintro e w' ⟨rfl, rfl⟩) | (go_at_call 14; refine (gfin_nil _).mono ?_; rintro e w' ⟨rfl, rfl⟩) | (go_at_call 15; refine (gheld_nil _).mono ?_; rintro e w' ⟨rfl, rfl⟩) | (go_at_call 16; refine (ladd_nil _ _).mono ?_; rintro e w' ⟨rfl, rfl⟩) | (go_at_call 17; refine (lfin_nil _).mono ?_; rintro e w' ⟨rfl, rfl⟩) | (go_at_call 18; refine (lheld_nil _).mono ?_; rintro e w' ⟨rfl, rfl⟩) | (go_at_call 19; refine (skip_nil _ _ _).mono ?_; rintro e w' ⟨rfl, rfl⟩) | (go_at_call 20; refine (runs_nil _).mono ?_; rintro e w' ⟨rfl, rfl⟩))
  go_ret
  exact ⟨rfl, B2.out.alloc B2.out.size _⟩
end Go.Proofs.YtgnmmnedbonelaaGreatDoor
