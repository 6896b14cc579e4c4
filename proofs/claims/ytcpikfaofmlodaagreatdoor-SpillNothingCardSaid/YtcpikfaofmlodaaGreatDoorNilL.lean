/- SpillNothing: the walk. -/
import Derived.Test.YtcpikfaofmlodaaGreatDoorBase
import Derived.ProofKit
import Derived.WalkKit
import Derived.Below
import Derived.Laws.EntriesVeiled
import Derived.Scope
import Derived.Deep.Cut
namespace Go.Proofs.YtcpikfaofmlodaaGreatDoor
open Go.RowKit

def RetV (w : World) (v : Value) : Ending → World → Prop := fun e w' => e = .returned v ∧ w' = w
def RetB (w : World) (v : Value) : Ending → World → Prop := fun e w' => e = .returned v ∧ Below w.heap.size w w'
set_option maxRecDepth 100000
theorem create_nil (a b : Value) (w : World) : Calls Tryz.prog 4 #[.pointer none, a, b] w (RetV w (.tuple #[.pointer none, .int .i64 1])) := by
  go_enter Tryz.func4, Tryz.ntmps4
  go_wp2_with fail
  exact bodyPost_ret (v := .tuple #[.pointer none, .int .i64 1]) (by simp [results, Tryz.results4, go_sem]) rfl ⟨rfl, rfl⟩
theorem open_nil (a : Value) (w : World) : Calls Tryz.prog 5 #[.pointer none, a] w (RetV w (.tuple #[.pointer none, .int .i64 1])) := by
  go_enter Tryz.func5, Tryz.ntmps5
  go_wp2_with fail
  exact bodyPost_ret (v := .tuple #[.pointer none, .int .i64 1]) (by simp [results, Tryz.results5, go_sem]) rfl ⟨rfl, rfl⟩
theorem refusal_nil (w : World) : Calls Tryz.prog 15 #[.pointer none] w (RetV w (.int .i64 1)) := by
  go_enter Tryz.func15, Tryz.ntmps15
  go_wp2_with fail
  go_ret
  exact ⟨rfl, rfl⟩
theorem finish_nil (w : World) : Calls Tryz.prog 6 #[.pointer none] w (RetB w (.tuple #[.agg #[.int .i64 0, .int .i64 0, .int .i64 0, .int .u32 0], .int .i64 1])) := by
  go_enter Tryz.func6, Tryz.ntmps6
  go_wp2_with (go_at_call 15; refine (refusal_nil _).mono ?_; rintro e w' ⟨rfl, rfl⟩)
  exact bodyPost_ret (v := .tuple #[.agg #[.int .i64 0, .int .i64 0, .int .i64 0, .int .u32 0], .int .i64 1]) (by simp [results, Tryz.results6, go_sem]) rfl ⟨rfl, (Below.refl _ _).alloc (Nat.le_refl _) _⟩
theorem info_nil (w : World) : Calls Tryz.prog 7 #[.pointer none] w (RetB w (.tuple #[.agg #[.int .i64 0, .int .i64 0, .int .i64 0, .int .u32 0], .int .i64 1])) := by
  go_enter Tryz.func7, Tryz.ntmps7
  go_wp2_with fail
  exact bodyPost_ret (v := .tuple #[.agg #[.int .i64 0, .int .i64 0, .int .i64 0, .int .u32 0], .int .i64 1]) (by simp [results, Tryz.results7, go_sem]) rfl ⟨rfl, (Below.refl _ _).alloc (Nat.le_refl _) _⟩
theorem next_nil (w : World) : Calls Tryz.prog 8 #[.pointer none] w (RetB w (.tuple #[.agg #[.int .u64 0, .string ⟨#[]⟩], .bool false, .int .i64 1])) := by
  go_enter Tryz.func8, Tryz.ntmps8
  go_wp2_with fail
  refine wp_scope_straight ?_
  go_wp2_with fail
  exact bodyPost_ret (v := .tuple #[.agg #[.int .u64 0, .string ⟨#[]⟩], .bool false, .int .i64 1]) (by simp [results, Tryz.results8, go_sem]) rfl ⟨rfl, (Below.refl _ _).alloc (Nat.le_refl _) _⟩
theorem add_nil (z : Int) (s : ByteArray) (w : World) : Calls Tryz.prog 10 #[.pointer none, .agg #[.int .u64 z, .string s]] w (RetB w (.int .i64 1)) := by
  go_enter Tryz.func10, Tryz.ntmps10
  go_wp2_with (go_at_call 15; refine (refusal_nil _).mono ?_; rintro e w' ⟨rfl, rfl⟩)
  go_ret
  exact ⟨rfl, (Below.refl _ _).alloc (Nat.le_refl _) _⟩
set_option maxHeartbeats 1600000 in
theorem num_ok (x : Int) (w : World) : Calls Tryz.prog 9 #[.int .i64 x] w (RetV w (.int .i64 x)) := by
  go_enter Tryz.func9, Tryz.ntmps9
  go_wp2_with fail
  go_ret
  exact ⟨rfl, rfl⟩
set_option maxHeartbeats 1600000 in
theorem nothing_law (size buf z : Int) (s : ByteArray) (w : World) : Calls Tryz.prog 3 #[.int .i64 size, .int .i64 buf, .agg #[.int .u64 z, .string s]] w (RetB w (.bool true)) := by
  go_enter Tryz.func3, Tryz.ntmps3
  go_wp2_with fail
  refine (create_nil _ _ _).mono ?_
  rintro e w1 ⟨rfl, rfl⟩
  have R1 := Lib.hid (CellsAt.new w [.int .u64 z, .string s] 24)
  have B1 := Lib.hid ((Below.refl w.heap.size w).alloc (Nat.le_refl _) (.cells #[.int .u64 z, .string s] 24))
  go_wp2_with fail
  change Hid (CellsAt (w.alloc (.cells #[.int .u64 z, .string s] 24)) w.heap.size _) at R1
  generalize w.alloc (.cells #[.int .u64 z, .string s] 24) = x1 at R1 B1 ⊢
  generalize hH : w.heap.size = H1 at R1 ⊢
  clear hH
  refine (open_nil _ _).mono ?_
  rintro e w1 ⟨rfl, rfl⟩
  go_wp2_with fail
  refine (finish_nil _).mono ?_
  rintro e w2 ⟨rfl, hb⟩
  have R2 := Lib.hid ((R1.out.step hb).alloc (.cells #[.int .i64 0, .int .i64 0, .int .i64 0, .int .u32 0] 34))
  clear R1
  have B2 := Lib.hid (B1.out.trans (hb.mono B1.out.size))
  clear hb B1
  have S2 := Lib.hid (CellsAt.new w2 [.int .i64 0, .int .i64 0, .int .i64 0, .int .u32 0] 34)
  have B3 := Lib.hid (B2.out.alloc B2.out.size (.cells #[.int .i64 0, .int .i64 0, .int .i64 0, .int .u32 0] 34))
  go_wp2_with fail
  refine (info_nil _).mono ?_
  rintro e w3 ⟨rfl, hb⟩
  change Hid (CellsAt (w2.alloc (.cells #[.int .i64 0, .int .i64 0, .int .i64 0, .int .u32 0] 34)) w2.heap.size _) at S2
  generalize w2.alloc (.cells #[.int .i64 0, .int .i64 0, .int .i64 0, .int .u32 0] 34) = x2 at S2 R2 B3 hb ⊢
  generalize w2.heap.size = H2 at S2 ⊢
  have R4 := Lib.hid ((R2.out.step hb).alloc (.cells #[.int .i64 0, .int .i64 0, .int .i64 0, .int .u32 0] 34))
  clear R2
  have S3 := Lib.hid (S2.out.step hb)
  have B4 := Lib.hid (B3.out.trans (hb.mono B3.out.size))
  clear hb B2 S2 B3
  have S4 := Lib.hid (S3.out.alloc (.cells #[.int .i64 0, .int .i64 0, .int .i64 0, .int .u32 0] 34))
  have T4 := Lib.hid (CellsAt.new w3 [.int .i64 0, .int .i64 0, .int .i64 0, .int .u32 0] 34)
  have B5 := Lib.hid (B4.out.alloc B4.out.size (.cells #[.int .i64 0, .int .i64 0, .int .i64 0, .int .u32 0] 34))
  clear S3 B4
  go_wp2_with fail
  refine (next_nil _).mono ?_
  rintro e w4 ⟨rfl, hb⟩
  change Hid (CellsAt (w3.alloc (.cells #[.int .i64 0, .int .i64 0, .int .i64 0, .int .u32 0] 34)) w3.heap.size _) at T4
  generalize w3.alloc (.cells #[.int .i64 0, .int .i64 0, .int .i64 0, .int .u32 0] 34) = x3 at S4 T4 R4 B5 hb ⊢
  generalize w3.heap.size = H3 at T4 ⊢
  have R6 := Lib.hid ((R4.out.step hb).alloc (.cells #[.int .u64 0, .string ⟨#[]⟩] 24))
  clear R4
  have S5 := Lib.hid (S4.out.step hb)
  have T5 := Lib.hid (T4.out.step hb)
  have B6 := Lib.hid (B5.out.trans (hb.mono B5.out.size))
  clear hb S4 T4 B5
  have S6 := Lib.hid (S5.out.alloc (.cells #[.int .u64 0, .string ⟨#[]⟩] 24))
  have T6 := Lib.hid (T5.out.alloc (.cells #[.int .u64 0, .string ⟨#[]⟩] 24))
  have U6 := Lib.hid (CellsAt.new w4 [.int .u64 0, .string ⟨#[]⟩] 24)
  have B7 := Lib.hid (B6.out.alloc B6.out.size (.cells #[.int .u64 0, .string ⟨#[]⟩] 24))
  clear S5 T5 B6
  go_upto_region 6 with fail
  change Hid (CellsAt (w4.alloc (.cells #[.int .u64 0, .string ⟨#[]⟩] 24)) w4.heap.size _) at U6
  generalize w4.alloc (.cells #[.int .u64 0, .string ⟨#[]⟩] 24) = x4 at S6 T6 R6 U6 B7 ⊢
  generalize w4.heap.size = H4 at U6 ⊢
  have r0 := R6.out.cell 0 _ rfl
  have r1 := R6.out.cell 1 _ rfl
  go_wp2_with (go_at_call 9; refine (num_ok _ _).mono ?_; rintro e w' ⟨rfl, rfl⟩)
  refine (add_nil _ _ _).mono ?_
  rintro e w5 ⟨rfl, hb⟩
  clear r0 r1
  have S7 := Lib.hid (S6.out.step hb)
  have T7 := Lib.hid (T6.out.step hb)
  have U7 := Lib.hid (U6.out.step hb)
  have B8 := Lib.hid (B7.out.trans (hb.mono B7.out.size))
  clear hb S6 T6 U6 B7 R6
  have s0 := S7.out.cell 0 _ rfl
  have s1 := S7.out.cell 1 _ rfl
  have s2 := S7.out.cell 2 _ rfl
  have s3 := S7.out.cell 3 _ rfl
  have t0 := T7.out.cell 0 _ rfl
  have t1 := T7.out.cell 1 _ rfl
  have t2 := T7.out.cell 2 _ rfl
  have t3 := T7.out.cell 3 _ rfl
  have u0 := U7.out.cell 0 _ rfl
  have u1 := U7.out.cell 1 _ rfl
  go_wp2_with (go_at_call 9; refine (num_ok _ _).mono ?_; rintro e w' ⟨rfl, rfl⟩)
  go_ret
  exact ⟨rfl, B8.out⟩
end Go.Proofs.YtcpikfaofmlodaaGreatDoor
