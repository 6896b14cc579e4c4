/- CollateNil: the walk. -/
import Derived.Test.YtllgleibhfpigaaGreatDoorNw
namespace Go.Proofs.YtllgleibhfpigaaGreatDoor
open Go.RowKit

set_option maxRecDepth 100000
theorem sort_nil (v : Value) (w : World) : Calls Tryz.prog 13 #[.pointer none, v] w (RetV w (.slice none 0 0)) := by
  go_enter Tryz.func13, Tryz.ntmps13
  go_wp2_with fail
  go_ret
  exact ⟨rfl, rfl⟩
theorem keys_nil (a b : Value) (w : World) : Calls Tryz.prog 14 #[.pointer none, a, b] w (RetV w (.int .i64 0)) := by
  go_enter Tryz.func14, Tryz.ntmps14
  go_wp2_with (go_at_call 8; refine (count_nil _).mono ?_; rintro e w' ⟨rfl, rfl⟩)
  refine wp_loop_rounds 1 ?_
  rw [rounds_succ]
  go_wp2_with fail
  go_ret
  exact ⟨rfl, rfl⟩
theorem compare_nil (a b : Value) (w : World) : Calls Tryz.prog 15 #[.pointer none, a, b] w (RetV w (.int .i64 0)) := by
  go_enter Tryz.func15, Tryz.ntmps15
  go_wp2_with (go_at_call 14; refine (keys_nil _ _ _).mono ?_; rintro e w' ⟨rfl, rfl⟩)
  go_ret
  exact ⟨rfl, rfl⟩
theorem span_nil (a : Value) (i : Int) (w : World) : Calls Tryz.prog 9 #[.pointer none, a, .int .i64 i] w (RetB w (.agg #[.int .i64 0, .int .i64 0])) := by
  by_cases h : i < 0
  · have t1 : decide (i < 0) = true := by simpa using h
    go_enter Tryz.func9, Tryz.ntmps9
    go_wp2_with fail
    exact bodyPost_ret (v := .agg #[.int .i64 0, .int .i64 0]) (by simp [results, Tryz.results9, go_sem]) rfl ⟨rfl, (Below.refl _ _).alloc (Nat.le_refl _) _⟩
  · have t1 : decide (i < 0) = false := by simpa using h
    have t2 : decide (0 ≤ i) = true := by simp; omega
    go_enter Tryz.func9, Tryz.ntmps9
    go_wp2_with (go_at_call 8; refine (count_nil _).mono ?_; rintro e w' ⟨rfl, rfl⟩)
    exact bodyPost_ret (v := .agg #[.int .i64 0, .int .i64 0]) (by simp [results, Tryz.results9, go_sem]) rfl ⟨rfl, (Below.refl _ _).alloc (Nat.le_refl _) _⟩
theorem filter_nil (a : Value) (i : Int) (w : World) : Calls Tryz.prog 11 #[.pointer none, a, .int .i64 i] w (RetV w (.string ⟨#[]⟩)) := by
  by_cases h : i < 0
  · have t1 : decide (i < 0) = true := by simpa using h
    go_enter Tryz.func11, Tryz.ntmps11
    go_wp2_with fail
    go_ret
    exact ⟨rfl, rfl⟩
  · have t1 : decide (i < 0) = false := by simpa using h
    have t2 : decide (0 ≤ i) = true := by simp; omega
    go_enter Tryz.func11, Tryz.ntmps11
    go_wp2_with (go_at_call 8; refine (count_nil _).mono ?_; rintro e w' ⟨rfl, rfl⟩)
    go_ret
    exact ⟨rfl, rfl⟩
theorem conv_nil (w : World) : (convert 71 9 (.slice none 0 0)).run Tryz.prog w = .ok (.string ⟨#[]⟩) w := by rfl
theorem transform_nil (a : Value) (w : World) : Calls Tryz.prog 16 #[.pointer none, a] w (RetB w (.string ⟨#[]⟩)) := by
  have hc := conv_nil w
  go_enter Tryz.func16, Tryz.ntmps16
  go_wp2_with (go_at_call 8; refine (count_nil _).mono ?_; rintro e w' ⟨rfl, rfl⟩)
  refine wp_loop_rounds 1 ?_
  rw [rounds_succ]
  go_wp2_with fail
  go_ret
  exact ⟨rfl, Below.refl _ _⟩
theorem num_ok (x : Int) (w : World) : Calls Tryz.prog 18 #[.int .i64 x] w (RetV w (.int .i64 x)) := by
  go_enter Tryz.func18, Tryz.ntmps18
  go_wp2_with fail
  go_ret
  exact ⟨rfl, rfl⟩
set_option maxHeartbeats 1600000 in
theorem nil_law (a b : ByteArray) (i : Int) (w : World) : Calls Tryz.prog 5 #[.string a, .string b, .int .i64 i] w (RetB w (.bool true)) := by
  go_enter Tryz.func5, Tryz.ntmps5
  go_wp2_with fail
  refine (sort_nil _ _).mono ?_
  rintro e w1 ⟨rfl, rfl⟩
  have B1 := Lib.hid ((Below.refl w.heap.size w).alloc (Nat.le_refl _) (.cells #[.int .u64 1, .string a] 48))
  go_wp2_with fail
  refine (keys_nil _ _ _).mono ?_
  rintro e w1 ⟨rfl, rfl⟩
  go_wp2_with fail
  refine (compare_nil _ _ _).mono ?_
  rintro e w1 ⟨rfl, rfl⟩
  go_wp2_with fail
  refine (span_nil _ _ _).mono ?_
  rintro e w2 ⟨rfl, hb⟩
  have B2 := Lib.hid (B1.out.trans (hb.mono B1.out.size))
  clear hb B1
  have S2 := Lib.hid (CellsAt.new w2 [.int .i64 0, .int .i64 0] 37)
  have B3 := Lib.hid (B2.out.alloc B2.out.size (.cells #[.int .i64 0, .int .i64 0] 37))
  go_wp2_with fail
  refine (filter_nil _ _ _).mono ?_
  rintro e w3 ⟨rfl, rfl⟩
  change Hid (CellsAt (w2.alloc (.cells #[.int .i64 0, .int .i64 0] 37)) w2.heap.size _) at S2
  generalize w2.alloc (.cells #[.int .i64 0, .int .i64 0] 37) = w3 at S2 B3 ⊢
  generalize w2.heap.size = H at S2 ⊢
  clear B2
  go_wp2_with fail
  refine (transform_nil _ _).mono ?_
  rintro e w4 ⟨rfl, hb⟩
  have S4 := Lib.hid (S2.out.step hb)
  have B4 := Lib.hid (B3.out.trans (hb.mono B3.out.size))
  clear hb S2 B3
  go_wp2_with fail
  refine (count_nil _).mono ?_
  rintro e w5 ⟨rfl, rfl⟩
  go_wp2_with fail
  refine (new0 _).mono ?_
  rintro e w5 ⟨p, ad, c, rfl, hp, hb⟩
  have S5 := Lib.hid (S4.out.step hb)
  have B5 := Lib.hid (B4.out.trans (hb.mono B4.out.size))
  have CO := Lib.hid (count_ok p 1 c ad w5 hp)
  clear hb S4 B4 hp
  go_wp2_with (go_at_call 18; refine (num_ok _ _).mono ?_; rintro e w' ⟨rfl, rfl⟩)
  refine CO.out.mono ?_
  rintro e w6 ⟨rfl, rfl⟩
  have s0 := S5.out.cell 0 _ rfl
  have s1 := S5.out.cell 1 _ rfl
  go_wp2_with fail
  go_ret
  exact ⟨rfl, B5.out⟩
end Go.Proofs.YtllgleibhfpigaaGreatDoor
