/- Disorder of the program and of the document; the law. -/
import Derived.Test.YtlohgcdonenmeaaDoorDg
import Derived.Deep.RegionHeld3
import Derived.Deep.Cut
import Derived.Deep.MidRow
namespace Go.Proofs.YtlohgcdonenmeaaDoor
open Go.RowKit
set_option maxRecDepth 100000

def disL : List UInt8 := [58, 32, 100, 105, 115, 111, 114, 100, 101, 114, 58, 32]
/-- The line of a check. -/
def dsS (f : List UInt8) (n : Int) (l : List UInt8) : List UInt8 := sortL ++ shS f ++ [58] ++ dcS n ++ disL ++ shS l
/-- What a check tells, as a value. -/
def stV (a b c d e : Value) (n : Int) (l f : List UInt8) (r : Value) : List Value := [a, b, c, d, e, .int .i64 n, .string (bs l), .string (bs f), r]
theorem sz (a b : ByteArray) (h : a.size + b.size ≤ 1099511627776) : ¬ 9223372036854775807 < a.size + b.size := by omega
theorem belowTo3 {w W w5 : World} (h : Below w.heap.size w W) (k : Below W.heap.size W w5) : Below w.heap.size w w5 := h.trans (k.mono h.size)
set_option maxHeartbeats 4000000 in
theorem dis_ok (a b c d e r : Value) (n : Int) (h0 : -9223372036854775808 ≤ n) (h1 : n ≤ 9223372036854775807) (l f : List UInt8) (hl : l.length ≤ 1048576) (hf : f.length ≤ 1048576) (w : World) (T : Tabs w) :
    Calls Tryd.prog 5 #[.agg #[a, b, c, d, e, .int .i64 n, .string (bs l), .string (bs f), r]] w (RetBelow w (.string (bs (dsS f n l)))) := by
  have N0 := CellsAt.new w [a, b, c, d, e, .int .i64 n, .string (bs l), .string (bs f), r] 23
  have hb0 := below_alloc w (.cells #[a, b, c, d, e, .int .i64 n, .string (bs l), .string (bs f), r] 23)
  have HT := T.below hb0
  have C1 := Lib.hid (fun w => nameOf_ok (bs f) (by rw [bs_size]; omega) w)
  have C2 := Lib.hid (fun w => nameOf_ok (bs l) (by rw [bs_size]; omega) w)
  have C3 := Lib.hid (fun w T => itoa_ok n h0 h1 w T)
  rw [bs_list] at C1 C2
  have L1 := shS_len f
  have L2 := shS_len l
  have L3 := dc_len n h0 h1
  obtain ⟨F, hF⟩ : ∃ F, F = bs (shS f) := ⟨_, rfl⟩
  obtain ⟨L, hL⟩ : ∃ L, L = bs (shS l) := ⟨_, rfl⟩
  obtain ⟨M, hM⟩ : ∃ M, M = bs (dcS n) := ⟨_, rfl⟩
  have zF : F.size ≤ 4194304 := by rw [hF, bs_size]; omega
  have zL : L.size ≤ 4194304 := by rw [hL, bs_size]; omega
  have zM : M.size ≤ 21 := by rw [hM]; exact L3
  have E := Lib.hid (show bs (dsS f n l) = (⟨#[115, 111, 114, 116, 58, 32]⟩ : ByteArray) ++ F ++ (⟨#[58]⟩ : ByteArray) ++ M ++ (⟨#[58, 32, 100, 105, 115, 111, 114, 100, 101, 114, 58, 32]⟩ : ByteArray) ++ L by
    unfold dsS; rw [hF, hL, hM, ← bs_cat, ← bs_cat, ← bs_cat, ← bs_cat, ← bs_cat]; rfl)
  rw [← hF] at C1
  rw [← hL] at C2
  rw [← hM] at C3
  clear hF hL hM L1 L2 L3 h0 h1 hl hf T
  have s1 : (⟨#[115, 111, 114, 116, 58, 32]⟩ : ByteArray).size = 6 := rfl
  have s2 : (⟨#[58]⟩ : ByteArray).size = 1 := rfl
  have s3 : (⟨#[58, 32, 100, 105, 115, 111, 114, 100, 101, 114, 58, 32]⟩ : ByteArray).size = 12 := rfl
  generalize hP1 : (⟨#[115, 111, 114, 116, 58, 32]⟩ : ByteArray) = P1 at *
  generalize hP2 : (⟨#[58]⟩ : ByteArray) = P2 at *
  generalize hP3 : (⟨#[58, 32, 100, 105, 115, 111, 114, 100, 101, 114, 58, 32]⟩ : ByteArray) = P3 at *
  have z1 := sz P1 F (by omega)
  have z2 := sz (P1 ++ F) P2 (by simp only [ByteArray.size_append]; omega)
  have z3 := sz (P1 ++ F ++ P2) M (by simp only [ByteArray.size_append]; omega)
  have z4 := sz (P1 ++ F ++ P2 ++ M) P3 (by simp only [ByteArray.size_append]; omega)
  have z5 := sz (P1 ++ F ++ P2 ++ M ++ P3) L (by simp only [ByteArray.size_append]; omega)
  have y2 : ¬ 9223372036854775807 < P1.size + F.size + P2.size := by omega
  have y3 : ¬ 9223372036854775807 < P1.size + F.size + P2.size + M.size := by omega
  have y4 : ¬ 9223372036854775807 < P1.size + F.size + P2.size + M.size + P3.size := by omega
  have y5 : ¬ 9223372036854775807 < P1.size + F.size + P2.size + M.size + P3.size + L.size := by omega
  clear s1 s2 s3 zF zL zM
  subst hP1 hP2 hP3
  have n5 := N0.cell 5 _ rfl
  have n6 := N0.cell 6 _ rfl
  have n7 := N0.cell 7 _ rfl
  have HN0 := Lib.hid N0
  have HB0 := Lib.hid hb0
  have HTT := Lib.hid HT
  clear N0 hb0 HT
  generalize bs f = f' at *
  generalize bs l = l' at *
  go_enter Tryd.func5, Tryd.ntmps5
  go_upto_region 1 with fail
  generalize hP1 : (⟨#[115, 111, 114, 116, 58, 32]⟩ : ByteArray) = P1 at *
  generalize hP2 : (⟨#[58]⟩ : ByteArray) = P2 at *
  generalize hP3 : (⟨#[58, 32, 100, 105, 115, 111, 114, 100, 101, 114, 58, 32]⟩ : ByteArray) = P3 at *
  clear hP1 hP2 hP3
  generalize hX : w.alloc (.cells #[a, b, c, d, e, .int .i64 n, .string l', .string f', r] 23) = x at *
  have hA : CellsAt x.drew w.heap.size [a, b, c, d, e, .int .i64 n, .string l', .string f', r] := HN0.out.step ((Below.refl _ _).drew)
  have hbw : Below w.heap.size w x.drew := HB0.out.drew
  have hT : Tabs x.drew := HTT.out.below ((Below.refl _ _).drew)
  clear hX HN0 HB0 HTT
  go_region_held3 (fun w' => w'.cell? ⟨w.heap.size, 5, none⟩ = some (.int .i64 n) ∧ w'.cell? ⟨w.heap.size, 6, none⟩ = some (.string l') ∧ w'.cell? ⟨w.heap.size, 7, none⟩ = some (.string f'))
    (first | go_keep)
    ((first
      | (go_at_call 9; ((with_reducible refine (C1.out _).mono ?_); rintro ee w6 ⟨rfl, hbb⟩; have hA : CellsAt w6 w.heap.size _ := CellsAt.step (by assumption) hbb; have hT : Tabs w6 := Tabs.below (by assumption) hbb; have hbw : Below w.heap.size w w6 := belowTo3 (by assumption) hbb; have n5 := hA.cell 5 _ rfl; have n6 := hA.cell 6 _ rfl; have n7 := hA.cell 7 _ rfl))
      | (go_at_call 9; ((with_reducible refine (C2.out _).mono ?_); rintro ee w6 ⟨rfl, hbb⟩; have hA : CellsAt w6 w.heap.size _ := CellsAt.step (by assumption) hbb; have hT : Tabs w6 := Tabs.below (by assumption) hbb; have hbw : Below w.heap.size w w6 := belowTo3 (by assumption) hbb; have n5 := hA.cell 5 _ rfl; have n6 := hA.cell 6 _ rfl; have n7 := hA.cell 7 _ rfl))
      | (go_at_call 10; ((with_reducible refine (C3.out _ (by assumption)).mono ?_); rintro ee w6 ⟨rfl, hbb⟩; have hA : CellsAt w6 w.heap.size _ := CellsAt.step (by assumption) hbb; have hT : Tabs w6 := Tabs.below (by assumption) hbb; have hbw : Below w.heap.size w w6 := belowTo3 (by assumption) hbb; have n5 := hA.cell 5 _ rfl; have n6 := hA.cell 6 _ rfl; have n7 := hA.cell 7 _ rfl))))
  all_goals
    go_wp2_with fail
    go_ret
    exact ⟨by rw [E.out]; rfl, hbw⟩
set_option maxHeartbeats 4000000 in
theorem disR_ok (a b c d e r : Value) (n : Int) (h0 : -9223372036854775808 ≤ n) (h1 : n ≤ 9223372036854775807) (l f : List UInt8) (hl : l.length ≤ 1048576) (hf : f.length ≤ 1048576) (w : World) (T : Tabs w) :
    Calls Tryd.prog 6 #[.agg #[a, b, c, d, e, .int .i64 n, .string (bs l), .string (bs f), r]] w (RetBelow w (.string (bs (dsS f n l)))) := by
  have N0 := CellsAt.new w [a, b, c, d, e, .int .i64 n, .string (bs l), .string (bs f), r] 23
  have hb0 := below_alloc w (.cells #[a, b, c, d, e, .int .i64 n, .string (bs l), .string (bs f), r] 23)
  have HT := T.below hb0
  have C1 := Lib.hid (fun w => shown_ok (bs f) (by rw [bs_size]; omega) w)
  have C2 := Lib.hid (fun w => shown_ok (bs l) (by rw [bs_size]; omega) w)
  have C3 := Lib.hid (fun w (_ : Tabs w) => decimal_ok n.natAbs n (Nat.le_refl _) h0 h1 w)
  rw [bs_list] at C1 C2
  have L1 := shS_len f
  have L2 := shS_len l
  have L3 := dc_len n h0 h1
  obtain ⟨F, hF⟩ : ∃ F, F = bs (shS f) := ⟨_, rfl⟩
  obtain ⟨L, hL⟩ : ∃ L, L = bs (shS l) := ⟨_, rfl⟩
  obtain ⟨M, hM⟩ : ∃ M, M = bs (dcS n) := ⟨_, rfl⟩
  have zF : F.size ≤ 4194304 := by rw [hF, bs_size]; omega
  have zL : L.size ≤ 4194304 := by rw [hL, bs_size]; omega
  have zM : M.size ≤ 21 := by rw [hM]; exact L3
  have E := Lib.hid (show bs (dsS f n l) = (⟨#[115, 111, 114, 116, 58, 32]⟩ : ByteArray) ++ F ++ (⟨#[58]⟩ : ByteArray) ++ M ++ (⟨#[58, 32, 100, 105, 115, 111, 114, 100, 101, 114, 58, 32]⟩ : ByteArray) ++ L by
    unfold dsS; rw [hF, hL, hM, ← bs_cat, ← bs_cat, ← bs_cat, ← bs_cat, ← bs_cat]; rfl)
  rw [← hF] at C1
  rw [← hL] at C2
  rw [← hM] at C3
  clear hF hL hM L1 L2 L3 h0 h1 hl hf T
  have s1 : (⟨#[115, 111, 114, 116, 58, 32]⟩ : ByteArray).size = 6 := rfl
  have s2 : (⟨#[58]⟩ : ByteArray).size = 1 := rfl
  have s3 : (⟨#[58, 32, 100, 105, 115, 111, 114, 100, 101, 114, 58, 32]⟩ : ByteArray).size = 12 := rfl
  generalize hP1 : (⟨#[115, 111, 114, 116, 58, 32]⟩ : ByteArray) = P1 at *
  generalize hP2 : (⟨#[58]⟩ : ByteArray) = P2 at *
  generalize hP3 : (⟨#[58, 32, 100, 105, 115, 111, 114, 100, 101, 114, 58, 32]⟩ : ByteArray) = P3 at *
  have z1 := sz P1 F (by omega)
  have z2 := sz (P1 ++ F) P2 (by simp only [ByteArray.size_append]; omega)
  have z3 := sz (P1 ++ F ++ P2) M (by simp only [ByteArray.size_append]; omega)
  have z4 := sz (P1 ++ F ++ P2 ++ M) P3 (by simp only [ByteArray.size_append]; omega)
  have z5 := sz (P1 ++ F ++ P2 ++ M ++ P3) L (by simp only [ByteArray.size_append]; omega)
  have y2 : ¬ 9223372036854775807 < P1.size + F.size + P2.size := by omega
  have y3 : ¬ 9223372036854775807 < P1.size + F.size + P2.size + M.size := by omega
  have y4 : ¬ 9223372036854775807 < P1.size + F.size + P2.size + M.size + P3.size := by omega
  have y5 : ¬ 9223372036854775807 < P1.size + F.size + P2.size + M.size + P3.size + L.size := by omega
  clear s1 s2 s3 zF zL zM
  subst hP1 hP2 hP3
  have n5 := N0.cell 5 _ rfl
  have n6 := N0.cell 6 _ rfl
  have n7 := N0.cell 7 _ rfl
  have HN0 := Lib.hid N0
  have HB0 := Lib.hid hb0
  have HTT := Lib.hid HT
  clear N0 hb0 HT
  generalize bs f = f' at *
  generalize bs l = l' at *
  go_enter Tryd.func6, Tryd.ntmps6
  go_upto_region 1 with fail
  generalize hP1 : (⟨#[115, 111, 114, 116, 58, 32]⟩ : ByteArray) = P1 at *
  generalize hP2 : (⟨#[58]⟩ : ByteArray) = P2 at *
  generalize hP3 : (⟨#[58, 32, 100, 105, 115, 111, 114, 100, 101, 114, 58, 32]⟩ : ByteArray) = P3 at *
  clear hP1 hP2 hP3
  generalize hX : w.alloc (.cells #[a, b, c, d, e, .int .i64 n, .string l', .string f', r] 23) = x at *
  have hA : CellsAt x.drew w.heap.size [a, b, c, d, e, .int .i64 n, .string l', .string f', r] := HN0.out.step ((Below.refl _ _).drew)
  have hbw : Below w.heap.size w x.drew := HB0.out.drew
  have hT : Tabs x.drew := HTT.out.below ((Below.refl _ _).drew)
  clear hX HN0 HB0 HTT
  go_region_held3 (fun w' => w'.cell? ⟨w.heap.size, 5, none⟩ = some (.int .i64 n) ∧ w'.cell? ⟨w.heap.size, 6, none⟩ = some (.string l') ∧ w'.cell? ⟨w.heap.size, 7, none⟩ = some (.string f'))
    (first | go_keep)
    ((first
      | (go_at_call 11; ((with_reducible refine (C1.out _).mono ?_); rintro ee w6 ⟨rfl, hbb⟩; have hA : CellsAt w6 w.heap.size _ := CellsAt.step (by assumption) hbb; have hT : Tabs w6 := Tabs.below (by assumption) hbb; have hbw : Below w.heap.size w w6 := belowTo3 (by assumption) hbb; have n5 := hA.cell 5 _ rfl; have n6 := hA.cell 6 _ rfl; have n7 := hA.cell 7 _ rfl))
      | (go_at_call 11; ((with_reducible refine (C2.out _).mono ?_); rintro ee w6 ⟨rfl, hbb⟩; have hA : CellsAt w6 w.heap.size _ := CellsAt.step (by assumption) hbb; have hT : Tabs w6 := Tabs.below (by assumption) hbb; have hbw : Below w.heap.size w w6 := belowTo3 (by assumption) hbb; have n5 := hA.cell 5 _ rfl; have n6 := hA.cell 6 _ rfl; have n7 := hA.cell 7 _ rfl))
      | (go_at_call 12; ((with_reducible refine (C3.out _ (by assumption)).mono ?_); rintro ee w6 ⟨rfl, hbb⟩; have hA : CellsAt w6 w.heap.size _ := CellsAt.step (by assumption) hbb; have hT : Tabs w6 := Tabs.below (by assumption) hbb; have hbw : Below w.heap.size w w6 := belowTo3 (by assumption) hbb; have n5 := hA.cell 5 _ rfl; have n6 := hA.cell 6 _ rfl; have n7 := hA.cell 7 _ rfl))))
  all_goals
    go_wp2_with fail
    go_ret
    exact ⟨by rw [E.out]; rfl, hbw⟩
set_option maxHeartbeats 2000000 in
theorem disorders_walk (a b c d e r : Value) (n : Int) (h0 : -9223372036854775808 ≤ n) (h1 : n ≤ 9223372036854775807) (l f : List UInt8) (hl : l.length ≤ 1048576) (hf : f.length ≤ 1048576) (w : World) (T : Tabs w) :
    Calls Tryd.prog 3 #[.agg #[a, b, c, d, e, .int .i64 n, .string (bs l), .string (bs f), r]] w (RetBelow w (.bool true)) := by
  have C1 := Lib.hid (fun w T => dis_ok a b c d e r n h0 h1 l f hl hf w T)
  have C2 := Lib.hid (fun w T => disR_ok a b c d e r n h0 h1 l f hl hf w T)
  have N0 := Lib.hid (CellsAt.new w [a, b, c, d, e, .int .i64 n, .string (bs l), .string (bs f), r] 23)
  have hb0 := below_alloc w (.cells #[a, b, c, d, e, .int .i64 n, .string (bs l), .string (bs f), r] 23)
  have HT := Lib.hid (T.below hb0)
  have HB := Lib.hid hb0
  clear h0 h1 hl hf T hb0
  generalize bs (dsS f n l) = D at *
  generalize bs l = l' at *
  generalize bs f = f' at *
  go_enter Tryd.func3, Tryd.ntmps3
  go_wp2_with (go_at_call 5; refine (C1.out _ HT.out).mono ?_)
  rintro e1 w1 ⟨rfl, b1⟩
  have HB1 := Lib.hid (HB.out.trans (b1.mono HB.out.size))
  have HT1 := Lib.hid (HT.out.below b1)
  have N1 := N0.out.step b1
  have R0 : w1.rangeAt w.heap.size 0 [a, b, c, d, e, .int .i64 n, .string l', .string f', r] := fun j v hv => by rw [Nat.zero_add]; exact N1.cell j v hv
  have HR := Lib.hid R0
  clear b1 N0 N1 R0 C1 HT HB
  go_wp2_with (first | (go_at_call 6; refine (C2.out _ HT1.out).mono ?_) | (guard_target =~ wpList _ _ _ (⟨some _, Op.load 23 _, _, _, _, _⟩ :: _) _ _; go_must (refine wpList_load_mid rfl 23 _ rfl w.heap.size 0 rfl [a, b, c, d, e, .int .i64 n, .string l', .string f', r] _ HR.out Tryd.underlying23 rfl (by kernel_rfl) ?_)))
  rintro e2 w2 ⟨rfl, b2⟩
  have HB2 := Lib.hid b2
  clear b2 C2
  go_wp2_with fail
  go_ret
  exact ⟨by simp, HB1.out.trans (HB2.out.mono HB1.out.size)⟩
end Go.Proofs.YtlohgcdonenmeaaDoor
