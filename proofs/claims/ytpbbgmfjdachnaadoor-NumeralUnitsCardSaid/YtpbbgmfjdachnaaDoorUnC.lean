/- NumeralUnits: the walk: two letters. -/
import Derived.Test.YtpbbgmfjdachnaaDoorAlive
import Derived.Test.YtpbbgmfjdachnaaDoorHum
namespace Go.Proofs.YtpbbgmfjdachnaaDoor
open Go.RowKit

set_option maxRecDepth 100000
set_option maxHeartbeats 3200000 in
theorem units_0j_lt (a b : Int) (j : Nat) (S R : ByteArray) (hS : S.size ≤ 60) (hR : R.size ≤ 60) (w : World) (T : Tabs w)
    (ra : 0 < a ∧ a < 4611686018427387904) (rb : 0 < b ∧ b < 4611686018427387904) (rj : j ≤ 9)
    (W1 : Hid (∀ W, Calls Tryd.prog 15 #[.int .i64 a, .int .i64 (0 : Nat)] W (RetBelow W (.string S))))
    (W2 : Hid (∀ W, Calls Tryd.prog 15 #[.int .i64 b, .int .i64 (0 : Nat)] W (RetBelow W (.string R))))
    (H1 : Hid (∀ W, Tabs W → Calls Tryd.prog 23 #[.string S] W (RetHum W 0)))
    (H2 : Hid (∀ W, Tabs W → Calls Tryd.prog 23 #[.string (⟨#[48]⟩ ++ (⟨#[75, 77, 71, 84, 80, 69, 90, 89, 82, 81]⟩ : ByteArray).extract 0 1)] W (RetHum W 0)))
    (C1 : Hid (∀ W, Tabs W → Calls Tryd.prog 21 #[.int .u16 64, .string S, .string (R ++ (⟨#[75, 77, 71, 84, 80, 69, 90, 89, 82, 81]⟩ : ByteArray).extract j (j + 1))] W (RetBelow W (.int .i64 (-1)))))
    (C2 : Hid (∀ W, Tabs W → Calls Tryd.prog 21 #[.int .u16 64, .string (⟨#[45]⟩ ++ S), .string (⟨#[45]⟩ ++ (R ++ (⟨#[75, 77, 71, 84, 80, 69, 90, 89, 82, 81]⟩ : ByteArray).extract j (j + 1)))] W (RetBelow W (.int .i64 1))))
    (C3 : Hid (∀ W, Tabs W → Calls Tryd.prog 21 #[.int .u16 64, .string (⟨#[45]⟩ ++ S), .string (R ++ (⟨#[75, 77, 71, 84, 80, 69, 90, 89, 82, 81]⟩ : ByteArray).extract j (j + 1))] W (RetBelow W (.int .i64 (-1)))))
    (C4 : Hid (∀ W, Tabs W → Calls Tryd.prog 21 #[.int .u16 64, .string ⟨#[48, 81]⟩, .string S] W (RetBelow W (.int .i64 (-1))))) :
    Calls Tryd.prog 8 #[.int .i64 a, .int .i64 b, .int .i64 0, .int .i64 ((j : Int) + 1)] w (RetBelow w (.bool true)) := by
  have HT := Lib.hid T
  clear T
  have s1 : ¬ 9223372036854775807 < S.size + 1 := by omega
  have s2 : ¬ 9223372036854775807 < R.size + 1 := by omega
  have s3 : ¬ 9223372036854775807 < 1 + S.size := by omega
  have s4 : ¬ 9223372036854775807 < 1 + R.size := by omega
  have s5 : ¬ 9223372036854775807 < 1 + (S.size + 1) := by omega
  have s6 : ¬ 9223372036854775807 < 1 + (R.size + 1) := by omega
  obtain ⟨ra1, ra2⟩ := ra
  obtain ⟨rb1, rb2⟩ := rb
  have rj' : (j : Int) ≤ 9 := by omega
  go_enter Tryd.func8, Tryd.ntmps8
  go_wp2_with fail
  refine (W1.out _).mono ?_
  rintro e1 w1 ⟨rfl, hb1⟩
  have B1 := Lib.hid hb1
  clear hb1
  go_wp2_with fail
  refine (W2.out _).mono ?_
  rintro e1 w2 ⟨rfl, hb2⟩
  have B2 := Lib.hid (B1.out.trans (hb2.mono B1.out.size))
  clear hb2
  go_wp2_with fail
  refine (H1.out _ (HT.out.below B2.out)).mono ?_
  rintro e1 w3 ⟨bb, pp, qq, zz, rfl, hb3⟩
  have B3 := Lib.hid ((B2.out.trans (hb3.mono B2.out.size)).alloc (Nat.le_trans B2.out.size hb3.size) (Obj.cells #[.bool bb, .string pp, .string qq, .int .i64 zz] 25))
  clear hb3
  go_wp2_with fail
  generalize hx : w3.alloc (Obj.cells #[.bool bb, .string pp, .string qq, .int .i64 zz] 25) = x3 at *
  clear hx
  refine (H2.out _ (HT.out.below B3.out)).mono ?_
  rintro e1 w4 ⟨bb2, pp2, qq2, zz2, rfl, hb4⟩
  have B4 := Lib.hid ((B3.out.trans (hb4.mono B3.out.size)).alloc (Nat.le_trans B3.out.size hb4.size) (Obj.cells #[.bool bb2, .string pp2, .string qq2, .int .i64 zz2] 25))
  clear hb4
  go_wp2_with fail
  generalize hx : w4.alloc (Obj.cells #[.bool bb2, .string pp2, .string qq2, .int .i64 zz2] 25) = x4 at *
  clear hx
  refine (C1.out _ (HT.out.below B4.out)).mono ?_
  rintro e1 v0 ⟨rfl, hbq⟩
  have P0 := Lib.hid (B4.out.trans (hbq.mono B4.out.size))
  clear hbq
  go_wp2_with fail
  refine (C2.out _ (HT.out.below P0.out)).mono ?_
  rintro e1 v1 ⟨rfl, hbq⟩
  have P1 := Lib.hid (P0.out.trans (hbq.mono P0.out.size))
  clear hbq
  go_wp2_with fail
  refine (C3.out _ (HT.out.below P1.out)).mono ?_
  rintro e1 v2 ⟨rfl, hbq⟩
  have P2 := Lib.hid (P1.out.trans (hbq.mono P1.out.size))
  clear hbq
  go_wp2_with fail
  refine (C4.out _ (HT.out.below P2.out)).mono ?_
  rintro e1 v3 ⟨rfl, hbq⟩
  have P3 := Lib.hid (P2.out.trans (hbq.mono P2.out.size))
  clear hbq
  go_wp2_with fail
  go_ret
  exact ⟨rfl, P3.out⟩

set_option maxHeartbeats 3200000 in
theorem units_i0_gt (a b : Int) (i : Nat) (S R : ByteArray) (hS : S.size ≤ 60) (hR : R.size ≤ 60) (w : World) (T : Tabs w)
    (ra : 0 < a ∧ a < 4611686018427387904) (rb : 0 < b ∧ b < 4611686018427387904) (ri : i ≤ 9)
    (W1 : Hid (∀ W, Calls Tryd.prog 15 #[.int .i64 a, .int .i64 (0 : Nat)] W (RetBelow W (.string S))))
    (W2 : Hid (∀ W, Calls Tryd.prog 15 #[.int .i64 b, .int .i64 (0 : Nat)] W (RetBelow W (.string R))))
    (H1 : Hid (∀ W, Tabs W → Calls Tryd.prog 23 #[.string (S ++ (⟨#[75, 77, 71, 84, 80, 69, 90, 89, 82, 81]⟩ : ByteArray).extract i (i + 1))] W (RetHum W ((i : Int) + 1))))
    (H2 : Hid (∀ W, Tabs W → Calls Tryd.prog 23 #[.string (⟨#[48]⟩ ++ (⟨#[75, 77, 71, 84, 80, 69, 90, 89, 82, 81]⟩ : ByteArray).extract ((i + 1) % 10) ((i + 1) % 10 + 1))] W (RetHum W 0)))
    (C1 : Hid (∀ W, Tabs W → Calls Tryd.prog 21 #[.int .u16 64, .string (S ++ (⟨#[75, 77, 71, 84, 80, 69, 90, 89, 82, 81]⟩ : ByteArray).extract i (i + 1)), .string R] W (RetBelow W (.int .i64 1))))
    (C2 : Hid (∀ W, Tabs W → Calls Tryd.prog 21 #[.int .u16 64, .string (⟨#[45]⟩ ++ (S ++ (⟨#[75, 77, 71, 84, 80, 69, 90, 89, 82, 81]⟩ : ByteArray).extract i (i + 1))), .string (⟨#[45]⟩ ++ R)] W (RetBelow W (.int .i64 (-1)))))
    (C3 : Hid (∀ W, Tabs W → Calls Tryd.prog 21 #[.int .u16 64, .string (⟨#[45]⟩ ++ (S ++ (⟨#[75, 77, 71, 84, 80, 69, 90, 89, 82, 81]⟩ : ByteArray).extract i (i + 1))), .string R] W (RetBelow W (.int .i64 (-1)))))
    (C4 : Hid (∀ W, Tabs W → Calls Tryd.prog 21 #[.int .u16 64, .string ⟨#[48, 81]⟩, .string (S ++ (⟨#[75, 77, 71, 84, 80, 69, 90, 89, 82, 81]⟩ : ByteArray).extract i (i + 1))] W (RetBelow W (.int .i64 (-1))))) :
    Calls Tryd.prog 8 #[.int .i64 a, .int .i64 b, .int .i64 ((i : Int) + 1), .int .i64 0] w (RetBelow w (.bool true)) := by
  have HT := Lib.hid T
  clear T
  have s1 : ¬ 9223372036854775807 < S.size + 1 := by omega
  have s2 : ¬ 9223372036854775807 < R.size + 1 := by omega
  have s3 : ¬ 9223372036854775807 < 1 + S.size := by omega
  have s4 : ¬ 9223372036854775807 < 1 + R.size := by omega
  have s5 : ¬ 9223372036854775807 < 1 + (S.size + 1) := by omega
  have s6 : ¬ 9223372036854775807 < 1 + (R.size + 1) := by omega
  obtain ⟨ra1, ra2⟩ := ra
  obtain ⟨rb1, rb2⟩ := rb
  have ri' : (i : Int) ≤ 9 := by omega
  go_enter Tryd.func8, Tryd.ntmps8
  go_wp2_with fail
  refine (W1.out _).mono ?_
  rintro e1 w1 ⟨rfl, hb1⟩
  have B1 := Lib.hid hb1
  clear hb1
  go_wp2_with fail
  refine (W2.out _).mono ?_
  rintro e1 w2 ⟨rfl, hb2⟩
  have B2 := Lib.hid (B1.out.trans (hb2.mono B1.out.size))
  clear hb2
  go_wp2_with fail
  refine (H1.out _ (HT.out.below B2.out)).mono ?_
  rintro e1 w3 ⟨bb, pp, qq, zz, rfl, hb3⟩
  have B3 := Lib.hid ((B2.out.trans (hb3.mono B2.out.size)).alloc (Nat.le_trans B2.out.size hb3.size) (Obj.cells #[.bool bb, .string pp, .string qq, .int .i64 zz] 25))
  clear hb3
  go_wp2_with fail
  generalize hx : w3.alloc (Obj.cells #[.bool bb, .string pp, .string qq, .int .i64 zz] 25) = x3 at *
  clear hx
  refine (H2.out _ (HT.out.below B3.out)).mono ?_
  rintro e1 w4 ⟨bb2, pp2, qq2, zz2, rfl, hb4⟩
  have B4 := Lib.hid ((B3.out.trans (hb4.mono B3.out.size)).alloc (Nat.le_trans B3.out.size hb4.size) (Obj.cells #[.bool bb2, .string pp2, .string qq2, .int .i64 zz2] 25))
  clear hb4
  go_wp2_with fail
  generalize hx : w4.alloc (Obj.cells #[.bool bb2, .string pp2, .string qq2, .int .i64 zz2] 25) = x4 at *
  clear hx
  refine (C1.out _ (HT.out.below B4.out)).mono ?_
  rintro e1 v0 ⟨rfl, hbq⟩
  have P0 := Lib.hid (B4.out.trans (hbq.mono B4.out.size))
  clear hbq
  go_wp2_with fail
  refine (C2.out _ (HT.out.below P0.out)).mono ?_
  rintro e1 v1 ⟨rfl, hbq⟩
  have P1 := Lib.hid (P0.out.trans (hbq.mono P0.out.size))
  clear hbq
  go_wp2_with fail
  refine (C3.out _ (HT.out.below P1.out)).mono ?_
  rintro e1 v2 ⟨rfl, hbq⟩
  have P2 := Lib.hid (P1.out.trans (hbq.mono P1.out.size))
  clear hbq
  go_wp2_with fail
  refine (C4.out _ (HT.out.below P2.out)).mono ?_
  rintro e1 v3 ⟨rfl, hbq⟩
  have P3 := Lib.hid (P2.out.trans (hbq.mono P2.out.size))
  clear hbq
  go_wp2_with fail
  go_ret
  exact ⟨rfl, P3.out⟩

set_option maxHeartbeats 3200000 in
theorem units_ij_lt (a b : Int) (i j : Nat) (S R : ByteArray) (hS : S.size ≤ 60) (hR : R.size ≤ 60) (w : World) (T : Tabs w)
    (ra : 0 < a ∧ a < 4611686018427387904) (rb : 0 < b ∧ b < 4611686018427387904) (ri : i ≤ 9) (rj : j ≤ 9) (hij : i < j)
    (W1 : Hid (∀ W, Calls Tryd.prog 15 #[.int .i64 a, .int .i64 (0 : Nat)] W (RetBelow W (.string S))))
    (W2 : Hid (∀ W, Calls Tryd.prog 15 #[.int .i64 b, .int .i64 (0 : Nat)] W (RetBelow W (.string R))))
    (H1 : Hid (∀ W, Tabs W → Calls Tryd.prog 23 #[.string (S ++ (⟨#[75, 77, 71, 84, 80, 69, 90, 89, 82, 81]⟩ : ByteArray).extract i (i + 1))] W (RetHum W ((i : Int) + 1))))
    (H2 : Hid (∀ W, Tabs W → Calls Tryd.prog 23 #[.string (⟨#[48]⟩ ++ (⟨#[75, 77, 71, 84, 80, 69, 90, 89, 82, 81]⟩ : ByteArray).extract ((i + 1) % 10) ((i + 1) % 10 + 1))] W (RetHum W 0)))
    (C1 : Hid (∀ W, Tabs W → Calls Tryd.prog 21 #[.int .u16 64, .string (S ++ (⟨#[75, 77, 71, 84, 80, 69, 90, 89, 82, 81]⟩ : ByteArray).extract i (i + 1)), .string (R ++ (⟨#[75, 77, 71, 84, 80, 69, 90, 89, 82, 81]⟩ : ByteArray).extract j (j + 1))] W (RetBelow W (.int .i64 (-1)))))
    (C2 : Hid (∀ W, Tabs W → Calls Tryd.prog 21 #[.int .u16 64, .string (⟨#[45]⟩ ++ (S ++ (⟨#[75, 77, 71, 84, 80, 69, 90, 89, 82, 81]⟩ : ByteArray).extract i (i + 1))), .string (⟨#[45]⟩ ++ (R ++ (⟨#[75, 77, 71, 84, 80, 69, 90, 89, 82, 81]⟩ : ByteArray).extract j (j + 1)))] W (RetBelow W (.int .i64 1))))
    (C3 : Hid (∀ W, Tabs W → Calls Tryd.prog 21 #[.int .u16 64, .string (⟨#[45]⟩ ++ (S ++ (⟨#[75, 77, 71, 84, 80, 69, 90, 89, 82, 81]⟩ : ByteArray).extract i (i + 1))), .string (R ++ (⟨#[75, 77, 71, 84, 80, 69, 90, 89, 82, 81]⟩ : ByteArray).extract j (j + 1))] W (RetBelow W (.int .i64 (-1)))))
    (C4 : Hid (∀ W, Tabs W → Calls Tryd.prog 21 #[.int .u16 64, .string ⟨#[48, 81]⟩, .string (S ++ (⟨#[75, 77, 71, 84, 80, 69, 90, 89, 82, 81]⟩ : ByteArray).extract i (i + 1))] W (RetBelow W (.int .i64 (-1))))) :
    Calls Tryd.prog 8 #[.int .i64 a, .int .i64 b, .int .i64 ((i : Int) + 1), .int .i64 ((j : Int) + 1)] w (RetBelow w (.bool true)) := by
  have HT := Lib.hid T
  clear T
  have s1 : ¬ 9223372036854775807 < S.size + 1 := by omega
  have s2 : ¬ 9223372036854775807 < R.size + 1 := by omega
  have s3 : ¬ 9223372036854775807 < 1 + S.size := by omega
  have s4 : ¬ 9223372036854775807 < 1 + R.size := by omega
  have s5 : ¬ 9223372036854775807 < 1 + (S.size + 1) := by omega
  have s6 : ¬ 9223372036854775807 < 1 + (R.size + 1) := by omega
  obtain ⟨ra1, ra2⟩ := ra
  obtain ⟨rb1, rb2⟩ := rb
  have ri' : (i : Int) ≤ 9 := by omega
  have rj' : (j : Int) ≤ 9 := by omega
  have hn1 : ¬ (i : Int) = j := by omega
  go_enter Tryd.func8, Tryd.ntmps8
  go_wp2_with fail
  refine (W1.out _).mono ?_
  rintro e1 w1 ⟨rfl, hb1⟩
  have B1 := Lib.hid hb1
  clear hb1
  go_wp2_with fail
  refine (W2.out _).mono ?_
  rintro e1 w2 ⟨rfl, hb2⟩
  have B2 := Lib.hid (B1.out.trans (hb2.mono B1.out.size))
  clear hb2
  go_wp2_with fail
  refine (H1.out _ (HT.out.below B2.out)).mono ?_
  rintro e1 w3 ⟨bb, pp, qq, zz, rfl, hb3⟩
  have B3 := Lib.hid ((B2.out.trans (hb3.mono B2.out.size)).alloc (Nat.le_trans B2.out.size hb3.size) (Obj.cells #[.bool bb, .string pp, .string qq, .int .i64 zz] 25))
  clear hb3
  go_wp2_with fail
  generalize hx : w3.alloc (Obj.cells #[.bool bb, .string pp, .string qq, .int .i64 zz] 25) = x3 at *
  clear hx
  refine (H2.out _ (HT.out.below B3.out)).mono ?_
  rintro e1 w4 ⟨bb2, pp2, qq2, zz2, rfl, hb4⟩
  have B4 := Lib.hid ((B3.out.trans (hb4.mono B3.out.size)).alloc (Nat.le_trans B3.out.size hb4.size) (Obj.cells #[.bool bb2, .string pp2, .string qq2, .int .i64 zz2] 25))
  clear hb4
  go_wp2_with fail
  generalize hx : w4.alloc (Obj.cells #[.bool bb2, .string pp2, .string qq2, .int .i64 zz2] 25) = x4 at *
  clear hx
  refine (C1.out _ (HT.out.below B4.out)).mono ?_
  rintro e1 v0 ⟨rfl, hbq⟩
  have P0 := Lib.hid (B4.out.trans (hbq.mono B4.out.size))
  clear hbq
  go_wp2_with fail
  refine (C2.out _ (HT.out.below P0.out)).mono ?_
  rintro e1 v1 ⟨rfl, hbq⟩
  have P1 := Lib.hid (P0.out.trans (hbq.mono P0.out.size))
  clear hbq
  go_wp2_with fail
  refine (C3.out _ (HT.out.below P1.out)).mono ?_
  rintro e1 v2 ⟨rfl, hbq⟩
  have P2 := Lib.hid (P1.out.trans (hbq.mono P1.out.size))
  clear hbq
  go_wp2_with fail
  refine (C4.out _ (HT.out.below P2.out)).mono ?_
  rintro e1 v3 ⟨rfl, hbq⟩
  have P3 := Lib.hid (P2.out.trans (hbq.mono P2.out.size))
  clear hbq
  go_wp2_with fail
  go_ret
  exact ⟨rfl, P3.out⟩

set_option maxHeartbeats 3200000 in
theorem units_ij_gt (a b : Int) (i j : Nat) (S R : ByteArray) (hS : S.size ≤ 60) (hR : R.size ≤ 60) (w : World) (T : Tabs w)
    (ra : 0 < a ∧ a < 4611686018427387904) (rb : 0 < b ∧ b < 4611686018427387904) (ri : i ≤ 9) (rj : j ≤ 9) (hij : j < i)
    (W1 : Hid (∀ W, Calls Tryd.prog 15 #[.int .i64 a, .int .i64 (0 : Nat)] W (RetBelow W (.string S))))
    (W2 : Hid (∀ W, Calls Tryd.prog 15 #[.int .i64 b, .int .i64 (0 : Nat)] W (RetBelow W (.string R))))
    (H1 : Hid (∀ W, Tabs W → Calls Tryd.prog 23 #[.string (S ++ (⟨#[75, 77, 71, 84, 80, 69, 90, 89, 82, 81]⟩ : ByteArray).extract i (i + 1))] W (RetHum W ((i : Int) + 1))))
    (H2 : Hid (∀ W, Tabs W → Calls Tryd.prog 23 #[.string (⟨#[48]⟩ ++ (⟨#[75, 77, 71, 84, 80, 69, 90, 89, 82, 81]⟩ : ByteArray).extract ((i + 1) % 10) ((i + 1) % 10 + 1))] W (RetHum W 0)))
    (C1 : Hid (∀ W, Tabs W → Calls Tryd.prog 21 #[.int .u16 64, .string (S ++ (⟨#[75, 77, 71, 84, 80, 69, 90, 89, 82, 81]⟩ : ByteArray).extract i (i + 1)), .string (R ++ (⟨#[75, 77, 71, 84, 80, 69, 90, 89, 82, 81]⟩ : ByteArray).extract j (j + 1))] W (RetBelow W (.int .i64 1))))
    (C2 : Hid (∀ W, Tabs W → Calls Tryd.prog 21 #[.int .u16 64, .string (⟨#[45]⟩ ++ (S ++ (⟨#[75, 77, 71, 84, 80, 69, 90, 89, 82, 81]⟩ : ByteArray).extract i (i + 1))), .string (⟨#[45]⟩ ++ (R ++ (⟨#[75, 77, 71, 84, 80, 69, 90, 89, 82, 81]⟩ : ByteArray).extract j (j + 1)))] W (RetBelow W (.int .i64 (-1)))))
    (C3 : Hid (∀ W, Tabs W → Calls Tryd.prog 21 #[.int .u16 64, .string (⟨#[45]⟩ ++ (S ++ (⟨#[75, 77, 71, 84, 80, 69, 90, 89, 82, 81]⟩ : ByteArray).extract i (i + 1))), .string (R ++ (⟨#[75, 77, 71, 84, 80, 69, 90, 89, 82, 81]⟩ : ByteArray).extract j (j + 1))] W (RetBelow W (.int .i64 (-1)))))
    (C4 : Hid (∀ W, Tabs W → Calls Tryd.prog 21 #[.int .u16 64, .string ⟨#[48, 81]⟩, .string (S ++ (⟨#[75, 77, 71, 84, 80, 69, 90, 89, 82, 81]⟩ : ByteArray).extract i (i + 1))] W (RetBelow W (.int .i64 (-1))))) :
    Calls Tryd.prog 8 #[.int .i64 a, .int .i64 b, .int .i64 ((i : Int) + 1), .int .i64 ((j : Int) + 1)] w (RetBelow w (.bool true)) := by
  have HT := Lib.hid T
  clear T
  have s1 : ¬ 9223372036854775807 < S.size + 1 := by omega
  have s2 : ¬ 9223372036854775807 < R.size + 1 := by omega
  have s3 : ¬ 9223372036854775807 < 1 + S.size := by omega
  have s4 : ¬ 9223372036854775807 < 1 + R.size := by omega
  have s5 : ¬ 9223372036854775807 < 1 + (S.size + 1) := by omega
  have s6 : ¬ 9223372036854775807 < 1 + (R.size + 1) := by omega
  obtain ⟨ra1, ra2⟩ := ra
  obtain ⟨rb1, rb2⟩ := rb
  have ri' : (i : Int) ≤ 9 := by omega
  have rj' : (j : Int) ≤ 9 := by omega
  have hn1 : ¬ (i : Int) = j := by omega
  have hn2 : ¬ i = j := by omega
  have hn3 : ¬ i < j := by omega
  go_enter Tryd.func8, Tryd.ntmps8
  go_wp2_with fail
  refine (W1.out _).mono ?_
  rintro e1 w1 ⟨rfl, hb1⟩
  have B1 := Lib.hid hb1
  clear hb1
  go_wp2_with fail
  refine (W2.out _).mono ?_
  rintro e1 w2 ⟨rfl, hb2⟩
  have B2 := Lib.hid (B1.out.trans (hb2.mono B1.out.size))
  clear hb2
  go_wp2_with fail
  refine (H1.out _ (HT.out.below B2.out)).mono ?_
  rintro e1 w3 ⟨bb, pp, qq, zz, rfl, hb3⟩
  have B3 := Lib.hid ((B2.out.trans (hb3.mono B2.out.size)).alloc (Nat.le_trans B2.out.size hb3.size) (Obj.cells #[.bool bb, .string pp, .string qq, .int .i64 zz] 25))
  clear hb3
  go_wp2_with fail
  generalize hx : w3.alloc (Obj.cells #[.bool bb, .string pp, .string qq, .int .i64 zz] 25) = x3 at *
  clear hx
  refine (H2.out _ (HT.out.below B3.out)).mono ?_
  rintro e1 w4 ⟨bb2, pp2, qq2, zz2, rfl, hb4⟩
  have B4 := Lib.hid ((B3.out.trans (hb4.mono B3.out.size)).alloc (Nat.le_trans B3.out.size hb4.size) (Obj.cells #[.bool bb2, .string pp2, .string qq2, .int .i64 zz2] 25))
  clear hb4
  go_wp2_with fail
  generalize hx : w4.alloc (Obj.cells #[.bool bb2, .string pp2, .string qq2, .int .i64 zz2] 25) = x4 at *
  clear hx
  refine (C1.out _ (HT.out.below B4.out)).mono ?_
  rintro e1 v0 ⟨rfl, hbq⟩
  have P0 := Lib.hid (B4.out.trans (hbq.mono B4.out.size))
  clear hbq
  go_wp2_with fail
  refine (C2.out _ (HT.out.below P0.out)).mono ?_
  rintro e1 v1 ⟨rfl, hbq⟩
  have P1 := Lib.hid (P0.out.trans (hbq.mono P0.out.size))
  clear hbq
  go_wp2_with fail
  refine (C3.out _ (HT.out.below P1.out)).mono ?_
  rintro e1 v2 ⟨rfl, hbq⟩
  have P2 := Lib.hid (P1.out.trans (hbq.mono P1.out.size))
  clear hbq
  go_wp2_with fail
  refine (C4.out _ (HT.out.below P2.out)).mono ?_
  rintro e1 v3 ⟨rfl, hbq⟩
  have P3 := Lib.hid (P2.out.trans (hbq.mono P2.out.size))
  clear hbq
  go_wp2_with fail
  go_ret
  exact ⟨rfl, P3.out⟩

end Go.Proofs.YtpbbgmfjdachnaaDoor
