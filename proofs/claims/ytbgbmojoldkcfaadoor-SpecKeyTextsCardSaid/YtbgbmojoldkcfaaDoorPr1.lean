/- PrintKey, the program's: its ways. -/
import Derived.Test.YtbgbmojoldkcfaaDoorPr0
namespace Go.Proofs.YtbgbmojoldkcfaaDoor
open Go.RowKit

set_option maxRecDepth 100000
set_option maxHeartbeats 6400000 in
theorem pr_11 (F C E D m : Nat) (b : Bool) (w : World) (h : Holds F C E D m b) (T : TabP w) (hc : C = 1) (he : E = 0) (hd : D = 0) (hb : b = false) : Calls Tryd.prog 13 #[.agg #[.int .i64 (F : Int), .int .i64 (C : Int), .int .i64 (E : Int), .int .i64 (D : Int), .int .u16 (m : Int), .bool b]] w (RetPk w (keyT F C E D m b) 0) := by
  subst hb
  have hf2 := h.f2
  have hc2 := h.c2
  have he2 := h.e2
  have hd2 := h.d2
  have hm1 := h.m1
  have HK := Lib.hid (show keyT F C E D m false = dgT F ++ (letS m) from by (have i1 : (C : Int) = 1 := by omega); (have i2 : (E : Int) = 0 := by omega); (have i3 : (D : Int) = 0 := by omega); unfold keyT endT; simp [i1, i2, i3, hc, he, hd])
  have HY := Lib.hid (fun w => hol_yes F C E D m false w h)
  have H0 := Lib.hid (KtIn.start w F C E D m false)
  have h3 := T.lt
  have L1 := dg19 (F : Int) (by omega)
  rw [Int.toNat_natCast] at L1
  have L2 := dg19 (C : Int) (by omega)
  rw [Int.toNat_natCast] at L2
  have L3 := dg19 (E : Int) (by omega)
  rw [Int.toNat_natCast] at L3
  have L4 := dg19 (D : Int) (by omega)
  rw [Int.toNat_natCast] at L4
  have L5 := let10 m
  have D1 := Lib.hid (fun w => itoa_ok F (by omega) w)
  have D2 := Lib.hid (fun w => itoa_ok C (by omega) w)
  have D3 := Lib.hid (fun w => itoa_ok E (by omega) w)
  have D4 := Lib.hid (fun w => itoa_ok D (by omega) w)
  have D5 := Lib.hid (fun w => lettersOf_ok m (by omega) w)
  generalize letS m = X5 at *
  generalize dgT F = X1 at *
  generalize dgT C = X2 at *
  generalize dgT E = X3 at *
  generalize dgT D = X4 at *
  have t1 : ((C : Int) != 1) = false := by rw [bne_eq_false_iff_eq]; omega
  have t2 : ((E : Int) != 0) = false := by rw [bne_eq_false_iff_eq]; omega
  have t3 : ((D : Int) != 0) = false := by rw [bne_eq_false_iff_eq]; omega
  clear h hc he hd
  go_enter Tryd.func13, Tryd.ntmps13
  go_wp2_with fail
  refine (HY.out _).mono ?_
  rintro e w1 ⟨rfl, hb⟩
  have H1 := Lib.hid (H0.out.step hb)
  clear hb
  have P0 := Lib.hid (show PrIn w F C E D m false w1.heap.size [] (w1.alloc (.cells #[.pointer none, .slice none 0 0] 70)) from ⟨H1.out.key.alloc _, Lib.fresh_isBuilder 70 5 w1, H1.out.below.alloc H1.out.below.size _, (T.below H1.out.below h3).below ((Below.refl w1.heap.size w1).alloc (Nat.le_refl _) _) (by have := H1.out.below.size; omega), H1.out.key.lt, by simp⟩)
  have k0 := H1.out.key.cell 0 _ rfl
  have kl := H1.out.key.lt
  clear T
  go_wp2_with fail
  generalize hQ : w1.heap.size = Q at *
  generalize hW : w1.alloc (.cells #[.pointer none, .slice none 0 0] 70) = wb at *
  clear hQ hW k0 kl HY H0 H1
  refine (D1.out _ P0.out.tab).mono ?_
  rintro e wq0 ⟨rfl, hb⟩
  have P1 := Lib.hid (P0.out.over hb)
  clear hb
  have k0 := P1.out.key.cell 0 _ rfl
  have k1 := P1.out.key.cell 1 _ rfl
  have k2 := P1.out.key.cell 2 _ rfl
  have k3 := P1.out.key.cell 3 _ rfl
  have k4 := P1.out.key.cell 4 _ rfl
  have k5 := P1.out.key.cell 5 _ rfl
  have W1 := Lib.hid (put_str Q Q ([]) X1 _ P1.out.bld (by first | simp | omega) (by omega) P1.out.hi)
  obtain ⟨T1, hT1⟩ : ∃ T, T = [] ++ X1 := ⟨_, rfl⟩
  have lT1 : T1.length ≤ 20 := by rw [hT1, List.length_append]; first | omega | (simp only [List.length_nil]; omega)
  rw [← hT1] at W1
  have HT1 := Lib.hid hT1
  clear hT1
  go_wp2_with fail
  refine W1.out.mono ?_
  rintro e wp1 ⟨rfl, hbl, hb⟩
  have P2 := Lib.hid (P1.out.put h3 hbl hb)
  clear hbl hb k0 k1 k2 k3 k4 k5 W1
  have k0 := P2.out.key.cell 0 _ rfl
  have k1 := P2.out.key.cell 1 _ rfl
  have k2 := P2.out.key.cell 2 _ rfl
  have k3 := P2.out.key.cell 3 _ rfl
  have k4 := P2.out.key.cell 4 _ rfl
  have k5 := P2.out.key.cell 5 _ rfl
  go_wp2_with fail
  refine (D5.out _ P2.out.tab.bits).mono ?_
  rintro e wq2 ⟨rfl, hb⟩
  have P3 := Lib.hid (P2.out.over hb)
  clear hb
  clear k0 k1 k2 k3 k4 k5
  have k0 := P3.out.key.cell 0 _ rfl
  have k1 := P3.out.key.cell 1 _ rfl
  have k2 := P3.out.key.cell 2 _ rfl
  have k3 := P3.out.key.cell 3 _ rfl
  have k4 := P3.out.key.cell 4 _ rfl
  have k5 := P3.out.key.cell 5 _ rfl
  have W3 := Lib.hid (put_str Q Q (T1) X5 _ P3.out.bld (by first | simp | omega) (by omega) P3.out.hi)
  obtain ⟨T2, hT2⟩ : ∃ T, T = T1 ++ X5 := ⟨_, rfl⟩
  have lT2 : T2.length ≤ 30 := by rw [hT2, List.length_append]; first | omega | (simp only [List.length_nil]; omega)
  rw [← hT2] at W3
  have HT2 := Lib.hid hT2
  clear hT2
  go_wp2_with fail
  refine W3.out.mono ?_
  rintro e wp3 ⟨rfl, hbl, hb⟩
  have P4 := Lib.hid (P3.out.put h3 hbl hb)
  clear hbl hb k0 k1 k2 k3 k4 k5 W3
  have k0 := P4.out.key.cell 0 _ rfl
  have k1 := P4.out.key.cell 1 _ rfl
  have k2 := P4.out.key.cell 2 _ rfl
  have k3 := P4.out.key.cell 3 _ rfl
  have k4 := P4.out.key.cell 4 _ rfl
  have k5 := P4.out.key.cell 5 _ rfl
  have SB := Lib.hid (Tryd.Builder_String_any Q Q T2 _ P4.out.bld P4.out.hi)
  go_wp2_with fail
  refine SB.out.mono ?_
  rintro e wz ⟨rfl, hb⟩
  have HB := Lib.hid (P4.out.below.trans (hb.mono (Nat.le_of_lt P4.out.lo)))
  clear hb
  go_wp2_with fail
  go_ret2
  exact ⟨by show Ending.returned (.tuple #[.string (bsk T2), _]) = _; rw [HK.out, HT2.out, HT1.out]; first | rfl | (simp only [List.nil_append]; done), HB.out⟩
set_option maxHeartbeats 6400000 in
theorem pr_1011 (F C E D m : Nat) (b : Bool) (w : World) (h : Holds F C E D m b) (T : TabP w) (hc : C = 1) (he : ¬ E = 0) (hd : D = 0) (hb : b = true) : Calls Tryd.prog 13 #[.agg #[.int .i64 (F : Int), .int .i64 (C : Int), .int .i64 (E : Int), .int .i64 (D : Int), .int .u16 (m : Int), .bool b]] w (RetPk w (keyT F C E D m b) 0) := by
  subst hb
  have hf2 := h.f2
  have hc2 := h.c2
  have he2 := h.e2
  have hd2 := h.d2
  have hm1 := h.m1
  have HK := Lib.hid (show keyT F C E D m true = dgT F ++ (letS m) ++ (44 :: dgT E) ++ ([98]) from by (have i1 : (C : Int) = 1 := by omega); (have i2 : ¬ (E : Int) = 0 := by omega); (have i3 : (D : Int) = 0 := by omega); unfold keyT endT; simp [i1, i2, i3, hc, he, hd])
  have HY := Lib.hid (fun w => hol_yes F C E D m true w h)
  have H0 := Lib.hid (KtIn.start w F C E D m true)
  have h3 := T.lt
  have L1 := dg19 (F : Int) (by omega)
  rw [Int.toNat_natCast] at L1
  have L2 := dg19 (C : Int) (by omega)
  rw [Int.toNat_natCast] at L2
  have L3 := dg19 (E : Int) (by omega)
  rw [Int.toNat_natCast] at L3
  have L4 := dg19 (D : Int) (by omega)
  rw [Int.toNat_natCast] at L4
  have L5 := let10 m
  have D1 := Lib.hid (fun w => itoa_ok F (by omega) w)
  have D2 := Lib.hid (fun w => itoa_ok C (by omega) w)
  have D3 := Lib.hid (fun w => itoa_ok E (by omega) w)
  have D4 := Lib.hid (fun w => itoa_ok D (by omega) w)
  have D5 := Lib.hid (fun w => lettersOf_ok m (by omega) w)
  generalize letS m = X5 at *
  generalize dgT F = X1 at *
  generalize dgT C = X2 at *
  generalize dgT E = X3 at *
  generalize dgT D = X4 at *
  have t1 : ((C : Int) != 1) = false := by rw [bne_eq_false_iff_eq]; omega
  have t2 : ((E : Int) != 0) = true := by rw [bne_iff_ne]; omega
  have t3 : ((D : Int) != 0) = false := by rw [bne_eq_false_iff_eq]; omega
  have eX3 : ByteArray.mk #[44] ++ bsk X3 = bsk (44 :: X3) := bsk_app [44] X3
  have sX3 : ¬ 9223372036854775807 < 1 + (bsk X3).size := by rw [bsk_size]; omega
  have qX3 : (44 :: X3).length ≤ 20 := by rw [List.length_cons]; omega
  generalize 44 :: X3 = YX3 at *
  clear h hc he hd
  go_enter Tryd.func13, Tryd.ntmps13
  go_wp2_with fail
  refine (HY.out _).mono ?_
  rintro e w1 ⟨rfl, hb⟩
  have H1 := Lib.hid (H0.out.step hb)
  clear hb
  have P0 := Lib.hid (show PrIn w F C E D m true w1.heap.size [] (w1.alloc (.cells #[.pointer none, .slice none 0 0] 70)) from ⟨H1.out.key.alloc _, Lib.fresh_isBuilder 70 5 w1, H1.out.below.alloc H1.out.below.size _, (T.below H1.out.below h3).below ((Below.refl w1.heap.size w1).alloc (Nat.le_refl _) _) (by have := H1.out.below.size; omega), H1.out.key.lt, by simp⟩)
  have k0 := H1.out.key.cell 0 _ rfl
  have kl := H1.out.key.lt
  clear T
  go_wp2_with fail
  generalize hQ : w1.heap.size = Q at *
  generalize hW : w1.alloc (.cells #[.pointer none, .slice none 0 0] 70) = wb at *
  clear hQ hW k0 kl HY H0 H1
  refine (D1.out _ P0.out.tab).mono ?_
  rintro e wq0 ⟨rfl, hb⟩
  have P1 := Lib.hid (P0.out.over hb)
  clear hb
  have k0 := P1.out.key.cell 0 _ rfl
  have k1 := P1.out.key.cell 1 _ rfl
  have k2 := P1.out.key.cell 2 _ rfl
  have k3 := P1.out.key.cell 3 _ rfl
  have k4 := P1.out.key.cell 4 _ rfl
  have k5 := P1.out.key.cell 5 _ rfl
  have W1 := Lib.hid (put_str Q Q ([]) X1 _ P1.out.bld (by first | simp | omega) (by omega) P1.out.hi)
  obtain ⟨T1, hT1⟩ : ∃ T, T = [] ++ X1 := ⟨_, rfl⟩
  have lT1 : T1.length ≤ 20 := by rw [hT1, List.length_append]; first | omega | (simp only [List.length_nil]; omega)
  rw [← hT1] at W1
  have HT1 := Lib.hid hT1
  clear hT1
  go_wp2_with fail
  refine W1.out.mono ?_
  rintro e wp1 ⟨rfl, hbl, hb⟩
  have P2 := Lib.hid (P1.out.put h3 hbl hb)
  clear hbl hb k0 k1 k2 k3 k4 k5 W1
  have k0 := P2.out.key.cell 0 _ rfl
  have k1 := P2.out.key.cell 1 _ rfl
  have k2 := P2.out.key.cell 2 _ rfl
  have k3 := P2.out.key.cell 3 _ rfl
  have k4 := P2.out.key.cell 4 _ rfl
  have k5 := P2.out.key.cell 5 _ rfl
  go_wp2_with fail
  refine (D5.out _ P2.out.tab.bits).mono ?_
  rintro e wq2 ⟨rfl, hb⟩
  have P3 := Lib.hid (P2.out.over hb)
  clear hb
  clear k0 k1 k2 k3 k4 k5
  have k0 := P3.out.key.cell 0 _ rfl
  have k1 := P3.out.key.cell 1 _ rfl
  have k2 := P3.out.key.cell 2 _ rfl
  have k3 := P3.out.key.cell 3 _ rfl
  have k4 := P3.out.key.cell 4 _ rfl
  have k5 := P3.out.key.cell 5 _ rfl
  have W3 := Lib.hid (put_str Q Q (T1) X5 _ P3.out.bld (by first | simp | omega) (by omega) P3.out.hi)
  obtain ⟨T2, hT2⟩ : ∃ T, T = T1 ++ X5 := ⟨_, rfl⟩
  have lT2 : T2.length ≤ 30 := by rw [hT2, List.length_append]; first | omega | (simp only [List.length_nil]; omega)
  rw [← hT2] at W3
  have HT2 := Lib.hid hT2
  clear hT2
  go_wp2_with fail
  refine W3.out.mono ?_
  rintro e wp3 ⟨rfl, hbl, hb⟩
  have P4 := Lib.hid (P3.out.put h3 hbl hb)
  clear hbl hb k0 k1 k2 k3 k4 k5 W3
  have k0 := P4.out.key.cell 0 _ rfl
  have k1 := P4.out.key.cell 1 _ rfl
  have k2 := P4.out.key.cell 2 _ rfl
  have k3 := P4.out.key.cell 3 _ rfl
  have k4 := P4.out.key.cell 4 _ rfl
  have k5 := P4.out.key.cell 5 _ rfl
  go_wp2_with fail
  refine (D3.out _ P4.out.tab).mono ?_
  rintro e wq4 ⟨rfl, hb⟩
  have P5 := Lib.hid (P4.out.over hb)
  clear hb
  clear k0 k1 k2 k3 k4 k5
  have k0 := P5.out.key.cell 0 _ rfl
  have k1 := P5.out.key.cell 1 _ rfl
  have k2 := P5.out.key.cell 2 _ rfl
  have k3 := P5.out.key.cell 3 _ rfl
  have k4 := P5.out.key.cell 4 _ rfl
  have k5 := P5.out.key.cell 5 _ rfl
  have W5 := Lib.hid (put_str Q Q (T2) YX3 _ P5.out.bld (by first | simp | omega) (by omega) P5.out.hi)
  obtain ⟨T3, hT3⟩ : ∃ T, T = T2 ++ YX3 := ⟨_, rfl⟩
  have lT3 : T3.length ≤ 50 := by rw [hT3, List.length_append]; first | omega | (simp only [List.length_nil]; omega)
  rw [← hT3] at W5
  have HT3 := Lib.hid hT3
  clear hT3
  go_wp2_with fail
  refine W5.out.mono ?_
  rintro e wp5 ⟨rfl, hbl, hb⟩
  have P6 := Lib.hid (P5.out.put h3 hbl hb)
  clear hbl hb k0 k1 k2 k3 k4 k5 W5
  have k0 := P6.out.key.cell 0 _ rfl
  have k1 := P6.out.key.cell 1 _ rfl
  have k2 := P6.out.key.cell 2 _ rfl
  have k3 := P6.out.key.cell 3 _ rfl
  have k4 := P6.out.key.cell 4 _ rfl
  have k5 := P6.out.key.cell 5 _ rfl
  have W6 := Lib.hid (show Calls Tryd.prog 31 #[.pointer (some ⟨Q, 0, none⟩), .int .u8 98] _ (RetPut Q Q (T3 ++ [98]) _ .nilIface) from put_byte Q Q T3 98 _ P6.out.bld (by omega) P6.out.hi)
  obtain ⟨T4, hT4⟩ : ∃ T, T = T3 ++ [98] := ⟨_, rfl⟩
  rw [← hT4] at W6
  have HT4 := Lib.hid hT4
  clear hT4
  go_wp2_with fail
  refine W6.out.mono ?_
  rintro e wp6 ⟨rfl, hbl, hb⟩
  have P7 := Lib.hid (P6.out.put h3 hbl hb)
  clear hbl hb k0 k1 k2 k3 k4 k5 W6
  have SB := Lib.hid (Tryd.Builder_String_any Q Q T4 _ P7.out.bld P7.out.hi)
  go_wp2_with fail
  refine SB.out.mono ?_
  rintro e wz ⟨rfl, hb⟩
  have HB := Lib.hid (P7.out.below.trans (hb.mono (Nat.le_of_lt P7.out.lo)))
  clear hb
  go_wp2_with fail
  go_ret2
  exact ⟨by show Ending.returned (.tuple #[.string (bsk T4), _]) = _; rw [HK.out, HT4.out, HT3.out, HT2.out, HT1.out]; first | rfl | (simp only [List.nil_append]; done), HB.out⟩
set_option maxHeartbeats 6400000 in
theorem pr_1010 (F C E D m : Nat) (b : Bool) (w : World) (h : Holds F C E D m b) (T : TabP w) (hc : C = 1) (he : ¬ E = 0) (hd : D = 0) (hb : b = false) : Calls Tryd.prog 13 #[.agg #[.int .i64 (F : Int), .int .i64 (C : Int), .int .i64 (E : Int), .int .i64 (D : Int), .int .u16 (m : Int), .bool b]] w (RetPk w (keyT F C E D m b) 0) := by
  subst hb
  have hf2 := h.f2
  have hc2 := h.c2
  have he2 := h.e2
  have hd2 := h.d2
  have hm1 := h.m1
  have HK := Lib.hid (show keyT F C E D m false = dgT F ++ (letS m) ++ (44 :: dgT E) from by (have i1 : (C : Int) = 1 := by omega); (have i2 : ¬ (E : Int) = 0 := by omega); (have i3 : (D : Int) = 0 := by omega); unfold keyT endT; simp [i1, i2, i3, hc, he, hd])
  have HY := Lib.hid (fun w => hol_yes F C E D m false w h)
  have H0 := Lib.hid (KtIn.start w F C E D m false)
  have h3 := T.lt
  have L1 := dg19 (F : Int) (by omega)
  rw [Int.toNat_natCast] at L1
  have L2 := dg19 (C : Int) (by omega)
  rw [Int.toNat_natCast] at L2
  have L3 := dg19 (E : Int) (by omega)
  rw [Int.toNat_natCast] at L3
  have L4 := dg19 (D : Int) (by omega)
  rw [Int.toNat_natCast] at L4
  have L5 := let10 m
  have D1 := Lib.hid (fun w => itoa_ok F (by omega) w)
  have D2 := Lib.hid (fun w => itoa_ok C (by omega) w)
  have D3 := Lib.hid (fun w => itoa_ok E (by omega) w)
  have D4 := Lib.hid (fun w => itoa_ok D (by omega) w)
  have D5 := Lib.hid (fun w => lettersOf_ok m (by omega) w)
  generalize letS m = X5 at *
  generalize dgT F = X1 at *
  generalize dgT C = X2 at *
  generalize dgT E = X3 at *
  generalize dgT D = X4 at *
  have t1 : ((C : Int) != 1) = false := by rw [bne_eq_false_iff_eq]; omega
  have t2 : ((E : Int) != 0) = true := by rw [bne_iff_ne]; omega
  have t3 : ((D : Int) != 0) = false := by rw [bne_eq_false_iff_eq]; omega
  have eX3 : ByteArray.mk #[44] ++ bsk X3 = bsk (44 :: X3) := bsk_app [44] X3
  have sX3 : ¬ 9223372036854775807 < 1 + (bsk X3).size := by rw [bsk_size]; omega
  have qX3 : (44 :: X3).length ≤ 20 := by rw [List.length_cons]; omega
  generalize 44 :: X3 = YX3 at *
  clear h hc he hd
  go_enter Tryd.func13, Tryd.ntmps13
  go_wp2_with fail
  refine (HY.out _).mono ?_
  rintro e w1 ⟨rfl, hb⟩
  have H1 := Lib.hid (H0.out.step hb)
  clear hb
  have P0 := Lib.hid (show PrIn w F C E D m false w1.heap.size [] (w1.alloc (.cells #[.pointer none, .slice none 0 0] 70)) from ⟨H1.out.key.alloc _, Lib.fresh_isBuilder 70 5 w1, H1.out.below.alloc H1.out.below.size _, (T.below H1.out.below h3).below ((Below.refl w1.heap.size w1).alloc (Nat.le_refl _) _) (by have := H1.out.below.size; omega), H1.out.key.lt, by simp⟩)
  have k0 := H1.out.key.cell 0 _ rfl
  have kl := H1.out.key.lt
  clear T
  go_wp2_with fail
  generalize hQ : w1.heap.size = Q at *
  generalize hW : w1.alloc (.cells #[.pointer none, .slice none 0 0] 70) = wb at *
  clear hQ hW k0 kl HY H0 H1
  refine (D1.out _ P0.out.tab).mono ?_
  rintro e wq0 ⟨rfl, hb⟩
  have P1 := Lib.hid (P0.out.over hb)
  clear hb
  have k0 := P1.out.key.cell 0 _ rfl
  have k1 := P1.out.key.cell 1 _ rfl
  have k2 := P1.out.key.cell 2 _ rfl
  have k3 := P1.out.key.cell 3 _ rfl
  have k4 := P1.out.key.cell 4 _ rfl
  have k5 := P1.out.key.cell 5 _ rfl
  have W1 := Lib.hid (put_str Q Q ([]) X1 _ P1.out.bld (by first | simp | omega) (by omega) P1.out.hi)
  obtain ⟨T1, hT1⟩ : ∃ T, T = [] ++ X1 := ⟨_, rfl⟩
  have lT1 : T1.length ≤ 20 := by rw [hT1, List.length_append]; first | omega | (simp only [List.length_nil]; omega)
  rw [← hT1] at W1
  have HT1 := Lib.hid hT1
  clear hT1
  go_wp2_with fail
  refine W1.out.mono ?_
  rintro e wp1 ⟨rfl, hbl, hb⟩
  have P2 := Lib.hid (P1.out.put h3 hbl hb)
  clear hbl hb k0 k1 k2 k3 k4 k5 W1
  have k0 := P2.out.key.cell 0 _ rfl
  have k1 := P2.out.key.cell 1 _ rfl
  have k2 := P2.out.key.cell 2 _ rfl
  have k3 := P2.out.key.cell 3 _ rfl
  have k4 := P2.out.key.cell 4 _ rfl
  have k5 := P2.out.key.cell 5 _ rfl
  go_wp2_with fail
  refine (D5.out _ P2.out.tab.bits).mono ?_
  rintro e wq2 ⟨rfl, hb⟩
  have P3 := Lib.hid (P2.out.over hb)
  clear hb
  clear k0 k1 k2 k3 k4 k5
  have k0 := P3.out.key.cell 0 _ rfl
  have k1 := P3.out.key.cell 1 _ rfl
  have k2 := P3.out.key.cell 2 _ rfl
  have k3 := P3.out.key.cell 3 _ rfl
  have k4 := P3.out.key.cell 4 _ rfl
  have k5 := P3.out.key.cell 5 _ rfl
  have W3 := Lib.hid (put_str Q Q (T1) X5 _ P3.out.bld (by first | simp | omega) (by omega) P3.out.hi)
  obtain ⟨T2, hT2⟩ : ∃ T, T = T1 ++ X5 := ⟨_, rfl⟩
  have lT2 : T2.length ≤ 30 := by rw [hT2, List.length_append]; first | omega | (simp only [List.length_nil]; omega)
  rw [← hT2] at W3
  have HT2 := Lib.hid hT2
  clear hT2
  go_wp2_with fail
  refine W3.out.mono ?_
  rintro e wp3 ⟨rfl, hbl, hb⟩
  have P4 := Lib.hid (P3.out.put h3 hbl hb)
  clear hbl hb k0 k1 k2 k3 k4 k5 W3
  have k0 := P4.out.key.cell 0 _ rfl
  have k1 := P4.out.key.cell 1 _ rfl
  have k2 := P4.out.key.cell 2 _ rfl
  have k3 := P4.out.key.cell 3 _ rfl
  have k4 := P4.out.key.cell 4 _ rfl
  have k5 := P4.out.key.cell 5 _ rfl
  go_wp2_with fail
  refine (D3.out _ P4.out.tab).mono ?_
  rintro e wq4 ⟨rfl, hb⟩
  have P5 := Lib.hid (P4.out.over hb)
  clear hb
  clear k0 k1 k2 k3 k4 k5
  have k0 := P5.out.key.cell 0 _ rfl
  have k1 := P5.out.key.cell 1 _ rfl
  have k2 := P5.out.key.cell 2 _ rfl
  have k3 := P5.out.key.cell 3 _ rfl
  have k4 := P5.out.key.cell 4 _ rfl
  have k5 := P5.out.key.cell 5 _ rfl
  have W5 := Lib.hid (put_str Q Q (T2) YX3 _ P5.out.bld (by first | simp | omega) (by omega) P5.out.hi)
  obtain ⟨T3, hT3⟩ : ∃ T, T = T2 ++ YX3 := ⟨_, rfl⟩
  have lT3 : T3.length ≤ 50 := by rw [hT3, List.length_append]; first | omega | (simp only [List.length_nil]; omega)
  rw [← hT3] at W5
  have HT3 := Lib.hid hT3
  clear hT3
  go_wp2_with fail
  refine W5.out.mono ?_
  rintro e wp5 ⟨rfl, hbl, hb⟩
  have P6 := Lib.hid (P5.out.put h3 hbl hb)
  clear hbl hb k0 k1 k2 k3 k4 k5 W5
  have k0 := P6.out.key.cell 0 _ rfl
  have k1 := P6.out.key.cell 1 _ rfl
  have k2 := P6.out.key.cell 2 _ rfl
  have k3 := P6.out.key.cell 3 _ rfl
  have k4 := P6.out.key.cell 4 _ rfl
  have k5 := P6.out.key.cell 5 _ rfl
  have SB := Lib.hid (Tryd.Builder_String_any Q Q T3 _ P6.out.bld P6.out.hi)
  go_wp2_with fail
  refine SB.out.mono ?_
  rintro e wz ⟨rfl, hb⟩
  have HB := Lib.hid (P6.out.below.trans (hb.mono (Nat.le_of_lt P6.out.lo)))
  clear hb
  go_wp2_with fail
  go_ret2
  exact ⟨by show Ending.returned (.tuple #[.string (bsk T3), _]) = _; rw [HK.out, HT3.out, HT2.out, HT1.out]; first | rfl | (simp only [List.nil_append]; done), HB.out⟩
set_option maxHeartbeats 6400000 in
theorem pr_1001 (F C E D m : Nat) (b : Bool) (w : World) (h : Holds F C E D m b) (T : TabP w) (hc : C = 1) (he : ¬ E = 0) (hd : ¬ D = 0) (hb : b = true) : Calls Tryd.prog 13 #[.agg #[.int .i64 (F : Int), .int .i64 (C : Int), .int .i64 (E : Int), .int .i64 (D : Int), .int .u16 (m : Int), .bool b]] w (RetPk w (keyT F C E D m b) 0) := by
  subst hb
  have hf2 := h.f2
  have hc2 := h.c2
  have he2 := h.e2
  have hd2 := h.d2
  have hm1 := h.m1
  have HK := Lib.hid (show keyT F C E D m true = dgT F ++ (letS m) ++ (44 :: dgT E) ++ (46 :: dgT D) ++ ([98]) from by (have i1 : (C : Int) = 1 := by omega); (have i2 : ¬ (E : Int) = 0 := by omega); (have i3 : ¬ (D : Int) = 0 := by omega); unfold keyT endT; simp [i1, i2, i3, hc, he, hd])
  have HY := Lib.hid (fun w => hol_yes F C E D m true w h)
  have H0 := Lib.hid (KtIn.start w F C E D m true)
  have h3 := T.lt
  have L1 := dg19 (F : Int) (by omega)
  rw [Int.toNat_natCast] at L1
  have L2 := dg19 (C : Int) (by omega)
  rw [Int.toNat_natCast] at L2
  have L3 := dg19 (E : Int) (by omega)
  rw [Int.toNat_natCast] at L3
  have L4 := dg19 (D : Int) (by omega)
  rw [Int.toNat_natCast] at L4
  have L5 := let10 m
  have D1 := Lib.hid (fun w => itoa_ok F (by omega) w)
  have D2 := Lib.hid (fun w => itoa_ok C (by omega) w)
  have D3 := Lib.hid (fun w => itoa_ok E (by omega) w)
  have D4 := Lib.hid (fun w => itoa_ok D (by omega) w)
  have D5 := Lib.hid (fun w => lettersOf_ok m (by omega) w)
  generalize letS m = X5 at *
  generalize dgT F = X1 at *
  generalize dgT C = X2 at *
  generalize dgT E = X3 at *
  generalize dgT D = X4 at *
  have t1 : ((C : Int) != 1) = false := by rw [bne_eq_false_iff_eq]; omega
  have t2 : ((E : Int) != 0) = true := by rw [bne_iff_ne]; omega
  have t3 : ((D : Int) != 0) = true := by rw [bne_iff_ne]; omega
  have eX3 : ByteArray.mk #[44] ++ bsk X3 = bsk (44 :: X3) := bsk_app [44] X3
  have sX3 : ¬ 9223372036854775807 < 1 + (bsk X3).size := by rw [bsk_size]; omega
  have qX3 : (44 :: X3).length ≤ 20 := by rw [List.length_cons]; omega
  generalize 44 :: X3 = YX3 at *
  have eX4 : ByteArray.mk #[46] ++ bsk X4 = bsk (46 :: X4) := bsk_app [46] X4
  have sX4 : ¬ 9223372036854775807 < 1 + (bsk X4).size := by rw [bsk_size]; omega
  have qX4 : (46 :: X4).length ≤ 20 := by rw [List.length_cons]; omega
  generalize 46 :: X4 = YX4 at *
  clear h hc he hd
  go_enter Tryd.func13, Tryd.ntmps13
  go_wp2_with fail
  refine (HY.out _).mono ?_
  rintro e w1 ⟨rfl, hb⟩
  have H1 := Lib.hid (H0.out.step hb)
  clear hb
  have P0 := Lib.hid (show PrIn w F C E D m true w1.heap.size [] (w1.alloc (.cells #[.pointer none, .slice none 0 0] 70)) from ⟨H1.out.key.alloc _, Lib.fresh_isBuilder 70 5 w1, H1.out.below.alloc H1.out.below.size _, (T.below H1.out.below h3).below ((Below.refl w1.heap.size w1).alloc (Nat.le_refl _) _) (by have := H1.out.below.size; omega), H1.out.key.lt, by simp⟩)
  have k0 := H1.out.key.cell 0 _ rfl
  have kl := H1.out.key.lt
  clear T
  go_wp2_with fail
  generalize hQ : w1.heap.size = Q at *
  generalize hW : w1.alloc (.cells #[.pointer none, .slice none 0 0] 70) = wb at *
  clear hQ hW k0 kl HY H0 H1
  refine (D1.out _ P0.out.tab).mono ?_
  rintro e wq0 ⟨rfl, hb⟩
  have P1 := Lib.hid (P0.out.over hb)
  clear hb
  have k0 := P1.out.key.cell 0 _ rfl
  have k1 := P1.out.key.cell 1 _ rfl
  have k2 := P1.out.key.cell 2 _ rfl
  have k3 := P1.out.key.cell 3 _ rfl
  have k4 := P1.out.key.cell 4 _ rfl
  have k5 := P1.out.key.cell 5 _ rfl
  have W1 := Lib.hid (put_str Q Q ([]) X1 _ P1.out.bld (by first | simp | omega) (by omega) P1.out.hi)
  obtain ⟨T1, hT1⟩ : ∃ T, T = [] ++ X1 := ⟨_, rfl⟩
  have lT1 : T1.length ≤ 20 := by rw [hT1, List.length_append]; first | omega | (simp only [List.length_nil]; omega)
  rw [← hT1] at W1
  have HT1 := Lib.hid hT1
  clear hT1
  go_wp2_with fail
  refine W1.out.mono ?_
  rintro e wp1 ⟨rfl, hbl, hb⟩
  have P2 := Lib.hid (P1.out.put h3 hbl hb)
  clear hbl hb k0 k1 k2 k3 k4 k5 W1
  have k0 := P2.out.key.cell 0 _ rfl
  have k1 := P2.out.key.cell 1 _ rfl
  have k2 := P2.out.key.cell 2 _ rfl
  have k3 := P2.out.key.cell 3 _ rfl
  have k4 := P2.out.key.cell 4 _ rfl
  have k5 := P2.out.key.cell 5 _ rfl
  go_wp2_with fail
  refine (D5.out _ P2.out.tab.bits).mono ?_
  rintro e wq2 ⟨rfl, hb⟩
  have P3 := Lib.hid (P2.out.over hb)
  clear hb
  clear k0 k1 k2 k3 k4 k5
  have k0 := P3.out.key.cell 0 _ rfl
  have k1 := P3.out.key.cell 1 _ rfl
  have k2 := P3.out.key.cell 2 _ rfl
  have k3 := P3.out.key.cell 3 _ rfl
  have k4 := P3.out.key.cell 4 _ rfl
  have k5 := P3.out.key.cell 5 _ rfl
  have W3 := Lib.hid (put_str Q Q (T1) X5 _ P3.out.bld (by first | simp | omega) (by omega) P3.out.hi)
  obtain ⟨T2, hT2⟩ : ∃ T, T = T1 ++ X5 := ⟨_, rfl⟩
  have lT2 : T2.length ≤ 30 := by rw [hT2, List.length_append]; first | omega | (simp only [List.length_nil]; omega)
  rw [← hT2] at W3
  have HT2 := Lib.hid hT2
  clear hT2
  go_wp2_with fail
  refine W3.out.mono ?_
  rintro e wp3 ⟨rfl, hbl, hb⟩
  have P4 := Lib.hid (P3.out.put h3 hbl hb)
  clear hbl hb k0 k1 k2 k3 k4 k5 W3
  have k0 := P4.out.key.cell 0 _ rfl
  have k1 := P4.out.key.cell 1 _ rfl
  have k2 := P4.out.key.cell 2 _ rfl
  have k3 := P4.out.key.cell 3 _ rfl
  have k4 := P4.out.key.cell 4 _ rfl
  have k5 := P4.out.key.cell 5 _ rfl
  go_wp2_with fail
  refine (D3.out _ P4.out.tab).mono ?_
  rintro e wq4 ⟨rfl, hb⟩
  have P5 := Lib.hid (P4.out.over hb)
  clear hb
  clear k0 k1 k2 k3 k4 k5
  have k0 := P5.out.key.cell 0 _ rfl
  have k1 := P5.out.key.cell 1 _ rfl
  have k2 := P5.out.key.cell 2 _ rfl
  have k3 := P5.out.key.cell 3 _ rfl
  have k4 := P5.out.key.cell 4 _ rfl
  have k5 := P5.out.key.cell 5 _ rfl
  have W5 := Lib.hid (put_str Q Q (T2) YX3 _ P5.out.bld (by first | simp | omega) (by omega) P5.out.hi)
  obtain ⟨T3, hT3⟩ : ∃ T, T = T2 ++ YX3 := ⟨_, rfl⟩
  have lT3 : T3.length ≤ 50 := by rw [hT3, List.length_append]; first | omega | (simp only [List.length_nil]; omega)
  rw [← hT3] at W5
  have HT3 := Lib.hid hT3
  clear hT3
  go_wp2_with fail
  refine W5.out.mono ?_
  rintro e wp5 ⟨rfl, hbl, hb⟩
  have P6 := Lib.hid (P5.out.put h3 hbl hb)
  clear hbl hb k0 k1 k2 k3 k4 k5 W5
  have k0 := P6.out.key.cell 0 _ rfl
  have k1 := P6.out.key.cell 1 _ rfl
  have k2 := P6.out.key.cell 2 _ rfl
  have k3 := P6.out.key.cell 3 _ rfl
  have k4 := P6.out.key.cell 4 _ rfl
  have k5 := P6.out.key.cell 5 _ rfl
  go_wp2_with fail
  refine (D4.out _ P6.out.tab).mono ?_
  rintro e wq6 ⟨rfl, hb⟩
  have P7 := Lib.hid (P6.out.over hb)
  clear hb
  clear k0 k1 k2 k3 k4 k5
  have k0 := P7.out.key.cell 0 _ rfl
  have k1 := P7.out.key.cell 1 _ rfl
  have k2 := P7.out.key.cell 2 _ rfl
  have k3 := P7.out.key.cell 3 _ rfl
  have k4 := P7.out.key.cell 4 _ rfl
  have k5 := P7.out.key.cell 5 _ rfl
  have W7 := Lib.hid (put_str Q Q (T3) YX4 _ P7.out.bld (by first | simp | omega) (by omega) P7.out.hi)
  obtain ⟨T4, hT4⟩ : ∃ T, T = T3 ++ YX4 := ⟨_, rfl⟩
  have lT4 : T4.length ≤ 70 := by rw [hT4, List.length_append]; first | omega | (simp only [List.length_nil]; omega)
  rw [← hT4] at W7
  have HT4 := Lib.hid hT4
  clear hT4
  go_wp2_with fail
  refine W7.out.mono ?_
  rintro e wp7 ⟨rfl, hbl, hb⟩
  have P8 := Lib.hid (P7.out.put h3 hbl hb)
  clear hbl hb k0 k1 k2 k3 k4 k5 W7
  have k0 := P8.out.key.cell 0 _ rfl
  have k1 := P8.out.key.cell 1 _ rfl
  have k2 := P8.out.key.cell 2 _ rfl
  have k3 := P8.out.key.cell 3 _ rfl
  have k4 := P8.out.key.cell 4 _ rfl
  have k5 := P8.out.key.cell 5 _ rfl
  have W8 := Lib.hid (show Calls Tryd.prog 31 #[.pointer (some ⟨Q, 0, none⟩), .int .u8 98] _ (RetPut Q Q (T4 ++ [98]) _ .nilIface) from put_byte Q Q T4 98 _ P8.out.bld (by omega) P8.out.hi)
  obtain ⟨T5, hT5⟩ : ∃ T, T = T4 ++ [98] := ⟨_, rfl⟩
  rw [← hT5] at W8
  have HT5 := Lib.hid hT5
  clear hT5
  go_wp2_with fail
  refine W8.out.mono ?_
  rintro e wp8 ⟨rfl, hbl, hb⟩
  have P9 := Lib.hid (P8.out.put h3 hbl hb)
  clear hbl hb k0 k1 k2 k3 k4 k5 W8
  have SB := Lib.hid (Tryd.Builder_String_any Q Q T5 _ P9.out.bld P9.out.hi)
  go_wp2_with fail
  refine SB.out.mono ?_
  rintro e wz ⟨rfl, hb⟩
  have HB := Lib.hid (P9.out.below.trans (hb.mono (Nat.le_of_lt P9.out.lo)))
  clear hb
  go_wp2_with fail
  go_ret2
  exact ⟨by show Ending.returned (.tuple #[.string (bsk T5), _]) = _; rw [HK.out, HT5.out, HT4.out, HT3.out, HT2.out, HT1.out]; first | rfl | (simp only [List.nil_append]; done), HB.out⟩
set_option maxHeartbeats 6400000 in
theorem pr_1000 (F C E D m : Nat) (b : Bool) (w : World) (h : Holds F C E D m b) (T : TabP w) (hc : C = 1) (he : ¬ E = 0) (hd : ¬ D = 0) (hb : b = false) : Calls Tryd.prog 13 #[.agg #[.int .i64 (F : Int), .int .i64 (C : Int), .int .i64 (E : Int), .int .i64 (D : Int), .int .u16 (m : Int), .bool b]] w (RetPk w (keyT F C E D m b) 0) := by
  subst hb
  have hf2 := h.f2
  have hc2 := h.c2
  have he2 := h.e2
  have hd2 := h.d2
  have hm1 := h.m1
  have HK := Lib.hid (show keyT F C E D m false = dgT F ++ (letS m) ++ (44 :: dgT E) ++ (46 :: dgT D) from by (have i1 : (C : Int) = 1 := by omega); (have i2 : ¬ (E : Int) = 0 := by omega); (have i3 : ¬ (D : Int) = 0 := by omega); unfold keyT endT; simp [i1, i2, i3, hc, he, hd])
  have HY := Lib.hid (fun w => hol_yes F C E D m false w h)
  have H0 := Lib.hid (KtIn.start w F C E D m false)
  have h3 := T.lt
  have L1 := dg19 (F : Int) (by omega)
  rw [Int.toNat_natCast] at L1
  have L2 := dg19 (C : Int) (by omega)
  rw [Int.toNat_natCast] at L2
  have L3 := dg19 (E : Int) (by omega)
  rw [Int.toNat_natCast] at L3
  have L4 := dg19 (D : Int) (by omega)
  rw [Int.toNat_natCast] at L4
  have L5 := let10 m
  have D1 := Lib.hid (fun w => itoa_ok F (by omega) w)
  have D2 := Lib.hid (fun w => itoa_ok C (by omega) w)
  have D3 := Lib.hid (fun w => itoa_ok E (by omega) w)
  have D4 := Lib.hid (fun w => itoa_ok D (by omega) w)
  have D5 := Lib.hid (fun w => lettersOf_ok m (by omega) w)
  generalize letS m = X5 at *
  generalize dgT F = X1 at *
  generalize dgT C = X2 at *
  generalize dgT E = X3 at *
  generalize dgT D = X4 at *
  have t1 : ((C : Int) != 1) = false := by rw [bne_eq_false_iff_eq]; omega
  have t2 : ((E : Int) != 0) = true := by rw [bne_iff_ne]; omega
  have t3 : ((D : Int) != 0) = true := by rw [bne_iff_ne]; omega
  have eX3 : ByteArray.mk #[44] ++ bsk X3 = bsk (44 :: X3) := bsk_app [44] X3
  have sX3 : ¬ 9223372036854775807 < 1 + (bsk X3).size := by rw [bsk_size]; omega
  have qX3 : (44 :: X3).length ≤ 20 := by rw [List.length_cons]; omega
  generalize 44 :: X3 = YX3 at *
  have eX4 : ByteArray.mk #[46] ++ bsk X4 = bsk (46 :: X4) := bsk_app [46] X4
  have sX4 : ¬ 9223372036854775807 < 1 + (bsk X4).size := by rw [bsk_size]; omega
  have qX4 : (46 :: X4).length ≤ 20 := by rw [List.length_cons]; omega
  generalize 46 :: X4 = YX4 at *
  clear h hc he hd
  go_enter Tryd.func13, Tryd.ntmps13
  go_wp2_with fail
  refine (HY.out _).mono ?_
  rintro e w1 ⟨rfl, hb⟩
  have H1 := Lib.hid (H0.out.step hb)
  clear hb
  have P0 := Lib.hid (show PrIn w F C E D m false w1.heap.size [] (w1.alloc (.cells #[.pointer none, .slice none 0 0] 70)) from ⟨H1.out.key.alloc _, Lib.fresh_isBuilder 70 5 w1, H1.out.below.alloc H1.out.below.size _, (T.below H1.out.below h3).below ((Below.refl w1.heap.size w1).alloc (Nat.le_refl _) _) (by have := H1.out.below.size; omega), H1.out.key.lt, by simp⟩)
  have k0 := H1.out.key.cell 0 _ rfl
  have kl := H1.out.key.lt
  clear T
  go_wp2_with fail
  generalize hQ : w1.heap.size = Q at *
  generalize hW : w1.alloc (.cells #[.pointer none, .slice none 0 0] 70) = wb at *
  clear hQ hW k0 kl HY H0 H1
  refine (D1.out _ P0.out.tab).mono ?_
  rintro e wq0 ⟨rfl, hb⟩
  have P1 := Lib.hid (P0.out.over hb)
  clear hb
  have k0 := P1.out.key.cell 0 _ rfl
  have k1 := P1.out.key.cell 1 _ rfl
  have k2 := P1.out.key.cell 2 _ rfl
  have k3 := P1.out.key.cell 3 _ rfl
  have k4 := P1.out.key.cell 4 _ rfl
  have k5 := P1.out.key.cell 5 _ rfl
  have W1 := Lib.hid (put_str Q Q ([]) X1 _ P1.out.bld (by first | simp | omega) (by omega) P1.out.hi)
  obtain ⟨T1, hT1⟩ : ∃ T, T = [] ++ X1 := ⟨_, rfl⟩
  have lT1 : T1.length ≤ 20 := by rw [hT1, List.length_append]; first | omega | (simp only [List.length_nil]; omega)
  rw [← hT1] at W1
  have HT1 := Lib.hid hT1
  clear hT1
  go_wp2_with fail
  refine W1.out.mono ?_
  rintro e wp1 ⟨rfl, hbl, hb⟩
  have P2 := Lib.hid (P1.out.put h3 hbl hb)
  clear hbl hb k0 k1 k2 k3 k4 k5 W1
  have k0 := P2.out.key.cell 0 _ rfl
  have k1 := P2.out.key.cell 1 _ rfl
  have k2 := P2.out.key.cell 2 _ rfl
  have k3 := P2.out.key.cell 3 _ rfl
  have k4 := P2.out.key.cell 4 _ rfl
  have k5 := P2.out.key.cell 5 _ rfl
  go_wp2_with fail
  refine (D5.out _ P2.out.tab.bits).mono ?_
  rintro e wq2 ⟨rfl, hb⟩
  have P3 := Lib.hid (P2.out.over hb)
  clear hb
  clear k0 k1 k2 k3 k4 k5
  have k0 := P3.out.key.cell 0 _ rfl
  have k1 := P3.out.key.cell 1 _ rfl
  have k2 := P3.out.key.cell 2 _ rfl
  have k3 := P3.out.key.cell 3 _ rfl
  have k4 := P3.out.key.cell 4 _ rfl
  have k5 := P3.out.key.cell 5 _ rfl
  have W3 := Lib.hid (put_str Q Q (T1) X5 _ P3.out.bld (by first | simp | omega) (by omega) P3.out.hi)
  obtain ⟨T2, hT2⟩ : ∃ T, T = T1 ++ X5 := ⟨_, rfl⟩
  have lT2 : T2.length ≤ 30 := by rw [hT2, List.length_append]; first | omega | (simp only [List.length_nil]; omega)
  rw [← hT2] at W3
  have HT2 := Lib.hid hT2
  clear hT2
  go_wp2_with fail
  refine W3.out.mono ?_
  rintro e wp3 ⟨rfl, hbl, hb⟩
  have P4 := Lib.hid (P3.out.put h3 hbl hb)
  clear hbl hb k0 k1 k2 k3 k4 k5 W3
  have k0 := P4.out.key.cell 0 _ rfl
  have k1 := P4.out.key.cell 1 _ rfl
  have k2 := P4.out.key.cell 2 _ rfl
  have k3 := P4.out.key.cell 3 _ rfl
  have k4 := P4.out.key.cell 4 _ rfl
  have k5 := P4.out.key.cell 5 _ rfl
  go_wp2_with fail
  refine (D3.out _ P4.out.tab).mono ?_
  rintro e wq4 ⟨rfl, hb⟩
  have P5 := Lib.hid (P4.out.over hb)
  clear hb
  clear k0 k1 k2 k3 k4 k5
  have k0 := P5.out.key.cell 0 _ rfl
  have k1 := P5.out.key.cell 1 _ rfl
  have k2 := P5.out.key.cell 2 _ rfl
  have k3 := P5.out.key.cell 3 _ rfl
  have k4 := P5.out.key.cell 4 _ rfl
  have k5 := P5.out.key.cell 5 _ rfl
  have W5 := Lib.hid (put_str Q Q (T2) YX3 _ P5.out.bld (by first | simp | omega) (by omega) P5.out.hi)
  obtain ⟨T3, hT3⟩ : ∃ T, T = T2 ++ YX3 := ⟨_, rfl⟩
  have lT3 : T3.length ≤ 50 := by rw [hT3, List.length_append]; first | omega | (simp only [List.length_nil]; omega)
  rw [← hT3] at W5
  have HT3 := Lib.hid hT3
  clear hT3
  go_wp2_with fail
  refine W5.out.mono ?_
  rintro e wp5 ⟨rfl, hbl, hb⟩
  have P6 := Lib.hid (P5.out.put h3 hbl hb)
  clear hbl hb k0 k1 k2 k3 k4 k5 W5
  have k0 := P6.out.key.cell 0 _ rfl
  have k1 := P6.out.key.cell 1 _ rfl
  have k2 := P6.out.key.cell 2 _ rfl
  have k3 := P6.out.key.cell 3 _ rfl
  have k4 := P6.out.key.cell 4 _ rfl
  have k5 := P6.out.key.cell 5 _ rfl
  go_wp2_with fail
  refine (D4.out _ P6.out.tab).mono ?_
  rintro e wq6 ⟨rfl, hb⟩
  have P7 := Lib.hid (P6.out.over hb)
  clear hb
  clear k0 k1 k2 k3 k4 k5
  have k0 := P7.out.key.cell 0 _ rfl
  have k1 := P7.out.key.cell 1 _ rfl
  have k2 := P7.out.key.cell 2 _ rfl
  have k3 := P7.out.key.cell 3 _ rfl
  have k4 := P7.out.key.cell 4 _ rfl
  have k5 := P7.out.key.cell 5 _ rfl
  have W7 := Lib.hid (put_str Q Q (T3) YX4 _ P7.out.bld (by first | simp | omega) (by omega) P7.out.hi)
  obtain ⟨T4, hT4⟩ : ∃ T, T = T3 ++ YX4 := ⟨_, rfl⟩
  have lT4 : T4.length ≤ 70 := by rw [hT4, List.length_append]; first | omega | (simp only [List.length_nil]; omega)
  rw [← hT4] at W7
  have HT4 := Lib.hid hT4
  clear hT4
  go_wp2_with fail
  refine W7.out.mono ?_
  rintro e wp7 ⟨rfl, hbl, hb⟩
  have P8 := Lib.hid (P7.out.put h3 hbl hb)
  clear hbl hb k0 k1 k2 k3 k4 k5 W7
  have k0 := P8.out.key.cell 0 _ rfl
  have k1 := P8.out.key.cell 1 _ rfl
  have k2 := P8.out.key.cell 2 _ rfl
  have k3 := P8.out.key.cell 3 _ rfl
  have k4 := P8.out.key.cell 4 _ rfl
  have k5 := P8.out.key.cell 5 _ rfl
  have SB := Lib.hid (Tryd.Builder_String_any Q Q T4 _ P8.out.bld P8.out.hi)
  go_wp2_with fail
  refine SB.out.mono ?_
  rintro e wz ⟨rfl, hb⟩
  have HB := Lib.hid (P8.out.below.trans (hb.mono (Nat.le_of_lt P8.out.lo)))
  clear hb
  go_wp2_with fail
  go_ret2
  exact ⟨by show Ending.returned (.tuple #[.string (bsk T4), _]) = _; rw [HK.out, HT4.out, HT3.out, HT2.out, HT1.out]; first | rfl | (simp only [List.nil_append]; done), HB.out⟩
set_option maxHeartbeats 6400000 in
theorem pr_01 (F C E D m : Nat) (b : Bool) (w : World) (h : Holds F C E D m b) (T : TabP w) (hc : ¬ C = 1) (he : E = 0) (hd : D = 0) (hb : b = false) : Calls Tryd.prog 13 #[.agg #[.int .i64 (F : Int), .int .i64 (C : Int), .int .i64 (E : Int), .int .i64 (D : Int), .int .u16 (m : Int), .bool b]] w (RetPk w (keyT F C E D m b) 0) := by
  subst hb
  have hf2 := h.f2
  have hc2 := h.c2
  have he2 := h.e2
  have hd2 := h.d2
  have hm1 := h.m1
  have HK := Lib.hid (show keyT F C E D m false = dgT F ++ (46 :: dgT C) ++ (letS m) from by (have i1 : ¬ (C : Int) = 1 := by omega); (have i2 : (E : Int) = 0 := by omega); (have i3 : (D : Int) = 0 := by omega); unfold keyT endT; simp [i1, i2, i3, hc, he, hd])
  have HY := Lib.hid (fun w => hol_yes F C E D m false w h)
  have H0 := Lib.hid (KtIn.start w F C E D m false)
  have h3 := T.lt
  have L1 := dg19 (F : Int) (by omega)
  rw [Int.toNat_natCast] at L1
  have L2 := dg19 (C : Int) (by omega)
  rw [Int.toNat_natCast] at L2
  have L3 := dg19 (E : Int) (by omega)
  rw [Int.toNat_natCast] at L3
  have L4 := dg19 (D : Int) (by omega)
  rw [Int.toNat_natCast] at L4
  have L5 := let10 m
  have D1 := Lib.hid (fun w => itoa_ok F (by omega) w)
  have D2 := Lib.hid (fun w => itoa_ok C (by omega) w)
  have D3 := Lib.hid (fun w => itoa_ok E (by omega) w)
  have D4 := Lib.hid (fun w => itoa_ok D (by omega) w)
  have D5 := Lib.hid (fun w => lettersOf_ok m (by omega) w)
  generalize letS m = X5 at *
  generalize dgT F = X1 at *
  generalize dgT C = X2 at *
  generalize dgT E = X3 at *
  generalize dgT D = X4 at *
  have t1 : ((C : Int) != 1) = true := by rw [bne_iff_ne]; omega
  have t2 : ((E : Int) != 0) = false := by rw [bne_eq_false_iff_eq]; omega
  have t3 : ((D : Int) != 0) = false := by rw [bne_eq_false_iff_eq]; omega
  have eX2 : ByteArray.mk #[46] ++ bsk X2 = bsk (46 :: X2) := bsk_app [46] X2
  have sX2 : ¬ 9223372036854775807 < 1 + (bsk X2).size := by rw [bsk_size]; omega
  have qX2 : (46 :: X2).length ≤ 20 := by rw [List.length_cons]; omega
  generalize 46 :: X2 = YX2 at *
  clear h hc he hd
  go_enter Tryd.func13, Tryd.ntmps13
  go_wp2_with fail
  refine (HY.out _).mono ?_
  rintro e w1 ⟨rfl, hb⟩
  have H1 := Lib.hid (H0.out.step hb)
  clear hb
  have P0 := Lib.hid (show PrIn w F C E D m false w1.heap.size [] (w1.alloc (.cells #[.pointer none, .slice none 0 0] 70)) from ⟨H1.out.key.alloc _, Lib.fresh_isBuilder 70 5 w1, H1.out.below.alloc H1.out.below.size _, (T.below H1.out.below h3).below ((Below.refl w1.heap.size w1).alloc (Nat.le_refl _) _) (by have := H1.out.below.size; omega), H1.out.key.lt, by simp⟩)
  have k0 := H1.out.key.cell 0 _ rfl
  have kl := H1.out.key.lt
  clear T
  go_wp2_with fail
  generalize hQ : w1.heap.size = Q at *
  generalize hW : w1.alloc (.cells #[.pointer none, .slice none 0 0] 70) = wb at *
  clear hQ hW k0 kl HY H0 H1
  refine (D1.out _ P0.out.tab).mono ?_
  rintro e wq0 ⟨rfl, hb⟩
  have P1 := Lib.hid (P0.out.over hb)
  clear hb
  have k0 := P1.out.key.cell 0 _ rfl
  have k1 := P1.out.key.cell 1 _ rfl
  have k2 := P1.out.key.cell 2 _ rfl
  have k3 := P1.out.key.cell 3 _ rfl
  have k4 := P1.out.key.cell 4 _ rfl
  have k5 := P1.out.key.cell 5 _ rfl
  have W1 := Lib.hid (put_str Q Q ([]) X1 _ P1.out.bld (by first | simp | omega) (by omega) P1.out.hi)
  obtain ⟨T1, hT1⟩ : ∃ T, T = [] ++ X1 := ⟨_, rfl⟩
  have lT1 : T1.length ≤ 20 := by rw [hT1, List.length_append]; first | omega | (simp only [List.length_nil]; omega)
  rw [← hT1] at W1
  have HT1 := Lib.hid hT1
  clear hT1
  go_wp2_with fail
  refine W1.out.mono ?_
  rintro e wp1 ⟨rfl, hbl, hb⟩
  have P2 := Lib.hid (P1.out.put h3 hbl hb)
  clear hbl hb k0 k1 k2 k3 k4 k5 W1
  have k0 := P2.out.key.cell 0 _ rfl
  have k1 := P2.out.key.cell 1 _ rfl
  have k2 := P2.out.key.cell 2 _ rfl
  have k3 := P2.out.key.cell 3 _ rfl
  have k4 := P2.out.key.cell 4 _ rfl
  have k5 := P2.out.key.cell 5 _ rfl
  go_wp2_with fail
  refine (D2.out _ P2.out.tab).mono ?_
  rintro e wq2 ⟨rfl, hb⟩
  have P3 := Lib.hid (P2.out.over hb)
  clear hb
  clear k0 k1 k2 k3 k4 k5
  have k0 := P3.out.key.cell 0 _ rfl
  have k1 := P3.out.key.cell 1 _ rfl
  have k2 := P3.out.key.cell 2 _ rfl
  have k3 := P3.out.key.cell 3 _ rfl
  have k4 := P3.out.key.cell 4 _ rfl
  have k5 := P3.out.key.cell 5 _ rfl
  have W3 := Lib.hid (put_str Q Q (T1) YX2 _ P3.out.bld (by first | simp | omega) (by omega) P3.out.hi)
  obtain ⟨T2, hT2⟩ : ∃ T, T = T1 ++ YX2 := ⟨_, rfl⟩
  have lT2 : T2.length ≤ 40 := by rw [hT2, List.length_append]; first | omega | (simp only [List.length_nil]; omega)
  rw [← hT2] at W3
  have HT2 := Lib.hid hT2
  clear hT2
  go_wp2_with fail
  refine W3.out.mono ?_
  rintro e wp3 ⟨rfl, hbl, hb⟩
  have P4 := Lib.hid (P3.out.put h3 hbl hb)
  clear hbl hb k0 k1 k2 k3 k4 k5 W3
  have k0 := P4.out.key.cell 0 _ rfl
  have k1 := P4.out.key.cell 1 _ rfl
  have k2 := P4.out.key.cell 2 _ rfl
  have k3 := P4.out.key.cell 3 _ rfl
  have k4 := P4.out.key.cell 4 _ rfl
  have k5 := P4.out.key.cell 5 _ rfl
  go_wp2_with fail
  refine (D5.out _ P4.out.tab.bits).mono ?_
  rintro e wq4 ⟨rfl, hb⟩
  have P5 := Lib.hid (P4.out.over hb)
  clear hb
  clear k0 k1 k2 k3 k4 k5
  have k0 := P5.out.key.cell 0 _ rfl
  have k1 := P5.out.key.cell 1 _ rfl
  have k2 := P5.out.key.cell 2 _ rfl
  have k3 := P5.out.key.cell 3 _ rfl
  have k4 := P5.out.key.cell 4 _ rfl
  have k5 := P5.out.key.cell 5 _ rfl
  have W5 := Lib.hid (put_str Q Q (T2) X5 _ P5.out.bld (by first | simp | omega) (by omega) P5.out.hi)
  obtain ⟨T3, hT3⟩ : ∃ T, T = T2 ++ X5 := ⟨_, rfl⟩
  have lT3 : T3.length ≤ 50 := by rw [hT3, List.length_append]; first | omega | (simp only [List.length_nil]; omega)
  rw [← hT3] at W5
  have HT3 := Lib.hid hT3
  clear hT3
  go_wp2_with fail
  refine W5.out.mono ?_
  rintro e wp5 ⟨rfl, hbl, hb⟩
  have P6 := Lib.hid (P5.out.put h3 hbl hb)
  clear hbl hb k0 k1 k2 k3 k4 k5 W5
  have k0 := P6.out.key.cell 0 _ rfl
  have k1 := P6.out.key.cell 1 _ rfl
  have k2 := P6.out.key.cell 2 _ rfl
  have k3 := P6.out.key.cell 3 _ rfl
  have k4 := P6.out.key.cell 4 _ rfl
  have k5 := P6.out.key.cell 5 _ rfl
  have SB := Lib.hid (Tryd.Builder_String_any Q Q T3 _ P6.out.bld P6.out.hi)
  go_wp2_with fail
  refine SB.out.mono ?_
  rintro e wz ⟨rfl, hb⟩
  have HB := Lib.hid (P6.out.below.trans (hb.mono (Nat.le_of_lt P6.out.lo)))
  clear hb
  go_wp2_with fail
  go_ret2
  exact ⟨by show Ending.returned (.tuple #[.string (bsk T3), _]) = _; rw [HK.out, HT3.out, HT2.out, HT1.out]; first | rfl | (simp only [List.nil_append]; done), HB.out⟩
set_option maxHeartbeats 6400000 in
theorem pr_0011 (F C E D m : Nat) (b : Bool) (w : World) (h : Holds F C E D m b) (T : TabP w) (hc : ¬ C = 1) (he : ¬ E = 0) (hd : D = 0) (hb : b = true) : Calls Tryd.prog 13 #[.agg #[.int .i64 (F : Int), .int .i64 (C : Int), .int .i64 (E : Int), .int .i64 (D : Int), .int .u16 (m : Int), .bool b]] w (RetPk w (keyT F C E D m b) 0) := by
  subst hb
  have hf2 := h.f2
  have hc2 := h.c2
  have he2 := h.e2
  have hd2 := h.d2
  have hm1 := h.m1
  have HK := Lib.hid (show keyT F C E D m true = dgT F ++ (46 :: dgT C) ++ (letS m) ++ (44 :: dgT E) ++ ([98]) from by (have i1 : ¬ (C : Int) = 1 := by omega); (have i2 : ¬ (E : Int) = 0 := by omega); (have i3 : (D : Int) = 0 := by omega); unfold keyT endT; simp [i1, i2, i3, hc, he, hd])
  have HY := Lib.hid (fun w => hol_yes F C E D m true w h)
  have H0 := Lib.hid (KtIn.start w F C E D m true)
  have h3 := T.lt
  have L1 := dg19 (F : Int) (by omega)
  rw [Int.toNat_natCast] at L1
  have L2 := dg19 (C : Int) (by omega)
  rw [Int.toNat_natCast] at L2
  have L3 := dg19 (E : Int) (by omega)
  rw [Int.toNat_natCast] at L3
  have L4 := dg19 (D : Int) (by omega)
  rw [Int.toNat_natCast] at L4
  have L5 := let10 m
  have D1 := Lib.hid (fun w => itoa_ok F (by omega) w)
  have D2 := Lib.hid (fun w => itoa_ok C (by omega) w)
  have D3 := Lib.hid (fun w => itoa_ok E (by omega) w)
  have D4 := Lib.hid (fun w => itoa_ok D (by omega) w)
  have D5 := Lib.hid (fun w => lettersOf_ok m (by omega) w)
  generalize letS m = X5 at *
  generalize dgT F = X1 at *
  generalize dgT C = X2 at *
  generalize dgT E = X3 at *
  generalize dgT D = X4 at *
  have t1 : ((C : Int) != 1) = true := by rw [bne_iff_ne]; omega
  have t2 : ((E : Int) != 0) = true := by rw [bne_iff_ne]; omega
  have t3 : ((D : Int) != 0) = false := by rw [bne_eq_false_iff_eq]; omega
  have eX2 : ByteArray.mk #[46] ++ bsk X2 = bsk (46 :: X2) := bsk_app [46] X2
  have sX2 : ¬ 9223372036854775807 < 1 + (bsk X2).size := by rw [bsk_size]; omega
  have qX2 : (46 :: X2).length ≤ 20 := by rw [List.length_cons]; omega
  generalize 46 :: X2 = YX2 at *
  have eX3 : ByteArray.mk #[44] ++ bsk X3 = bsk (44 :: X3) := bsk_app [44] X3
  have sX3 : ¬ 9223372036854775807 < 1 + (bsk X3).size := by rw [bsk_size]; omega
  have qX3 : (44 :: X3).length ≤ 20 := by rw [List.length_cons]; omega
  generalize 44 :: X3 = YX3 at *
  clear h hc he hd
  go_enter Tryd.func13, Tryd.ntmps13
  go_wp2_with fail
  refine (HY.out _).mono ?_
  rintro e w1 ⟨rfl, hb⟩
  have H1 := Lib.hid (H0.out.step hb)
  clear hb
  have P0 := Lib.hid (show PrIn w F C E D m true w1.heap.size [] (w1.alloc (.cells #[.pointer none, .slice none 0 0] 70)) from ⟨H1.out.key.alloc _, Lib.fresh_isBuilder 70 5 w1, H1.out.below.alloc H1.out.below.size _, (T.below H1.out.below h3).below ((Below.refl w1.heap.size w1).alloc (Nat.le_refl _) _) (by have := H1.out.below.size; omega), H1.out.key.lt, by simp⟩)
  have k0 := H1.out.key.cell 0 _ rfl
  have kl := H1.out.key.lt
  clear T
  go_wp2_with fail
  generalize hQ : w1.heap.size = Q at *
  generalize hW : w1.alloc (.cells #[.pointer none, .slice none 0 0] 70) = wb at *
  clear hQ hW k0 kl HY H0 H1
  refine (D1.out _ P0.out.tab).mono ?_
  rintro e wq0 ⟨rfl, hb⟩
  have P1 := Lib.hid (P0.out.over hb)
  clear hb
  have k0 := P1.out.key.cell 0 _ rfl
  have k1 := P1.out.key.cell 1 _ rfl
  have k2 := P1.out.key.cell 2 _ rfl
  have k3 := P1.out.key.cell 3 _ rfl
  have k4 := P1.out.key.cell 4 _ rfl
  have k5 := P1.out.key.cell 5 _ rfl
  have W1 := Lib.hid (put_str Q Q ([]) X1 _ P1.out.bld (by first | simp | omega) (by omega) P1.out.hi)
  obtain ⟨T1, hT1⟩ : ∃ T, T = [] ++ X1 := ⟨_, rfl⟩
  have lT1 : T1.length ≤ 20 := by rw [hT1, List.length_append]; first | omega | (simp only [List.length_nil]; omega)
  rw [← hT1] at W1
  have HT1 := Lib.hid hT1
  clear hT1
  go_wp2_with fail
  refine W1.out.mono ?_
  rintro e wp1 ⟨rfl, hbl, hb⟩
  have P2 := Lib.hid (P1.out.put h3 hbl hb)
  clear hbl hb k0 k1 k2 k3 k4 k5 W1
  have k0 := P2.out.key.cell 0 _ rfl
  have k1 := P2.out.key.cell 1 _ rfl
  have k2 := P2.out.key.cell 2 _ rfl
  have k3 := P2.out.key.cell 3 _ rfl
  have k4 := P2.out.key.cell 4 _ rfl
  have k5 := P2.out.key.cell 5 _ rfl
  go_wp2_with fail
  refine (D2.out _ P2.out.tab).mono ?_
  rintro e wq2 ⟨rfl, hb⟩
  have P3 := Lib.hid (P2.out.over hb)
  clear hb
  clear k0 k1 k2 k3 k4 k5
  have k0 := P3.out.key.cell 0 _ rfl
  have k1 := P3.out.key.cell 1 _ rfl
  have k2 := P3.out.key.cell 2 _ rfl
  have k3 := P3.out.key.cell 3 _ rfl
  have k4 := P3.out.key.cell 4 _ rfl
  have k5 := P3.out.key.cell 5 _ rfl
  have W3 := Lib.hid (put_str Q Q (T1) YX2 _ P3.out.bld (by first | simp | omega) (by omega) P3.out.hi)
  obtain ⟨T2, hT2⟩ : ∃ T, T = T1 ++ YX2 := ⟨_, rfl⟩
  have lT2 : T2.length ≤ 40 := by rw [hT2, List.length_append]; first | omega | (simp only [List.length_nil]; omega)
  rw [← hT2] at W3
  have HT2 := Lib.hid hT2
  clear hT2
  go_wp2_with fail
  refine W3.out.mono ?_
  rintro e wp3 ⟨rfl, hbl, hb⟩
  have P4 := Lib.hid (P3.out.put h3 hbl hb)
  clear hbl hb k0 k1 k2 k3 k4 k5 W3
  have k0 := P4.out.key.cell 0 _ rfl
  have k1 := P4.out.key.cell 1 _ rfl
  have k2 := P4.out.key.cell 2 _ rfl
  have k3 := P4.out.key.cell 3 _ rfl
  have k4 := P4.out.key.cell 4 _ rfl
  have k5 := P4.out.key.cell 5 _ rfl
  go_wp2_with fail
  refine (D5.out _ P4.out.tab.bits).mono ?_
  rintro e wq4 ⟨rfl, hb⟩
  have P5 := Lib.hid (P4.out.over hb)
  clear hb
  clear k0 k1 k2 k3 k4 k5
  have k0 := P5.out.key.cell 0 _ rfl
  have k1 := P5.out.key.cell 1 _ rfl
  have k2 := P5.out.key.cell 2 _ rfl
  have k3 := P5.out.key.cell 3 _ rfl
  have k4 := P5.out.key.cell 4 _ rfl
  have k5 := P5.out.key.cell 5 _ rfl
  have W5 := Lib.hid (put_str Q Q (T2) X5 _ P5.out.bld (by first | simp | omega) (by omega) P5.out.hi)
  obtain ⟨T3, hT3⟩ : ∃ T, T = T2 ++ X5 := ⟨_, rfl⟩
  have lT3 : T3.length ≤ 50 := by rw [hT3, List.length_append]; first | omega | (simp only [List.length_nil]; omega)
  rw [← hT3] at W5
  have HT3 := Lib.hid hT3
  clear hT3
  go_wp2_with fail
  refine W5.out.mono ?_
  rintro e wp5 ⟨rfl, hbl, hb⟩
  have P6 := Lib.hid (P5.out.put h3 hbl hb)
  clear hbl hb k0 k1 k2 k3 k4 k5 W5
  have k0 := P6.out.key.cell 0 _ rfl
  have k1 := P6.out.key.cell 1 _ rfl
  have k2 := P6.out.key.cell 2 _ rfl
  have k3 := P6.out.key.cell 3 _ rfl
  have k4 := P6.out.key.cell 4 _ rfl
  have k5 := P6.out.key.cell 5 _ rfl
  go_wp2_with fail
  refine (D3.out _ P6.out.tab).mono ?_
  rintro e wq6 ⟨rfl, hb⟩
  have P7 := Lib.hid (P6.out.over hb)
  clear hb
  clear k0 k1 k2 k3 k4 k5
  have k0 := P7.out.key.cell 0 _ rfl
  have k1 := P7.out.key.cell 1 _ rfl
  have k2 := P7.out.key.cell 2 _ rfl
  have k3 := P7.out.key.cell 3 _ rfl
  have k4 := P7.out.key.cell 4 _ rfl
  have k5 := P7.out.key.cell 5 _ rfl
  have W7 := Lib.hid (put_str Q Q (T3) YX3 _ P7.out.bld (by first | simp | omega) (by omega) P7.out.hi)
  obtain ⟨T4, hT4⟩ : ∃ T, T = T3 ++ YX3 := ⟨_, rfl⟩
  have lT4 : T4.length ≤ 70 := by rw [hT4, List.length_append]; first | omega | (simp only [List.length_nil]; omega)
  rw [← hT4] at W7
  have HT4 := Lib.hid hT4
  clear hT4
  go_wp2_with fail
  refine W7.out.mono ?_
  rintro e wp7 ⟨rfl, hbl, hb⟩
  have P8 := Lib.hid (P7.out.put h3 hbl hb)
  clear hbl hb k0 k1 k2 k3 k4 k5 W7
  have k0 := P8.out.key.cell 0 _ rfl
  have k1 := P8.out.key.cell 1 _ rfl
  have k2 := P8.out.key.cell 2 _ rfl
  have k3 := P8.out.key.cell 3 _ rfl
  have k4 := P8.out.key.cell 4 _ rfl
  have k5 := P8.out.key.cell 5 _ rfl
  have W8 := Lib.hid (show Calls Tryd.prog 31 #[.pointer (some ⟨Q, 0, none⟩), .int .u8 98] _ (RetPut Q Q (T4 ++ [98]) _ .nilIface) from put_byte Q Q T4 98 _ P8.out.bld (by omega) P8.out.hi)
  obtain ⟨T5, hT5⟩ : ∃ T, T = T4 ++ [98] := ⟨_, rfl⟩
  rw [← hT5] at W8
  have HT5 := Lib.hid hT5
  clear hT5
  go_wp2_with fail
  refine W8.out.mono ?_
  rintro e wp8 ⟨rfl, hbl, hb⟩
  have P9 := Lib.hid (P8.out.put h3 hbl hb)
  clear hbl hb k0 k1 k2 k3 k4 k5 W8
  have SB := Lib.hid (Tryd.Builder_String_any Q Q T5 _ P9.out.bld P9.out.hi)
  go_wp2_with fail
  refine SB.out.mono ?_
  rintro e wz ⟨rfl, hb⟩
  have HB := Lib.hid (P9.out.below.trans (hb.mono (Nat.le_of_lt P9.out.lo)))
  clear hb
  go_wp2_with fail
  go_ret2
  exact ⟨by show Ending.returned (.tuple #[.string (bsk T5), _]) = _; rw [HK.out, HT5.out, HT4.out, HT3.out, HT2.out, HT1.out]; first | rfl | (simp only [List.nil_append]; done), HB.out⟩
set_option maxHeartbeats 6400000 in
theorem pr_0010 (F C E D m : Nat) (b : Bool) (w : World) (h : Holds F C E D m b) (T : TabP w) (hc : ¬ C = 1) (he : ¬ E = 0) (hd : D = 0) (hb : b = false) : Calls Tryd.prog 13 #[.agg #[.int .i64 (F : Int), .int .i64 (C : Int), .int .i64 (E : Int), .int .i64 (D : Int), .int .u16 (m : Int), .bool b]] w (RetPk w (keyT F C E D m b) 0) := by
  subst hb
  have hf2 := h.f2
  have hc2 := h.c2
  have he2 := h.e2
  have hd2 := h.d2
  have hm1 := h.m1
  have HK := Lib.hid (show keyT F C E D m false = dgT F ++ (46 :: dgT C) ++ (letS m) ++ (44 :: dgT E) from by (have i1 : ¬ (C : Int) = 1 := by omega); (have i2 : ¬ (E : Int) = 0 := by omega); (have i3 : (D : Int) = 0 := by omega); unfold keyT endT; simp [i1, i2, i3, hc, he, hd])
  have HY := Lib.hid (fun w => hol_yes F C E D m false w h)
  have H0 := Lib.hid (KtIn.start w F C E D m false)
  have h3 := T.lt
  have L1 := dg19 (F : Int) (by omega)
  rw [Int.toNat_natCast] at L1
  have L2 := dg19 (C : Int) (by omega)
  rw [Int.toNat_natCast] at L2
  have L3 := dg19 (E : Int) (by omega)
  rw [Int.toNat_natCast] at L3
  have L4 := dg19 (D : Int) (by omega)
  rw [Int.toNat_natCast] at L4
  have L5 := let10 m
  have D1 := Lib.hid (fun w => itoa_ok F (by omega) w)
  have D2 := Lib.hid (fun w => itoa_ok C (by omega) w)
  have D3 := Lib.hid (fun w => itoa_ok E (by omega) w)
  have D4 := Lib.hid (fun w => itoa_ok D (by omega) w)
  have D5 := Lib.hid (fun w => lettersOf_ok m (by omega) w)
  generalize letS m = X5 at *
  generalize dgT F = X1 at *
  generalize dgT C = X2 at *
  generalize dgT E = X3 at *
  generalize dgT D = X4 at *
  have t1 : ((C : Int) != 1) = true := by rw [bne_iff_ne]; omega
  have t2 : ((E : Int) != 0) = true := by rw [bne_iff_ne]; omega
  have t3 : ((D : Int) != 0) = false := by rw [bne_eq_false_iff_eq]; omega
  have eX2 : ByteArray.mk #[46] ++ bsk X2 = bsk (46 :: X2) := bsk_app [46] X2
  have sX2 : ¬ 9223372036854775807 < 1 + (bsk X2).size := by rw [bsk_size]; omega
  have qX2 : (46 :: X2).length ≤ 20 := by rw [List.length_cons]; omega
  generalize 46 :: X2 = YX2 at *
  have eX3 : ByteArray.mk #[44] ++ bsk X3 = bsk (44 :: X3) := bsk_app [44] X3
  have sX3 : ¬ 9223372036854775807 < 1 + (bsk X3).size := by rw [bsk_size]; omega
  have qX3 : (44 :: X3).length ≤ 20 := by rw [List.length_cons]; omega
  generalize 44 :: X3 = YX3 at *
  clear h hc he hd
  go_enter Tryd.func13, Tryd.ntmps13
  go_wp2_with fail
  refine (HY.out _).mono ?_
  rintro e w1 ⟨rfl, hb⟩
  have H1 := Lib.hid (H0.out.step hb)
  clear hb
  have P0 := Lib.hid (show PrIn w F C E D m false w1.heap.size [] (w1.alloc (.cells #[.pointer none, .slice none 0 0] 70)) from ⟨H1.out.key.alloc _, Lib.fresh_isBuilder 70 5 w1, H1.out.below.alloc H1.out.below.size _, (T.below H1.out.below h3).below ((Below.refl w1.heap.size w1).alloc (Nat.le_refl _) _) (by have := H1.out.below.size; omega), H1.out.key.lt, by simp⟩)
  have k0 := H1.out.key.cell 0 _ rfl
  have kl := H1.out.key.lt
  clear T
  go_wp2_with fail
  generalize hQ : w1.heap.size = Q at *
  generalize hW : w1.alloc (.cells #[.pointer none, .slice none 0 0] 70) = wb at *
  clear hQ hW k0 kl HY H0 H1
  refine (D1.out _ P0.out.tab).mono ?_
  rintro e wq0 ⟨rfl, hb⟩
  have P1 := Lib.hid (P0.out.over hb)
  clear hb
  have k0 := P1.out.key.cell 0 _ rfl
  have k1 := P1.out.key.cell 1 _ rfl
  have k2 := P1.out.key.cell 2 _ rfl
  have k3 := P1.out.key.cell 3 _ rfl
  have k4 := P1.out.key.cell 4 _ rfl
  have k5 := P1.out.key.cell 5 _ rfl
  have W1 := Lib.hid (put_str Q Q ([]) X1 _ P1.out.bld (by first | simp | omega) (by omega) P1.out.hi)
  obtain ⟨T1, hT1⟩ : ∃ T, T = [] ++ X1 := ⟨_, rfl⟩
  have lT1 : T1.length ≤ 20 := by rw [hT1, List.length_append]; first | omega | (simp only [List.length_nil]; omega)
  rw [← hT1] at W1
  have HT1 := Lib.hid hT1
  clear hT1
  go_wp2_with fail
  refine W1.out.mono ?_
  rintro e wp1 ⟨rfl, hbl, hb⟩
  have P2 := Lib.hid (P1.out.put h3 hbl hb)
  clear hbl hb k0 k1 k2 k3 k4 k5 W1
  have k0 := P2.out.key.cell 0 _ rfl
  have k1 := P2.out.key.cell 1 _ rfl
  have k2 := P2.out.key.cell 2 _ rfl
  have k3 := P2.out.key.cell 3 _ rfl
  have k4 := P2.out.key.cell 4 _ rfl
  have k5 := P2.out.key.cell 5 _ rfl
  go_wp2_with fail
  refine (D2.out _ P2.out.tab).mono ?_
  rintro e wq2 ⟨rfl, hb⟩
  have P3 := Lib.hid (P2.out.over hb)
  clear hb
  clear k0 k1 k2 k3 k4 k5
  have k0 := P3.out.key.cell 0 _ rfl
  have k1 := P3.out.key.cell 1 _ rfl
  have k2 := P3.out.key.cell 2 _ rfl
  have k3 := P3.out.key.cell 3 _ rfl
  have k4 := P3.out.key.cell 4 _ rfl
  have k5 := P3.out.key.cell 5 _ rfl
  have W3 := Lib.hid (put_str Q Q (T1) YX2 _ P3.out.bld (by first | simp | omega) (by omega) P3.out.hi)
  obtain ⟨T2, hT2⟩ : ∃ T, T = T1 ++ YX2 := ⟨_, rfl⟩
  have lT2 : T2.length ≤ 40 := by rw [hT2, List.length_append]; first | omega | (simp only [List.length_nil]; omega)
  rw [← hT2] at W3
  have HT2 := Lib.hid hT2
  clear hT2
  go_wp2_with fail
  refine W3.out.mono ?_
  rintro e wp3 ⟨rfl, hbl, hb⟩
  have P4 := Lib.hid (P3.out.put h3 hbl hb)
  clear hbl hb k0 k1 k2 k3 k4 k5 W3
  have k0 := P4.out.key.cell 0 _ rfl
  have k1 := P4.out.key.cell 1 _ rfl
  have k2 := P4.out.key.cell 2 _ rfl
  have k3 := P4.out.key.cell 3 _ rfl
  have k4 := P4.out.key.cell 4 _ rfl
  have k5 := P4.out.key.cell 5 _ rfl
  go_wp2_with fail
  refine (D5.out _ P4.out.tab.bits).mono ?_
  rintro e wq4 ⟨rfl, hb⟩
  have P5 := Lib.hid (P4.out.over hb)
  clear hb
  clear k0 k1 k2 k3 k4 k5
  have k0 := P5.out.key.cell 0 _ rfl
  have k1 := P5.out.key.cell 1 _ rfl
  have k2 := P5.out.key.cell 2 _ rfl
  have k3 := P5.out.key.cell 3 _ rfl
  have k4 := P5.out.key.cell 4 _ rfl
  have k5 := P5.out.key.cell 5 _ rfl
  have W5 := Lib.hid (put_str Q Q (T2) X5 _ P5.out.bld (by first | simp | omega) (by omega) P5.out.hi)
  obtain ⟨T3, hT3⟩ : ∃ T, T = T2 ++ X5 := ⟨_, rfl⟩
  have lT3 : T3.length ≤ 50 := by rw [hT3, List.length_append]; first | omega | (simp only [List.length_nil]; omega)
  rw [← hT3] at W5
  have HT3 := Lib.hid hT3
  clear hT3
  go_wp2_with fail
  refine W5.out.mono ?_
  rintro e wp5 ⟨rfl, hbl, hb⟩
  have P6 := Lib.hid (P5.out.put h3 hbl hb)
  clear hbl hb k0 k1 k2 k3 k4 k5 W5
  have k0 := P6.out.key.cell 0 _ rfl
  have k1 := P6.out.key.cell 1 _ rfl
  have k2 := P6.out.key.cell 2 _ rfl
  have k3 := P6.out.key.cell 3 _ rfl
  have k4 := P6.out.key.cell 4 _ rfl
  have k5 := P6.out.key.cell 5 _ rfl
  go_wp2_with fail
  refine (D3.out _ P6.out.tab).mono ?_
  rintro e wq6 ⟨rfl, hb⟩
  have P7 := Lib.hid (P6.out.over hb)
  clear hb
  clear k0 k1 k2 k3 k4 k5
  have k0 := P7.out.key.cell 0 _ rfl
  have k1 := P7.out.key.cell 1 _ rfl
  have k2 := P7.out.key.cell 2 _ rfl
  have k3 := P7.out.key.cell 3 _ rfl
  have k4 := P7.out.key.cell 4 _ rfl
  have k5 := P7.out.key.cell 5 _ rfl
  have W7 := Lib.hid (put_str Q Q (T3) YX3 _ P7.out.bld (by first | simp | omega) (by omega) P7.out.hi)
  obtain ⟨T4, hT4⟩ : ∃ T, T = T3 ++ YX3 := ⟨_, rfl⟩
  have lT4 : T4.length ≤ 70 := by rw [hT4, List.length_append]; first | omega | (simp only [List.length_nil]; omega)
  rw [← hT4] at W7
  have HT4 := Lib.hid hT4
  clear hT4
  go_wp2_with fail
  refine W7.out.mono ?_
  rintro e wp7 ⟨rfl, hbl, hb⟩
  have P8 := Lib.hid (P7.out.put h3 hbl hb)
  clear hbl hb k0 k1 k2 k3 k4 k5 W7
  have k0 := P8.out.key.cell 0 _ rfl
  have k1 := P8.out.key.cell 1 _ rfl
  have k2 := P8.out.key.cell 2 _ rfl
  have k3 := P8.out.key.cell 3 _ rfl
  have k4 := P8.out.key.cell 4 _ rfl
  have k5 := P8.out.key.cell 5 _ rfl
  have SB := Lib.hid (Tryd.Builder_String_any Q Q T4 _ P8.out.bld P8.out.hi)
  go_wp2_with fail
  refine SB.out.mono ?_
  rintro e wz ⟨rfl, hb⟩
  have HB := Lib.hid (P8.out.below.trans (hb.mono (Nat.le_of_lt P8.out.lo)))
  clear hb
  go_wp2_with fail
  go_ret2
  exact ⟨by show Ending.returned (.tuple #[.string (bsk T4), _]) = _; rw [HK.out, HT4.out, HT3.out, HT2.out, HT1.out]; first | rfl | (simp only [List.nil_append]; done), HB.out⟩
set_option maxHeartbeats 6400000 in
theorem pr_0001 (F C E D m : Nat) (b : Bool) (w : World) (h : Holds F C E D m b) (T : TabP w) (hc : ¬ C = 1) (he : ¬ E = 0) (hd : ¬ D = 0) (hb : b = true) : Calls Tryd.prog 13 #[.agg #[.int .i64 (F : Int), .int .i64 (C : Int), .int .i64 (E : Int), .int .i64 (D : Int), .int .u16 (m : Int), .bool b]] w (RetPk w (keyT F C E D m b) 0) := by
  subst hb
  have hf2 := h.f2
  have hc2 := h.c2
  have he2 := h.e2
  have hd2 := h.d2
  have hm1 := h.m1
  have HK := Lib.hid (show keyT F C E D m true = dgT F ++ (46 :: dgT C) ++ (letS m) ++ (44 :: dgT E) ++ (46 :: dgT D) ++ ([98]) from by (have i1 : ¬ (C : Int) = 1 := by omega); (have i2 : ¬ (E : Int) = 0 := by omega); (have i3 : ¬ (D : Int) = 0 := by omega); unfold keyT endT; simp [i1, i2, i3, hc, he, hd])
  have HY := Lib.hid (fun w => hol_yes F C E D m true w h)
  have H0 := Lib.hid (KtIn.start w F C E D m true)
  have h3 := T.lt
  have L1 := dg19 (F : Int) (by omega)
  rw [Int.toNat_natCast] at L1
  have L2 := dg19 (C : Int) (by omega)
  rw [Int.toNat_natCast] at L2
  have L3 := dg19 (E : Int) (by omega)
  rw [Int.toNat_natCast] at L3
  have L4 := dg19 (D : Int) (by omega)
  rw [Int.toNat_natCast] at L4
  have L5 := let10 m
  have D1 := Lib.hid (fun w => itoa_ok F (by omega) w)
  have D2 := Lib.hid (fun w => itoa_ok C (by omega) w)
  have D3 := Lib.hid (fun w => itoa_ok E (by omega) w)
  have D4 := Lib.hid (fun w => itoa_ok D (by omega) w)
  have D5 := Lib.hid (fun w => lettersOf_ok m (by omega) w)
  generalize letS m = X5 at *
  generalize dgT F = X1 at *
  generalize dgT C = X2 at *
  generalize dgT E = X3 at *
  generalize dgT D = X4 at *
  have t1 : ((C : Int) != 1) = true := by rw [bne_iff_ne]; omega
  have t2 : ((E : Int) != 0) = true := by rw [bne_iff_ne]; omega
  have t3 : ((D : Int) != 0) = true := by rw [bne_iff_ne]; omega
  have eX2 : ByteArray.mk #[46] ++ bsk X2 = bsk (46 :: X2) := bsk_app [46] X2
  have sX2 : ¬ 9223372036854775807 < 1 + (bsk X2).size := by rw [bsk_size]; omega
  have qX2 : (46 :: X2).length ≤ 20 := by rw [List.length_cons]; omega
  generalize 46 :: X2 = YX2 at *
  have eX3 : ByteArray.mk #[44] ++ bsk X3 = bsk (44 :: X3) := bsk_app [44] X3
  have sX3 : ¬ 9223372036854775807 < 1 + (bsk X3).size := by rw [bsk_size]; omega
  have qX3 : (44 :: X3).length ≤ 20 := by rw [List.length_cons]; omega
  generalize 44 :: X3 = YX3 at *
  have eX4 : ByteArray.mk #[46] ++ bsk X4 = bsk (46 :: X4) := bsk_app [46] X4
  have sX4 : ¬ 9223372036854775807 < 1 + (bsk X4).size := by rw [bsk_size]; omega
  have qX4 : (46 :: X4).length ≤ 20 := by rw [List.length_cons]; omega
  generalize 46 :: X4 = YX4 at *
  clear h hc he hd
  go_enter Tryd.func13, Tryd.ntmps13
  go_wp2_with fail
  refine (HY.out _).mono ?_
  rintro e w1 ⟨rfl, hb⟩
  have H1 := Lib.hid (H0.out.step hb)
  clear hb
  have P0 := Lib.hid (show PrIn w F C E D m true w1.heap.size [] (w1.alloc (.cells #[.pointer none, .slice none 0 0] 70)) from ⟨H1.out.key.alloc _, Lib.fresh_isBuilder 70 5 w1, H1.out.below.alloc H1.out.below.size _, (T.below H1.out.below h3).below ((Below.refl w1.heap.size w1).alloc (Nat.le_refl _) _) (by have := H1.out.below.size; omega), H1.out.key.lt, by simp⟩)
  have k0 := H1.out.key.cell 0 _ rfl
  have kl := H1.out.key.lt
  clear T
  go_wp2_with fail
  generalize hQ : w1.heap.size = Q at *
  generalize hW : w1.alloc (.cells #[.pointer none, .slice none 0 0] 70) = wb at *
  clear hQ hW k0 kl HY H0 H1
  refine (D1.out _ P0.out.tab).mono ?_
  rintro e wq0 ⟨rfl, hb⟩
  have P1 := Lib.hid (P0.out.over hb)
  clear hb
  have k0 := P1.out.key.cell 0 _ rfl
  have k1 := P1.out.key.cell 1 _ rfl
  have k2 := P1.out.key.cell 2 _ rfl
  have k3 := P1.out.key.cell 3 _ rfl
  have k4 := P1.out.key.cell 4 _ rfl
  have k5 := P1.out.key.cell 5 _ rfl
  have W1 := Lib.hid (put_str Q Q ([]) X1 _ P1.out.bld (by first | simp | omega) (by omega) P1.out.hi)
  obtain ⟨T1, hT1⟩ : ∃ T, T = [] ++ X1 := ⟨_, rfl⟩
  have lT1 : T1.length ≤ 20 := by rw [hT1, List.length_append]; first | omega | (simp only [List.length_nil]; omega)
  rw [← hT1] at W1
  have HT1 := Lib.hid hT1
  clear hT1
  go_wp2_with fail
  refine W1.out.mono ?_
  rintro e wp1 ⟨rfl, hbl, hb⟩
  have P2 := Lib.hid (P1.out.put h3 hbl hb)
  clear hbl hb k0 k1 k2 k3 k4 k5 W1
  have k0 := P2.out.key.cell 0 _ rfl
  have k1 := P2.out.key.cell 1 _ rfl
  have k2 := P2.out.key.cell 2 _ rfl
  have k3 := P2.out.key.cell 3 _ rfl
  have k4 := P2.out.key.cell 4 _ rfl
  have k5 := P2.out.key.cell 5 _ rfl
  go_wp2_with fail
  refine (D2.out _ P2.out.tab).mono ?_
  rintro e wq2 ⟨rfl, hb⟩
  have P3 := Lib.hid (P2.out.over hb)
  clear hb
  clear k0 k1 k2 k3 k4 k5
  have k0 := P3.out.key.cell 0 _ rfl
  have k1 := P3.out.key.cell 1 _ rfl
  have k2 := P3.out.key.cell 2 _ rfl
  have k3 := P3.out.key.cell 3 _ rfl
  have k4 := P3.out.key.cell 4 _ rfl
  have k5 := P3.out.key.cell 5 _ rfl
  have W3 := Lib.hid (put_str Q Q (T1) YX2 _ P3.out.bld (by first | simp | omega) (by omega) P3.out.hi)
  obtain ⟨T2, hT2⟩ : ∃ T, T = T1 ++ YX2 := ⟨_, rfl⟩
  have lT2 : T2.length ≤ 40 := by rw [hT2, List.length_append]; first | omega | (simp only [List.length_nil]; omega)
  rw [← hT2] at W3
  have HT2 := Lib.hid hT2
  clear hT2
  go_wp2_with fail
  refine W3.out.mono ?_
  rintro e wp3 ⟨rfl, hbl, hb⟩
  have P4 := Lib.hid (P3.out.put h3 hbl hb)
  clear hbl hb k0 k1 k2 k3 k4 k5 W3
  have k0 := P4.out.key.cell 0 _ rfl
  have k1 := P4.out.key.cell 1 _ rfl
  have k2 := P4.out.key.cell 2 _ rfl
  have k3 := P4.out.key.cell 3 _ rfl
  have k4 := P4.out.key.cell 4 _ rfl
  have k5 := P4.out.key.cell 5 _ rfl
  go_wp2_with fail
  refine (D5.out _ P4.out.tab.bits).mono ?_
  rintro e wq4 ⟨rfl, hb⟩
  have P5 := Lib.hid (P4.out.over hb)
  clear hb
  clear k0 k1 k2 k3 k4 k5
  have k0 := P5.out.key.cell 0 _ rfl
  have k1 := P5.out.key.cell 1 _ rfl
  have k2 := P5.out.key.cell 2 _ rfl
  have k3 := P5.out.key.cell 3 _ rfl
  have k4 := P5.out.key.cell 4 _ rfl
  have k5 := P5.out.key.cell 5 _ rfl
  have W5 := Lib.hid (put_str Q Q (T2) X5 _ P5.out.bld (by first | simp | omega) (by omega) P5.out.hi)
  obtain ⟨T3, hT3⟩ : ∃ T, T = T2 ++ X5 := ⟨_, rfl⟩
  have lT3 : T3.length ≤ 50 := by rw [hT3, List.length_append]; first | omega | (simp only [List.length_nil]; omega)
  rw [← hT3] at W5
  have HT3 := Lib.hid hT3
  clear hT3
  go_wp2_with fail
  refine W5.out.mono ?_
  rintro e wp5 ⟨rfl, hbl, hb⟩
  have P6 := Lib.hid (P5.out.put h3 hbl hb)
  clear hbl hb k0 k1 k2 k3 k4 k5 W5
  have k0 := P6.out.key.cell 0 _ rfl
  have k1 := P6.out.key.cell 1 _ rfl
  have k2 := P6.out.key.cell 2 _ rfl
  have k3 := P6.out.key.cell 3 _ rfl
  have k4 := P6.out.key.cell 4 _ rfl
  have k5 := P6.out.key.cell 5 _ rfl
  go_wp2_with fail
  refine (D3.out _ P6.out.tab).mono ?_
  rintro e wq6 ⟨rfl, hb⟩
  have P7 := Lib.hid (P6.out.over hb)
  clear hb
  clear k0 k1 k2 k3 k4 k5
  have k0 := P7.out.key.cell 0 _ rfl
  have k1 := P7.out.key.cell 1 _ rfl
  have k2 := P7.out.key.cell 2 _ rfl
  have k3 := P7.out.key.cell 3 _ rfl
  have k4 := P7.out.key.cell 4 _ rfl
  have k5 := P7.out.key.cell 5 _ rfl
  have W7 := Lib.hid (put_str Q Q (T3) YX3 _ P7.out.bld (by first | simp | omega) (by omega) P7.out.hi)
  obtain ⟨T4, hT4⟩ : ∃ T, T = T3 ++ YX3 := ⟨_, rfl⟩
  have lT4 : T4.length ≤ 70 := by rw [hT4, List.length_append]; first | omega | (simp only [List.length_nil]; omega)
  rw [← hT4] at W7
  have HT4 := Lib.hid hT4
  clear hT4
  go_wp2_with fail
  refine W7.out.mono ?_
  rintro e wp7 ⟨rfl, hbl, hb⟩
  have P8 := Lib.hid (P7.out.put h3 hbl hb)
  clear hbl hb k0 k1 k2 k3 k4 k5 W7
  have k0 := P8.out.key.cell 0 _ rfl
  have k1 := P8.out.key.cell 1 _ rfl
  have k2 := P8.out.key.cell 2 _ rfl
  have k3 := P8.out.key.cell 3 _ rfl
  have k4 := P8.out.key.cell 4 _ rfl
  have k5 := P8.out.key.cell 5 _ rfl
  go_wp2_with fail
  refine (D4.out _ P8.out.tab).mono ?_
  rintro e wq8 ⟨rfl, hb⟩
  have P9 := Lib.hid (P8.out.over hb)
  clear hb
  clear k0 k1 k2 k3 k4 k5
  have k0 := P9.out.key.cell 0 _ rfl
  have k1 := P9.out.key.cell 1 _ rfl
  have k2 := P9.out.key.cell 2 _ rfl
  have k3 := P9.out.key.cell 3 _ rfl
  have k4 := P9.out.key.cell 4 _ rfl
  have k5 := P9.out.key.cell 5 _ rfl
  have W9 := Lib.hid (put_str Q Q (T4) YX4 _ P9.out.bld (by first | simp | omega) (by omega) P9.out.hi)
  obtain ⟨T5, hT5⟩ : ∃ T, T = T4 ++ YX4 := ⟨_, rfl⟩
  have lT5 : T5.length ≤ 90 := by rw [hT5, List.length_append]; first | omega | (simp only [List.length_nil]; omega)
  rw [← hT5] at W9
  have HT5 := Lib.hid hT5
  clear hT5
  go_wp2_with fail
  refine W9.out.mono ?_
  rintro e wp9 ⟨rfl, hbl, hb⟩
  have P10 := Lib.hid (P9.out.put h3 hbl hb)
  clear hbl hb k0 k1 k2 k3 k4 k5 W9
  have k0 := P10.out.key.cell 0 _ rfl
  have k1 := P10.out.key.cell 1 _ rfl
  have k2 := P10.out.key.cell 2 _ rfl
  have k3 := P10.out.key.cell 3 _ rfl
  have k4 := P10.out.key.cell 4 _ rfl
  have k5 := P10.out.key.cell 5 _ rfl
  have W10 := Lib.hid (show Calls Tryd.prog 31 #[.pointer (some ⟨Q, 0, none⟩), .int .u8 98] _ (RetPut Q Q (T5 ++ [98]) _ .nilIface) from put_byte Q Q T5 98 _ P10.out.bld (by omega) P10.out.hi)
  obtain ⟨T6, hT6⟩ : ∃ T, T = T5 ++ [98] := ⟨_, rfl⟩
  rw [← hT6] at W10
  have HT6 := Lib.hid hT6
  clear hT6
  go_wp2_with fail
  refine W10.out.mono ?_
  rintro e wp10 ⟨rfl, hbl, hb⟩
  have P11 := Lib.hid (P10.out.put h3 hbl hb)
  clear hbl hb k0 k1 k2 k3 k4 k5 W10
  have SB := Lib.hid (Tryd.Builder_String_any Q Q T6 _ P11.out.bld P11.out.hi)
  go_wp2_with fail
  refine SB.out.mono ?_
  rintro e wz ⟨rfl, hb⟩
  have HB := Lib.hid (P11.out.below.trans (hb.mono (Nat.le_of_lt P11.out.lo)))
  clear hb
  go_wp2_with fail
  go_ret2
  exact ⟨by show Ending.returned (.tuple #[.string (bsk T6), _]) = _; rw [HK.out, HT6.out, HT5.out, HT4.out, HT3.out, HT2.out, HT1.out]; first | rfl | (simp only [List.nil_append]; done), HB.out⟩
set_option maxHeartbeats 6400000 in
theorem pr_0000 (F C E D m : Nat) (b : Bool) (w : World) (h : Holds F C E D m b) (T : TabP w) (hc : ¬ C = 1) (he : ¬ E = 0) (hd : ¬ D = 0) (hb : b = false) : Calls Tryd.prog 13 #[.agg #[.int .i64 (F : Int), .int .i64 (C : Int), .int .i64 (E : Int), .int .i64 (D : Int), .int .u16 (m : Int), .bool b]] w (RetPk w (keyT F C E D m b) 0) := by
  subst hb
  have hf2 := h.f2
  have hc2 := h.c2
  have he2 := h.e2
  have hd2 := h.d2
  have hm1 := h.m1
  have HK := Lib.hid (show keyT F C E D m false = dgT F ++ (46 :: dgT C) ++ (letS m) ++ (44 :: dgT E) ++ (46 :: dgT D) from by (have i1 : ¬ (C : Int) = 1 := by omega); (have i2 : ¬ (E : Int) = 0 := by omega); (have i3 : ¬ (D : Int) = 0 := by omega); unfold keyT endT; simp [i1, i2, i3, hc, he, hd])
  have HY := Lib.hid (fun w => hol_yes F C E D m false w h)
  have H0 := Lib.hid (KtIn.start w F C E D m false)
  have h3 := T.lt
  have L1 := dg19 (F : Int) (by omega)
  rw [Int.toNat_natCast] at L1
  have L2 := dg19 (C : Int) (by omega)
  rw [Int.toNat_natCast] at L2
  have L3 := dg19 (E : Int) (by omega)
  rw [Int.toNat_natCast] at L3
  have L4 := dg19 (D : Int) (by omega)
  rw [Int.toNat_natCast] at L4
  have L5 := let10 m
  have D1 := Lib.hid (fun w => itoa_ok F (by omega) w)
  have D2 := Lib.hid (fun w => itoa_ok C (by omega) w)
  have D3 := Lib.hid (fun w => itoa_ok E (by omega) w)
  have D4 := Lib.hid (fun w => itoa_ok D (by omega) w)
  have D5 := Lib.hid (fun w => lettersOf_ok m (by omega) w)
  generalize letS m = X5 at *
  generalize dgT F = X1 at *
  generalize dgT C = X2 at *
  generalize dgT E = X3 at *
  generalize dgT D = X4 at *
  have t1 : ((C : Int) != 1) = true := by rw [bne_iff_ne]; omega
  have t2 : ((E : Int) != 0) = true := by rw [bne_iff_ne]; omega
  have t3 : ((D : Int) != 0) = true := by rw [bne_iff_ne]; omega
  have eX2 : ByteArray.mk #[46] ++ bsk X2 = bsk (46 :: X2) := bsk_app [46] X2
  have sX2 : ¬ 9223372036854775807 < 1 + (bsk X2).size := by rw [bsk_size]; omega
  have qX2 : (46 :: X2).length ≤ 20 := by rw [List.length_cons]; omega
  generalize 46 :: X2 = YX2 at *
  have eX3 : ByteArray.mk #[44] ++ bsk X3 = bsk (44 :: X3) := bsk_app [44] X3
  have sX3 : ¬ 9223372036854775807 < 1 + (bsk X3).size := by rw [bsk_size]; omega
  have qX3 : (44 :: X3).length ≤ 20 := by rw [List.length_cons]; omega
  generalize 44 :: X3 = YX3 at *
  have eX4 : ByteArray.mk #[46] ++ bsk X4 = bsk (46 :: X4) := bsk_app [46] X4
  have sX4 : ¬ 9223372036854775807 < 1 + (bsk X4).size := by rw [bsk_size]; omega
  have qX4 : (46 :: X4).length ≤ 20 := by rw [List.length_cons]; omega
  generalize 46 :: X4 = YX4 at *
  clear h hc he hd
  go_enter Tryd.func13, Tryd.ntmps13
  go_wp2_with fail
  refine (HY.out _).mono ?_
  rintro e w1 ⟨rfl, hb⟩
  have H1 := Lib.hid (H0.out.step hb)
  clear hb
  have P0 := Lib.hid (show PrIn w F C E D m false w1.heap.size [] (w1.alloc (.cells #[.pointer none, .slice none 0 0] 70)) from ⟨H1.out.key.alloc _, Lib.fresh_isBuilder 70 5 w1, H1.out.below.alloc H1.out.below.size _, (T.below H1.out.below h3).below ((Below.refl w1.heap.size w1).alloc (Nat.le_refl _) _) (by have := H1.out.below.size; omega), H1.out.key.lt, by simp⟩)
  have k0 := H1.out.key.cell 0 _ rfl
  have kl := H1.out.key.lt
  clear T
  go_wp2_with fail
  generalize hQ : w1.heap.size = Q at *
  generalize hW : w1.alloc (.cells #[.pointer none, .slice none 0 0] 70) = wb at *
  clear hQ hW k0 kl HY H0 H1
  refine (D1.out _ P0.out.tab).mono ?_
  rintro e wq0 ⟨rfl, hb⟩
  have P1 := Lib.hid (P0.out.over hb)
  clear hb
  have k0 := P1.out.key.cell 0 _ rfl
  have k1 := P1.out.key.cell 1 _ rfl
  have k2 := P1.out.key.cell 2 _ rfl
  have k3 := P1.out.key.cell 3 _ rfl
  have k4 := P1.out.key.cell 4 _ rfl
  have k5 := P1.out.key.cell 5 _ rfl
  have W1 := Lib.hid (put_str Q Q ([]) X1 _ P1.out.bld (by first | simp | omega) (by omega) P1.out.hi)
  obtain ⟨T1, hT1⟩ : ∃ T, T = [] ++ X1 := ⟨_, rfl⟩
  have lT1 : T1.length ≤ 20 := by rw [hT1, List.length_append]; first | omega | (simp only [List.length_nil]; omega)
  rw [← hT1] at W1
  have HT1 := Lib.hid hT1
  clear hT1
  go_wp2_with fail
  refine W1.out.mono ?_
  rintro e wp1 ⟨rfl, hbl, hb⟩
  have P2 := Lib.hid (P1.out.put h3 hbl hb)
  clear hbl hb k0 k1 k2 k3 k4 k5 W1
  have k0 := P2.out.key.cell 0 _ rfl
  have k1 := P2.out.key.cell 1 _ rfl
  have k2 := P2.out.key.cell 2 _ rfl
  have k3 := P2.out.key.cell 3 _ rfl
  have k4 := P2.out.key.cell 4 _ rfl
  have k5 := P2.out.key.cell 5 _ rfl
  go_wp2_with fail
  refine (D2.out _ P2.out.tab).mono ?_
  rintro e wq2 ⟨rfl, hb⟩
  have P3 := Lib.hid (P2.out.over hb)
  clear hb
  clear k0 k1 k2 k3 k4 k5
  have k0 := P3.out.key.cell 0 _ rfl
  have k1 := P3.out.key.cell 1 _ rfl
  have k2 := P3.out.key.cell 2 _ rfl
  have k3 := P3.out.key.cell 3 _ rfl
  have k4 := P3.out.key.cell 4 _ rfl
  have k5 := P3.out.key.cell 5 _ rfl
  have W3 := Lib.hid (put_str Q Q (T1) YX2 _ P3.out.bld (by first | simp | omega) (by omega) P3.out.hi)
  obtain ⟨T2, hT2⟩ : ∃ T, T = T1 ++ YX2 := ⟨_, rfl⟩
  have lT2 : T2.length ≤ 40 := by rw [hT2, List.length_append]; first | omega | (simp only [List.length_nil]; omega)
  rw [← hT2] at W3
  have HT2 := Lib.hid hT2
  clear hT2
  go_wp2_with fail
  refine W3.out.mono ?_
  rintro e wp3 ⟨rfl, hbl, hb⟩
  have P4 := Lib.hid (P3.out.put h3 hbl hb)
  clear hbl hb k0 k1 k2 k3 k4 k5 W3
  have k0 := P4.out.key.cell 0 _ rfl
  have k1 := P4.out.key.cell 1 _ rfl
  have k2 := P4.out.key.cell 2 _ rfl
  have k3 := P4.out.key.cell 3 _ rfl
  have k4 := P4.out.key.cell 4 _ rfl
  have k5 := P4.out.key.cell 5 _ rfl
  go_wp2_with fail
  refine (D5.out _ P4.out.tab.bits).mono ?_
  rintro e wq4 ⟨rfl, hb⟩
  have P5 := Lib.hid (P4.out.over hb)
  clear hb
  clear k0 k1 k2 k3 k4 k5
  have k0 := P5.out.key.cell 0 _ rfl
  have k1 := P5.out.key.cell 1 _ rfl
  have k2 := P5.out.key.cell 2 _ rfl
  have k3 := P5.out.key.cell 3 _ rfl
  have k4 := P5.out.key.cell 4 _ rfl
  have k5 := P5.out.key.cell 5 _ rfl
  have W5 := Lib.hid (put_str Q Q (T2) X5 _ P5.out.bld (by first | simp | omega) (by omega) P5.out.hi)
  obtain ⟨T3, hT3⟩ : ∃ T, T = T2 ++ X5 := ⟨_, rfl⟩
  have lT3 : T3.length ≤ 50 := by rw [hT3, List.length_append]; first | omega | (simp only [List.length_nil]; omega)
  rw [← hT3] at W5
  have HT3 := Lib.hid hT3
  clear hT3
  go_wp2_with fail
  refine W5.out.mono ?_
  rintro e wp5 ⟨rfl, hbl, hb⟩
  have P6 := Lib.hid (P5.out.put h3 hbl hb)
  clear hbl hb k0 k1 k2 k3 k4 k5 W5
  have k0 := P6.out.key.cell 0 _ rfl
  have k1 := P6.out.key.cell 1 _ rfl
  have k2 := P6.out.key.cell 2 _ rfl
  have k3 := P6.out.key.cell 3 _ rfl
  have k4 := P6.out.key.cell 4 _ rfl
  have k5 := P6.out.key.cell 5 _ rfl
  go_wp2_with fail
  refine (D3.out _ P6.out.tab).mono ?_
  rintro e wq6 ⟨rfl, hb⟩
  have P7 := Lib.hid (P6.out.over hb)
  clear hb
  clear k0 k1 k2 k3 k4 k5
  have k0 := P7.out.key.cell 0 _ rfl
  have k1 := P7.out.key.cell 1 _ rfl
  have k2 := P7.out.key.cell 2 _ rfl
  have k3 := P7.out.key.cell 3 _ rfl
  have k4 := P7.out.key.cell 4 _ rfl
  have k5 := P7.out.key.cell 5 _ rfl
  have W7 := Lib.hid (put_str Q Q (T3) YX3 _ P7.out.bld (by first | simp | omega) (by omega) P7.out.hi)
  obtain ⟨T4, hT4⟩ : ∃ T, T = T3 ++ YX3 := ⟨_, rfl⟩
  have lT4 : T4.length ≤ 70 := by rw [hT4, List.length_append]; first | omega | (simp only [List.length_nil]; omega)
  rw [← hT4] at W7
  have HT4 := Lib.hid hT4
  clear hT4
  go_wp2_with fail
  refine W7.out.mono ?_
  rintro e wp7 ⟨rfl, hbl, hb⟩
  have P8 := Lib.hid (P7.out.put h3 hbl hb)
  clear hbl hb k0 k1 k2 k3 k4 k5 W7
  have k0 := P8.out.key.cell 0 _ rfl
  have k1 := P8.out.key.cell 1 _ rfl
  have k2 := P8.out.key.cell 2 _ rfl
  have k3 := P8.out.key.cell 3 _ rfl
  have k4 := P8.out.key.cell 4 _ rfl
  have k5 := P8.out.key.cell 5 _ rfl
  go_wp2_with fail
  refine (D4.out _ P8.out.tab).mono ?_
  rintro e wq8 ⟨rfl, hb⟩
  have P9 := Lib.hid (P8.out.over hb)
  clear hb
  clear k0 k1 k2 k3 k4 k5
  have k0 := P9.out.key.cell 0 _ rfl
  have k1 := P9.out.key.cell 1 _ rfl
  have k2 := P9.out.key.cell 2 _ rfl
  have k3 := P9.out.key.cell 3 _ rfl
  have k4 := P9.out.key.cell 4 _ rfl
  have k5 := P9.out.key.cell 5 _ rfl
  have W9 := Lib.hid (put_str Q Q (T4) YX4 _ P9.out.bld (by first | simp | omega) (by omega) P9.out.hi)
  obtain ⟨T5, hT5⟩ : ∃ T, T = T4 ++ YX4 := ⟨_, rfl⟩
  have lT5 : T5.length ≤ 90 := by rw [hT5, List.length_append]; first | omega | (simp only [List.length_nil]; omega)
  rw [← hT5] at W9
  have HT5 := Lib.hid hT5
  clear hT5
  go_wp2_with fail
  refine W9.out.mono ?_
  rintro e wp9 ⟨rfl, hbl, hb⟩
  have P10 := Lib.hid (P9.out.put h3 hbl hb)
  clear hbl hb k0 k1 k2 k3 k4 k5 W9
  have k0 := P10.out.key.cell 0 _ rfl
  have k1 := P10.out.key.cell 1 _ rfl
  have k2 := P10.out.key.cell 2 _ rfl
  have k3 := P10.out.key.cell 3 _ rfl
  have k4 := P10.out.key.cell 4 _ rfl
  have k5 := P10.out.key.cell 5 _ rfl
  have SB := Lib.hid (Tryd.Builder_String_any Q Q T5 _ P10.out.bld P10.out.hi)
  go_wp2_with fail
  refine SB.out.mono ?_
  rintro e wz ⟨rfl, hb⟩
  have HB := Lib.hid (P10.out.below.trans (hb.mono (Nat.le_of_lt P10.out.lo)))
  clear hb
  go_wp2_with fail
  go_ret2
  exact ⟨by show Ending.returned (.tuple #[.string (bsk T5), _]) = _; rw [HK.out, HT5.out, HT4.out, HT3.out, HT2.out, HT1.out]; first | rfl | (simp only [List.nil_append]; done), HB.out⟩
end Go.Proofs.YtbgbmojoldkcfaaDoor
