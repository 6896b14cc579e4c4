/- keyText, the document's. -/
import Derived.Test.YtbgbmojoldkcfaaDoorLet
namespace Go.Proofs.YtbgbmojoldkcfaaDoor
open Go.RowKit

theorem upI_nat (n : Int) : (upI n).toNat = n.toNat := by unfold upI; split <;> omega
theorem decU (n : Int) (hn : n ≤ 9223372036854775807) (w : World) : Calls Tryd.prog 43 #[.int .i64 (upI n)] w (RetS w (dgT n.toNat)) := by
  have h := dec_ok (n.toNat + 1) (upI n) (by rw [upI_nat]; omega) (by unfold upI; split <;> omega) (by unfold upI; split <;> omega) w
  rwa [upI_nat] at h
theorem dg19 (n : Int) (h : n ≤ 9223372036854775807) : (dgT n.toNat).length ≤ 19 := by have := dgT_19 n h; rwa [bsk_size] at this
theorem cat_ok (A B : List UInt8) (h : A.length + B.length ≤ 1000) : bsk A ++ bsk B = bsk (A ++ B) ∧ ¬ 9223372036854775807 < (bsk A).size + (bsk B).size := by
  refine ⟨bsk_app A B, ?_⟩
  rw [bsk_size, bsk_size]; omega
theorem cat_lit (A : List UInt8) (x : UInt8) (h : A.length ≤ 999) : bsk A ++ ByteArray.mk #[x] = bsk (A ++ [x]) ∧ ¬ 9223372036854775807 < (bsk A).size + 1 := by
  refine ⟨bsk_app A [x], ?_⟩
  rw [bsk_size]; omega
theorem let10 (m : Nat) : (letS m).length ≤ 10 := List.length_filter_le _ abc
def kI (f c ef ec : Int) (m : Nat) (b : Bool) : List Value := [.int .i64 f, .int .i64 c, .int .i64 ef, .int .i64 ec, .int .u16 (m : Int), .bool b]
/-- Within keyText: the key's block. -/
structure KtIn (w : World) (f c ef ec : Int) (m : Nat) (b : Bool) (wr : World) : Prop where
  key : CellsAt wr w.heap.size (kI f c ef ec m b)
  below : Below w.heap.size w wr
theorem KtIn.step {w : World} {f c ef ec : Int} {m : Nat} {b : Bool} {wr w' : World} (h : KtIn w f c ef ec m b wr) (k : Below wr.heap.size wr w') : KtIn w f c ef ec m b w' := ⟨h.key.step k, h.below.trans (k.mono h.below.size)⟩
theorem KtIn.start (w : World) (f c ef ec : Int) (m : Nat) (b : Bool) : KtIn w f c ef ec m b (w.alloc (.cells (kI f c ef ec m b).toArray 36)) := ⟨CellsAt.new w _ 36, (Below.refl _ _).alloc (Nat.le_refl _) _⟩

set_option maxRecDepth 100000
set_option maxHeartbeats 3200000 in
theorem kt_11 (f c ef ec : Int) (m : Nat) (b : Bool) (w : World) (hm : m < 65536) (bf : f ≤ 9223372036854775807) (bc : c ≤ 9223372036854775807) (be : ef ≤ 9223372036854775807) (bd : ec ≤ 9223372036854775807) (hc : c = 1) (he : ef = 0) : Calls Tryd.prog 33 #[.agg #[.int .i64 f, .int .i64 c, .int .i64 ef, .int .i64 ec, .int .u16 (m : Int), .bool b]] w (RetS w (keyT f c ef ec m b)) := by
  have HK := Lib.hid (show keyT f c ef ec m b = dgT f.toNat ++ letS m from by unfold keyT endT; simp [hc, he])
  have H0 := Lib.hid (KtIn.start w f c ef ec m b)
  have L1 := dg19 f (by omega)
  have L2 := dg19 c (by omega)
  have L3 := dg19 ef (by omega)
  have L4 := dg19 ec (by omega)
  have L5 := let10 m
  have D1 := Lib.hid (fun w => decU f (by omega) w)
  have D2 := Lib.hid (fun w => decU c (by omega) w)
  have D3 := Lib.hid (fun w => decU ef (by omega) w)
  have D4 := Lib.hid (fun w => decU ec (by omega) w)
  have D5 := Lib.hid (fun w => letters_ok m hm w)
  generalize letS m = X5 at *
  generalize dgT f.toNat = X1 at *
  generalize dgT c.toNat = X2 at *
  generalize dgT ef.toNat = X3 at *
  generalize dgT ec.toNat = X4 at *
  obtain ⟨T1, hT1⟩ : ∃ T, T = X1 ++ X5 := ⟨_, rfl⟩
  have lT1 : T1.length ≤ 29 := by rw [hT1, List.length_append]; omega
  obtain ⟨e1, s1⟩ := cat_ok X1 X5 (by omega)
  rw [← hT1] at e1
  have HT1 := Lib.hid hT1
  clear hT1
  have t1 : (c != 1) = false := by rw [bne_eq_false_iff_eq]; exact hc
  have t2 : (ef == 0) = true := by rw [beq_iff_eq]; exact he
  clear hc he
  go_enter Tryd.func33, Tryd.ntmps33
  go_wp2_with fail
  refine (up_ok f _).mono ?_
  rintro e wq ⟨rfl, rfl⟩
  go_wp2_with fail
  refine (D1.out _).mono ?_
  rintro e w1 ⟨rfl, hb1⟩
  have H1 := Lib.hid (H0.out.step hb1)
  clear hb1
  have k0 := H1.out.key.cell 0 _ rfl
  have k1 := H1.out.key.cell 1 _ rfl
  have k2 := H1.out.key.cell 2 _ rfl
  have k3 := H1.out.key.cell 3 _ rfl
  have k4 := H1.out.key.cell 4 _ rfl
  have k5 := H1.out.key.cell 5 _ rfl
  go_wp2_with fail
  refine (D5.out _).mono ?_
  rintro e wq ⟨rfl, rfl⟩
  go_wp2_with fail
  go_ret
  exact ⟨by show Ending.returned (.string (bsk T1)) = _; rw [HK.out, HT1.out], H1.out.below⟩
set_option maxHeartbeats 3200000 in
theorem kt_1011 (f c ef ec : Int) (m : Nat) (b : Bool) (w : World) (hm : m < 65536) (bf : f ≤ 9223372036854775807) (bc : c ≤ 9223372036854775807) (be : ef ≤ 9223372036854775807) (bd : ec ≤ 9223372036854775807) (hc : c = 1) (he : ¬ ef = 0) (hd : ec = 0) (hb : b = true) : Calls Tryd.prog 33 #[.agg #[.int .i64 f, .int .i64 c, .int .i64 ef, .int .i64 ec, .int .u16 (m : Int), .bool b]] w (RetS w (keyT f c ef ec m b)) := by
  have HK := Lib.hid (show keyT f c ef ec m b = dgT f.toNat ++ letS m ++ [44] ++ dgT ef.toNat ++ [98] from by unfold keyT endT; simp [hc, he, hd, hb])
  have H0 := Lib.hid (KtIn.start w f c ef ec m b)
  have L1 := dg19 f (by omega)
  have L2 := dg19 c (by omega)
  have L3 := dg19 ef (by omega)
  have L4 := dg19 ec (by omega)
  have L5 := let10 m
  have D1 := Lib.hid (fun w => decU f (by omega) w)
  have D2 := Lib.hid (fun w => decU c (by omega) w)
  have D3 := Lib.hid (fun w => decU ef (by omega) w)
  have D4 := Lib.hid (fun w => decU ec (by omega) w)
  have D5 := Lib.hid (fun w => letters_ok m hm w)
  generalize letS m = X5 at *
  generalize dgT f.toNat = X1 at *
  generalize dgT c.toNat = X2 at *
  generalize dgT ef.toNat = X3 at *
  generalize dgT ec.toNat = X4 at *
  obtain ⟨T1, hT1⟩ : ∃ T, T = X1 ++ X5 := ⟨_, rfl⟩
  have lT1 : T1.length ≤ 29 := by rw [hT1, List.length_append]; omega
  obtain ⟨e1, s1⟩ := cat_ok X1 X5 (by omega)
  rw [← hT1] at e1
  have HT1 := Lib.hid hT1
  clear hT1
  obtain ⟨T2, hT2⟩ : ∃ T, T = T1 ++ [44] := ⟨_, rfl⟩
  have lT2 : T2.length ≤ 30 := by rw [hT2, List.length_append]; simp only [List.length_singleton]; omega
  obtain ⟨e2, s2⟩ := cat_lit T1 44 (by omega)
  rw [← hT2] at e2
  have HT2 := Lib.hid hT2
  clear hT2
  obtain ⟨T3, hT3⟩ : ∃ T, T = T2 ++ X3 := ⟨_, rfl⟩
  have lT3 : T3.length ≤ 49 := by rw [hT3, List.length_append]; omega
  obtain ⟨e3, s3⟩ := cat_ok T2 X3 (by omega)
  rw [← hT3] at e3
  have HT3 := Lib.hid hT3
  clear hT3
  obtain ⟨T4, hT4⟩ : ∃ T, T = T3 ++ [98] := ⟨_, rfl⟩
  have lT4 : T4.length ≤ 50 := by rw [hT4, List.length_append]; simp only [List.length_singleton]; omega
  obtain ⟨e4, s4⟩ := cat_lit T3 98 (by omega)
  rw [← hT4] at e4
  have HT4 := Lib.hid hT4
  clear hT4
  have t1 : (c != 1) = false := by rw [bne_eq_false_iff_eq]; exact hc
  have t2 : (ef == 0) = false := by rw [beq_eq_false_iff_ne]; exact he
  have t3 : (ec != 0) = false := by rw [bne_eq_false_iff_eq]; exact hd
  have hB := Lib.hid hb
  clear hb hc he hd
  obtain rfl := hB.out
  go_enter Tryd.func33, Tryd.ntmps33
  go_wp2_with fail
  refine (up_ok f _).mono ?_
  rintro e wq ⟨rfl, rfl⟩
  go_wp2_with fail
  refine (D1.out _).mono ?_
  rintro e w1 ⟨rfl, hb1⟩
  have H1 := Lib.hid (H0.out.step hb1)
  clear hb1
  have k0 := H1.out.key.cell 0 _ rfl
  have k1 := H1.out.key.cell 1 _ rfl
  have k2 := H1.out.key.cell 2 _ rfl
  have k3 := H1.out.key.cell 3 _ rfl
  have k4 := H1.out.key.cell 4 _ rfl
  have k5 := H1.out.key.cell 5 _ rfl
  go_wp2_with fail
  refine (D5.out _).mono ?_
  rintro e wq ⟨rfl, rfl⟩
  go_wp2_with fail
  refine (up_ok ef _).mono ?_
  rintro e wq ⟨rfl, rfl⟩
  go_wp2_with fail
  refine (D3.out _).mono ?_
  rintro e w2 ⟨rfl, hb2⟩
  have H2 := Lib.hid (H1.out.step hb2)
  clear k0 k1 k2 k3 k4 k5
  clear hb2
  have k0 := H2.out.key.cell 0 _ rfl
  have k1 := H2.out.key.cell 1 _ rfl
  have k2 := H2.out.key.cell 2 _ rfl
  have k3 := H2.out.key.cell 3 _ rfl
  have k4 := H2.out.key.cell 4 _ rfl
  have k5 := H2.out.key.cell 5 _ rfl
  go_wp2_with fail
  go_ret
  exact ⟨by show Ending.returned (.string (bsk T4)) = _; rw [HK.out, HT4.out, HT3.out, HT2.out, HT1.out], H2.out.below⟩
set_option maxHeartbeats 3200000 in
theorem kt_1010 (f c ef ec : Int) (m : Nat) (b : Bool) (w : World) (hm : m < 65536) (bf : f ≤ 9223372036854775807) (bc : c ≤ 9223372036854775807) (be : ef ≤ 9223372036854775807) (bd : ec ≤ 9223372036854775807) (hc : c = 1) (he : ¬ ef = 0) (hd : ec = 0) (hb : b = false) : Calls Tryd.prog 33 #[.agg #[.int .i64 f, .int .i64 c, .int .i64 ef, .int .i64 ec, .int .u16 (m : Int), .bool b]] w (RetS w (keyT f c ef ec m b)) := by
  have HK := Lib.hid (show keyT f c ef ec m b = dgT f.toNat ++ letS m ++ [44] ++ dgT ef.toNat from by unfold keyT endT; simp [hc, he, hd, hb])
  have H0 := Lib.hid (KtIn.start w f c ef ec m b)
  have L1 := dg19 f (by omega)
  have L2 := dg19 c (by omega)
  have L3 := dg19 ef (by omega)
  have L4 := dg19 ec (by omega)
  have L5 := let10 m
  have D1 := Lib.hid (fun w => decU f (by omega) w)
  have D2 := Lib.hid (fun w => decU c (by omega) w)
  have D3 := Lib.hid (fun w => decU ef (by omega) w)
  have D4 := Lib.hid (fun w => decU ec (by omega) w)
  have D5 := Lib.hid (fun w => letters_ok m hm w)
  generalize letS m = X5 at *
  generalize dgT f.toNat = X1 at *
  generalize dgT c.toNat = X2 at *
  generalize dgT ef.toNat = X3 at *
  generalize dgT ec.toNat = X4 at *
  obtain ⟨T1, hT1⟩ : ∃ T, T = X1 ++ X5 := ⟨_, rfl⟩
  have lT1 : T1.length ≤ 29 := by rw [hT1, List.length_append]; omega
  obtain ⟨e1, s1⟩ := cat_ok X1 X5 (by omega)
  rw [← hT1] at e1
  have HT1 := Lib.hid hT1
  clear hT1
  obtain ⟨T2, hT2⟩ : ∃ T, T = T1 ++ [44] := ⟨_, rfl⟩
  have lT2 : T2.length ≤ 30 := by rw [hT2, List.length_append]; simp only [List.length_singleton]; omega
  obtain ⟨e2, s2⟩ := cat_lit T1 44 (by omega)
  rw [← hT2] at e2
  have HT2 := Lib.hid hT2
  clear hT2
  obtain ⟨T3, hT3⟩ : ∃ T, T = T2 ++ X3 := ⟨_, rfl⟩
  have lT3 : T3.length ≤ 49 := by rw [hT3, List.length_append]; omega
  obtain ⟨e3, s3⟩ := cat_ok T2 X3 (by omega)
  rw [← hT3] at e3
  have HT3 := Lib.hid hT3
  clear hT3
  have t1 : (c != 1) = false := by rw [bne_eq_false_iff_eq]; exact hc
  have t2 : (ef == 0) = false := by rw [beq_eq_false_iff_ne]; exact he
  have t3 : (ec != 0) = false := by rw [bne_eq_false_iff_eq]; exact hd
  have hB := Lib.hid hb
  clear hb hc he hd
  obtain rfl := hB.out
  go_enter Tryd.func33, Tryd.ntmps33
  go_wp2_with fail
  refine (up_ok f _).mono ?_
  rintro e wq ⟨rfl, rfl⟩
  go_wp2_with fail
  refine (D1.out _).mono ?_
  rintro e w1 ⟨rfl, hb1⟩
  have H1 := Lib.hid (H0.out.step hb1)
  clear hb1
  have k0 := H1.out.key.cell 0 _ rfl
  have k1 := H1.out.key.cell 1 _ rfl
  have k2 := H1.out.key.cell 2 _ rfl
  have k3 := H1.out.key.cell 3 _ rfl
  have k4 := H1.out.key.cell 4 _ rfl
  have k5 := H1.out.key.cell 5 _ rfl
  go_wp2_with fail
  refine (D5.out _).mono ?_
  rintro e wq ⟨rfl, rfl⟩
  go_wp2_with fail
  refine (up_ok ef _).mono ?_
  rintro e wq ⟨rfl, rfl⟩
  go_wp2_with fail
  refine (D3.out _).mono ?_
  rintro e w2 ⟨rfl, hb2⟩
  have H2 := Lib.hid (H1.out.step hb2)
  clear k0 k1 k2 k3 k4 k5
  clear hb2
  have k0 := H2.out.key.cell 0 _ rfl
  have k1 := H2.out.key.cell 1 _ rfl
  have k2 := H2.out.key.cell 2 _ rfl
  have k3 := H2.out.key.cell 3 _ rfl
  have k4 := H2.out.key.cell 4 _ rfl
  have k5 := H2.out.key.cell 5 _ rfl
  go_wp2_with fail
  go_ret
  exact ⟨by show Ending.returned (.string (bsk T3)) = _; rw [HK.out, HT3.out, HT2.out, HT1.out], H2.out.below⟩
set_option maxHeartbeats 3200000 in
theorem kt_1001 (f c ef ec : Int) (m : Nat) (b : Bool) (w : World) (hm : m < 65536) (bf : f ≤ 9223372036854775807) (bc : c ≤ 9223372036854775807) (be : ef ≤ 9223372036854775807) (bd : ec ≤ 9223372036854775807) (hc : c = 1) (he : ¬ ef = 0) (hd : ¬ ec = 0) (hb : b = true) : Calls Tryd.prog 33 #[.agg #[.int .i64 f, .int .i64 c, .int .i64 ef, .int .i64 ec, .int .u16 (m : Int), .bool b]] w (RetS w (keyT f c ef ec m b)) := by
  have HK := Lib.hid (show keyT f c ef ec m b = dgT f.toNat ++ letS m ++ [44] ++ dgT ef.toNat ++ [46] ++ dgT ec.toNat ++ [98] from by unfold keyT endT; simp [hc, he, hd, hb])
  have H0 := Lib.hid (KtIn.start w f c ef ec m b)
  have L1 := dg19 f (by omega)
  have L2 := dg19 c (by omega)
  have L3 := dg19 ef (by omega)
  have L4 := dg19 ec (by omega)
  have L5 := let10 m
  have D1 := Lib.hid (fun w => decU f (by omega) w)
  have D2 := Lib.hid (fun w => decU c (by omega) w)
  have D3 := Lib.hid (fun w => decU ef (by omega) w)
  have D4 := Lib.hid (fun w => decU ec (by omega) w)
  have D5 := Lib.hid (fun w => letters_ok m hm w)
  generalize letS m = X5 at *
  generalize dgT f.toNat = X1 at *
  generalize dgT c.toNat = X2 at *
  generalize dgT ef.toNat = X3 at *
  generalize dgT ec.toNat = X4 at *
  obtain ⟨T1, hT1⟩ : ∃ T, T = X1 ++ X5 := ⟨_, rfl⟩
  have lT1 : T1.length ≤ 29 := by rw [hT1, List.length_append]; omega
  obtain ⟨e1, s1⟩ := cat_ok X1 X5 (by omega)
  rw [← hT1] at e1
  have HT1 := Lib.hid hT1
  clear hT1
  obtain ⟨T2, hT2⟩ : ∃ T, T = T1 ++ [44] := ⟨_, rfl⟩
  have lT2 : T2.length ≤ 30 := by rw [hT2, List.length_append]; simp only [List.length_singleton]; omega
  obtain ⟨e2, s2⟩ := cat_lit T1 44 (by omega)
  rw [← hT2] at e2
  have HT2 := Lib.hid hT2
  clear hT2
  obtain ⟨T3, hT3⟩ : ∃ T, T = T2 ++ X3 := ⟨_, rfl⟩
  have lT3 : T3.length ≤ 49 := by rw [hT3, List.length_append]; omega
  obtain ⟨e3, s3⟩ := cat_ok T2 X3 (by omega)
  rw [← hT3] at e3
  have HT3 := Lib.hid hT3
  clear hT3
  obtain ⟨T4, hT4⟩ : ∃ T, T = T3 ++ [46] := ⟨_, rfl⟩
  have lT4 : T4.length ≤ 50 := by rw [hT4, List.length_append]; simp only [List.length_singleton]; omega
  obtain ⟨e4, s4⟩ := cat_lit T3 46 (by omega)
  rw [← hT4] at e4
  have HT4 := Lib.hid hT4
  clear hT4
  obtain ⟨T5, hT5⟩ : ∃ T, T = T4 ++ X4 := ⟨_, rfl⟩
  have lT5 : T5.length ≤ 69 := by rw [hT5, List.length_append]; omega
  obtain ⟨e5, s5⟩ := cat_ok T4 X4 (by omega)
  rw [← hT5] at e5
  have HT5 := Lib.hid hT5
  clear hT5
  obtain ⟨T6, hT6⟩ : ∃ T, T = T5 ++ [98] := ⟨_, rfl⟩
  have lT6 : T6.length ≤ 70 := by rw [hT6, List.length_append]; simp only [List.length_singleton]; omega
  obtain ⟨e6, s6⟩ := cat_lit T5 98 (by omega)
  rw [← hT6] at e6
  have HT6 := Lib.hid hT6
  clear hT6
  have t1 : (c != 1) = false := by rw [bne_eq_false_iff_eq]; exact hc
  have t2 : (ef == 0) = false := by rw [beq_eq_false_iff_ne]; exact he
  have t3 : (ec != 0) = true := by rw [bne_iff_ne]; exact hd
  have hB := Lib.hid hb
  clear hb hc he hd
  obtain rfl := hB.out
  go_enter Tryd.func33, Tryd.ntmps33
  go_wp2_with fail
  refine (up_ok f _).mono ?_
  rintro e wq ⟨rfl, rfl⟩
  go_wp2_with fail
  refine (D1.out _).mono ?_
  rintro e w1 ⟨rfl, hb1⟩
  have H1 := Lib.hid (H0.out.step hb1)
  clear hb1
  have k0 := H1.out.key.cell 0 _ rfl
  have k1 := H1.out.key.cell 1 _ rfl
  have k2 := H1.out.key.cell 2 _ rfl
  have k3 := H1.out.key.cell 3 _ rfl
  have k4 := H1.out.key.cell 4 _ rfl
  have k5 := H1.out.key.cell 5 _ rfl
  go_wp2_with fail
  refine (D5.out _).mono ?_
  rintro e wq ⟨rfl, rfl⟩
  go_wp2_with fail
  refine (up_ok ef _).mono ?_
  rintro e wq ⟨rfl, rfl⟩
  go_wp2_with fail
  refine (D3.out _).mono ?_
  rintro e w2 ⟨rfl, hb2⟩
  have H2 := Lib.hid (H1.out.step hb2)
  clear k0 k1 k2 k3 k4 k5
  clear hb2
  have k0 := H2.out.key.cell 0 _ rfl
  have k1 := H2.out.key.cell 1 _ rfl
  have k2 := H2.out.key.cell 2 _ rfl
  have k3 := H2.out.key.cell 3 _ rfl
  have k4 := H2.out.key.cell 4 _ rfl
  have k5 := H2.out.key.cell 5 _ rfl
  go_wp2_with fail
  refine (up_ok ec _).mono ?_
  rintro e wq ⟨rfl, rfl⟩
  go_wp2_with fail
  refine (D4.out _).mono ?_
  rintro e w3 ⟨rfl, hb3⟩
  have H3 := Lib.hid (H2.out.step hb3)
  clear k0 k1 k2 k3 k4 k5
  clear hb3
  have k0 := H3.out.key.cell 0 _ rfl
  have k1 := H3.out.key.cell 1 _ rfl
  have k2 := H3.out.key.cell 2 _ rfl
  have k3 := H3.out.key.cell 3 _ rfl
  have k4 := H3.out.key.cell 4 _ rfl
  have k5 := H3.out.key.cell 5 _ rfl
  go_wp2_with fail
  go_ret
  exact ⟨by show Ending.returned (.string (bsk T6)) = _; rw [HK.out, HT6.out, HT5.out, HT4.out, HT3.out, HT2.out, HT1.out], H3.out.below⟩
set_option maxHeartbeats 3200000 in
theorem kt_1000 (f c ef ec : Int) (m : Nat) (b : Bool) (w : World) (hm : m < 65536) (bf : f ≤ 9223372036854775807) (bc : c ≤ 9223372036854775807) (be : ef ≤ 9223372036854775807) (bd : ec ≤ 9223372036854775807) (hc : c = 1) (he : ¬ ef = 0) (hd : ¬ ec = 0) (hb : b = false) : Calls Tryd.prog 33 #[.agg #[.int .i64 f, .int .i64 c, .int .i64 ef, .int .i64 ec, .int .u16 (m : Int), .bool b]] w (RetS w (keyT f c ef ec m b)) := by
  have HK := Lib.hid (show keyT f c ef ec m b = dgT f.toNat ++ letS m ++ [44] ++ dgT ef.toNat ++ [46] ++ dgT ec.toNat from by unfold keyT endT; simp [hc, he, hd, hb])
  have H0 := Lib.hid (KtIn.start w f c ef ec m b)
  have L1 := dg19 f (by omega)
  have L2 := dg19 c (by omega)
  have L3 := dg19 ef (by omega)
  have L4 := dg19 ec (by omega)
  have L5 := let10 m
  have D1 := Lib.hid (fun w => decU f (by omega) w)
  have D2 := Lib.hid (fun w => decU c (by omega) w)
  have D3 := Lib.hid (fun w => decU ef (by omega) w)
  have D4 := Lib.hid (fun w => decU ec (by omega) w)
  have D5 := Lib.hid (fun w => letters_ok m hm w)
  generalize letS m = X5 at *
  generalize dgT f.toNat = X1 at *
  generalize dgT c.toNat = X2 at *
  generalize dgT ef.toNat = X3 at *
  generalize dgT ec.toNat = X4 at *
  obtain ⟨T1, hT1⟩ : ∃ T, T = X1 ++ X5 := ⟨_, rfl⟩
  have lT1 : T1.length ≤ 29 := by rw [hT1, List.length_append]; omega
  obtain ⟨e1, s1⟩ := cat_ok X1 X5 (by omega)
  rw [← hT1] at e1
  have HT1 := Lib.hid hT1
  clear hT1
  obtain ⟨T2, hT2⟩ : ∃ T, T = T1 ++ [44] := ⟨_, rfl⟩
  have lT2 : T2.length ≤ 30 := by rw [hT2, List.length_append]; simp only [List.length_singleton]; omega
  obtain ⟨e2, s2⟩ := cat_lit T1 44 (by omega)
  rw [← hT2] at e2
  have HT2 := Lib.hid hT2
  clear hT2
  obtain ⟨T3, hT3⟩ : ∃ T, T = T2 ++ X3 := ⟨_, rfl⟩
  have lT3 : T3.length ≤ 49 := by rw [hT3, List.length_append]; omega
  obtain ⟨e3, s3⟩ := cat_ok T2 X3 (by omega)
  rw [← hT3] at e3
  have HT3 := Lib.hid hT3
  clear hT3
  obtain ⟨T4, hT4⟩ : ∃ T, T = T3 ++ [46] := ⟨_, rfl⟩
  have lT4 : T4.length ≤ 50 := by rw [hT4, List.length_append]; simp only [List.length_singleton]; omega
  obtain ⟨e4, s4⟩ := cat_lit T3 46 (by omega)
  rw [← hT4] at e4
  have HT4 := Lib.hid hT4
  clear hT4
  obtain ⟨T5, hT5⟩ : ∃ T, T = T4 ++ X4 := ⟨_, rfl⟩
  have lT5 : T5.length ≤ 69 := by rw [hT5, List.length_append]; omega
  obtain ⟨e5, s5⟩ := cat_ok T4 X4 (by omega)
  rw [← hT5] at e5
  have HT5 := Lib.hid hT5
  clear hT5
  have t1 : (c != 1) = false := by rw [bne_eq_false_iff_eq]; exact hc
  have t2 : (ef == 0) = false := by rw [beq_eq_false_iff_ne]; exact he
  have t3 : (ec != 0) = true := by rw [bne_iff_ne]; exact hd
  have hB := Lib.hid hb
  clear hb hc he hd
  obtain rfl := hB.out
  go_enter Tryd.func33, Tryd.ntmps33
  go_wp2_with fail
  refine (up_ok f _).mono ?_
  rintro e wq ⟨rfl, rfl⟩
  go_wp2_with fail
  refine (D1.out _).mono ?_
  rintro e w1 ⟨rfl, hb1⟩
  have H1 := Lib.hid (H0.out.step hb1)
  clear hb1
  have k0 := H1.out.key.cell 0 _ rfl
  have k1 := H1.out.key.cell 1 _ rfl
  have k2 := H1.out.key.cell 2 _ rfl
  have k3 := H1.out.key.cell 3 _ rfl
  have k4 := H1.out.key.cell 4 _ rfl
  have k5 := H1.out.key.cell 5 _ rfl
  go_wp2_with fail
  refine (D5.out _).mono ?_
  rintro e wq ⟨rfl, rfl⟩
  go_wp2_with fail
  refine (up_ok ef _).mono ?_
  rintro e wq ⟨rfl, rfl⟩
  go_wp2_with fail
  refine (D3.out _).mono ?_
  rintro e w2 ⟨rfl, hb2⟩
  have H2 := Lib.hid (H1.out.step hb2)
  clear k0 k1 k2 k3 k4 k5
  clear hb2
  have k0 := H2.out.key.cell 0 _ rfl
  have k1 := H2.out.key.cell 1 _ rfl
  have k2 := H2.out.key.cell 2 _ rfl
  have k3 := H2.out.key.cell 3 _ rfl
  have k4 := H2.out.key.cell 4 _ rfl
  have k5 := H2.out.key.cell 5 _ rfl
  go_wp2_with fail
  refine (up_ok ec _).mono ?_
  rintro e wq ⟨rfl, rfl⟩
  go_wp2_with fail
  refine (D4.out _).mono ?_
  rintro e w3 ⟨rfl, hb3⟩
  have H3 := Lib.hid (H2.out.step hb3)
  clear k0 k1 k2 k3 k4 k5
  clear hb3
  have k0 := H3.out.key.cell 0 _ rfl
  have k1 := H3.out.key.cell 1 _ rfl
  have k2 := H3.out.key.cell 2 _ rfl
  have k3 := H3.out.key.cell 3 _ rfl
  have k4 := H3.out.key.cell 4 _ rfl
  have k5 := H3.out.key.cell 5 _ rfl
  go_wp2_with fail
  go_ret
  exact ⟨by show Ending.returned (.string (bsk T5)) = _; rw [HK.out, HT5.out, HT4.out, HT3.out, HT2.out, HT1.out], H3.out.below⟩
set_option maxHeartbeats 3200000 in
theorem kt_01 (f c ef ec : Int) (m : Nat) (b : Bool) (w : World) (hm : m < 65536) (bf : f ≤ 9223372036854775807) (bc : c ≤ 9223372036854775807) (be : ef ≤ 9223372036854775807) (bd : ec ≤ 9223372036854775807) (hc : ¬ c = 1) (he : ef = 0) : Calls Tryd.prog 33 #[.agg #[.int .i64 f, .int .i64 c, .int .i64 ef, .int .i64 ec, .int .u16 (m : Int), .bool b]] w (RetS w (keyT f c ef ec m b)) := by
  have HK := Lib.hid (show keyT f c ef ec m b = dgT f.toNat ++ [46] ++ dgT c.toNat ++ letS m from by unfold keyT endT; simp [hc, he])
  have H0 := Lib.hid (KtIn.start w f c ef ec m b)
  have L1 := dg19 f (by omega)
  have L2 := dg19 c (by omega)
  have L3 := dg19 ef (by omega)
  have L4 := dg19 ec (by omega)
  have L5 := let10 m
  have D1 := Lib.hid (fun w => decU f (by omega) w)
  have D2 := Lib.hid (fun w => decU c (by omega) w)
  have D3 := Lib.hid (fun w => decU ef (by omega) w)
  have D4 := Lib.hid (fun w => decU ec (by omega) w)
  have D5 := Lib.hid (fun w => letters_ok m hm w)
  generalize letS m = X5 at *
  generalize dgT f.toNat = X1 at *
  generalize dgT c.toNat = X2 at *
  generalize dgT ef.toNat = X3 at *
  generalize dgT ec.toNat = X4 at *
  obtain ⟨T1, hT1⟩ : ∃ T, T = X1 ++ [46] := ⟨_, rfl⟩
  have lT1 : T1.length ≤ 20 := by rw [hT1, List.length_append]; simp only [List.length_singleton]; omega
  obtain ⟨e1, s1⟩ := cat_lit X1 46 (by omega)
  rw [← hT1] at e1
  have HT1 := Lib.hid hT1
  clear hT1
  obtain ⟨T2, hT2⟩ : ∃ T, T = T1 ++ X2 := ⟨_, rfl⟩
  have lT2 : T2.length ≤ 39 := by rw [hT2, List.length_append]; omega
  obtain ⟨e2, s2⟩ := cat_ok T1 X2 (by omega)
  rw [← hT2] at e2
  have HT2 := Lib.hid hT2
  clear hT2
  obtain ⟨T3, hT3⟩ : ∃ T, T = T2 ++ X5 := ⟨_, rfl⟩
  have lT3 : T3.length ≤ 49 := by rw [hT3, List.length_append]; omega
  obtain ⟨e3, s3⟩ := cat_ok T2 X5 (by omega)
  rw [← hT3] at e3
  have HT3 := Lib.hid hT3
  clear hT3
  have t1 : (c != 1) = true := by rw [bne_iff_ne]; exact hc
  have t2 : (ef == 0) = true := by rw [beq_iff_eq]; exact he
  clear hc he
  go_enter Tryd.func33, Tryd.ntmps33
  go_wp2_with fail
  refine (up_ok f _).mono ?_
  rintro e wq ⟨rfl, rfl⟩
  go_wp2_with fail
  refine (D1.out _).mono ?_
  rintro e w1 ⟨rfl, hb1⟩
  have H1 := Lib.hid (H0.out.step hb1)
  clear hb1
  have k0 := H1.out.key.cell 0 _ rfl
  have k1 := H1.out.key.cell 1 _ rfl
  have k2 := H1.out.key.cell 2 _ rfl
  have k3 := H1.out.key.cell 3 _ rfl
  have k4 := H1.out.key.cell 4 _ rfl
  have k5 := H1.out.key.cell 5 _ rfl
  go_wp2_with fail
  refine (up_ok c _).mono ?_
  rintro e wq ⟨rfl, rfl⟩
  go_wp2_with fail
  refine (D2.out _).mono ?_
  rintro e w2 ⟨rfl, hb2⟩
  have H2 := Lib.hid (H1.out.step hb2)
  clear k0 k1 k2 k3 k4 k5
  clear hb2
  have k0 := H2.out.key.cell 0 _ rfl
  have k1 := H2.out.key.cell 1 _ rfl
  have k2 := H2.out.key.cell 2 _ rfl
  have k3 := H2.out.key.cell 3 _ rfl
  have k4 := H2.out.key.cell 4 _ rfl
  have k5 := H2.out.key.cell 5 _ rfl
  go_wp2_with fail
  refine (D5.out _).mono ?_
  rintro e wq ⟨rfl, rfl⟩
  go_wp2_with fail
  go_ret
  exact ⟨by show Ending.returned (.string (bsk T3)) = _; rw [HK.out, HT3.out, HT2.out, HT1.out], H2.out.below⟩
set_option maxHeartbeats 3200000 in
theorem kt_0011 (f c ef ec : Int) (m : Nat) (b : Bool) (w : World) (hm : m < 65536) (bf : f ≤ 9223372036854775807) (bc : c ≤ 9223372036854775807) (be : ef ≤ 9223372036854775807) (bd : ec ≤ 9223372036854775807) (hc : ¬ c = 1) (he : ¬ ef = 0) (hd : ec = 0) (hb : b = true) : Calls Tryd.prog 33 #[.agg #[.int .i64 f, .int .i64 c, .int .i64 ef, .int .i64 ec, .int .u16 (m : Int), .bool b]] w (RetS w (keyT f c ef ec m b)) := by
  have HK := Lib.hid (show keyT f c ef ec m b = dgT f.toNat ++ [46] ++ dgT c.toNat ++ letS m ++ [44] ++ dgT ef.toNat ++ [98] from by unfold keyT endT; simp [hc, he, hd, hb])
  have H0 := Lib.hid (KtIn.start w f c ef ec m b)
  have L1 := dg19 f (by omega)
  have L2 := dg19 c (by omega)
  have L3 := dg19 ef (by omega)
  have L4 := dg19 ec (by omega)
  have L5 := let10 m
  have D1 := Lib.hid (fun w => decU f (by omega) w)
  have D2 := Lib.hid (fun w => decU c (by omega) w)
  have D3 := Lib.hid (fun w => decU ef (by omega) w)
  have D4 := Lib.hid (fun w => decU ec (by omega) w)
  have D5 := Lib.hid (fun w => letters_ok m hm w)
  generalize letS m = X5 at *
  generalize dgT f.toNat = X1 at *
  generalize dgT c.toNat = X2 at *
  generalize dgT ef.toNat = X3 at *
  generalize dgT ec.toNat = X4 at *
  obtain ⟨T1, hT1⟩ : ∃ T, T = X1 ++ [46] := ⟨_, rfl⟩
  have lT1 : T1.length ≤ 20 := by rw [hT1, List.length_append]; simp only [List.length_singleton]; omega
  obtain ⟨e1, s1⟩ := cat_lit X1 46 (by omega)
  rw [← hT1] at e1
  have HT1 := Lib.hid hT1
  clear hT1
  obtain ⟨T2, hT2⟩ : ∃ T, T = T1 ++ X2 := ⟨_, rfl⟩
  have lT2 : T2.length ≤ 39 := by rw [hT2, List.length_append]; omega
  obtain ⟨e2, s2⟩ := cat_ok T1 X2 (by omega)
  rw [← hT2] at e2
  have HT2 := Lib.hid hT2
  clear hT2
  obtain ⟨T3, hT3⟩ : ∃ T, T = T2 ++ X5 := ⟨_, rfl⟩
  have lT3 : T3.length ≤ 49 := by rw [hT3, List.length_append]; omega
  obtain ⟨e3, s3⟩ := cat_ok T2 X5 (by omega)
  rw [← hT3] at e3
  have HT3 := Lib.hid hT3
  clear hT3
  obtain ⟨T4, hT4⟩ : ∃ T, T = T3 ++ [44] := ⟨_, rfl⟩
  have lT4 : T4.length ≤ 50 := by rw [hT4, List.length_append]; simp only [List.length_singleton]; omega
  obtain ⟨e4, s4⟩ := cat_lit T3 44 (by omega)
  rw [← hT4] at e4
  have HT4 := Lib.hid hT4
  clear hT4
  obtain ⟨T5, hT5⟩ : ∃ T, T = T4 ++ X3 := ⟨_, rfl⟩
  have lT5 : T5.length ≤ 69 := by rw [hT5, List.length_append]; omega
  obtain ⟨e5, s5⟩ := cat_ok T4 X3 (by omega)
  rw [← hT5] at e5
  have HT5 := Lib.hid hT5
  clear hT5
  obtain ⟨T6, hT6⟩ : ∃ T, T = T5 ++ [98] := ⟨_, rfl⟩
  have lT6 : T6.length ≤ 70 := by rw [hT6, List.length_append]; simp only [List.length_singleton]; omega
  obtain ⟨e6, s6⟩ := cat_lit T5 98 (by omega)
  rw [← hT6] at e6
  have HT6 := Lib.hid hT6
  clear hT6
  have t1 : (c != 1) = true := by rw [bne_iff_ne]; exact hc
  have t2 : (ef == 0) = false := by rw [beq_eq_false_iff_ne]; exact he
  have t3 : (ec != 0) = false := by rw [bne_eq_false_iff_eq]; exact hd
  have hB := Lib.hid hb
  clear hb hc he hd
  obtain rfl := hB.out
  go_enter Tryd.func33, Tryd.ntmps33
  go_wp2_with fail
  refine (up_ok f _).mono ?_
  rintro e wq ⟨rfl, rfl⟩
  go_wp2_with fail
  refine (D1.out _).mono ?_
  rintro e w1 ⟨rfl, hb1⟩
  have H1 := Lib.hid (H0.out.step hb1)
  clear hb1
  have k0 := H1.out.key.cell 0 _ rfl
  have k1 := H1.out.key.cell 1 _ rfl
  have k2 := H1.out.key.cell 2 _ rfl
  have k3 := H1.out.key.cell 3 _ rfl
  have k4 := H1.out.key.cell 4 _ rfl
  have k5 := H1.out.key.cell 5 _ rfl
  go_wp2_with fail
  refine (up_ok c _).mono ?_
  rintro e wq ⟨rfl, rfl⟩
  go_wp2_with fail
  refine (D2.out _).mono ?_
  rintro e w2 ⟨rfl, hb2⟩
  have H2 := Lib.hid (H1.out.step hb2)
  clear k0 k1 k2 k3 k4 k5
  clear hb2
  have k0 := H2.out.key.cell 0 _ rfl
  have k1 := H2.out.key.cell 1 _ rfl
  have k2 := H2.out.key.cell 2 _ rfl
  have k3 := H2.out.key.cell 3 _ rfl
  have k4 := H2.out.key.cell 4 _ rfl
  have k5 := H2.out.key.cell 5 _ rfl
  go_wp2_with fail
  refine (D5.out _).mono ?_
  rintro e wq ⟨rfl, rfl⟩
  go_wp2_with fail
  refine (up_ok ef _).mono ?_
  rintro e wq ⟨rfl, rfl⟩
  go_wp2_with fail
  refine (D3.out _).mono ?_
  rintro e w3 ⟨rfl, hb3⟩
  have H3 := Lib.hid (H2.out.step hb3)
  clear k0 k1 k2 k3 k4 k5
  clear hb3
  have k0 := H3.out.key.cell 0 _ rfl
  have k1 := H3.out.key.cell 1 _ rfl
  have k2 := H3.out.key.cell 2 _ rfl
  have k3 := H3.out.key.cell 3 _ rfl
  have k4 := H3.out.key.cell 4 _ rfl
  have k5 := H3.out.key.cell 5 _ rfl
  go_wp2_with fail
  go_ret
  exact ⟨by show Ending.returned (.string (bsk T6)) = _; rw [HK.out, HT6.out, HT5.out, HT4.out, HT3.out, HT2.out, HT1.out], H3.out.below⟩
set_option maxHeartbeats 3200000 in
theorem kt_0010 (f c ef ec : Int) (m : Nat) (b : Bool) (w : World) (hm : m < 65536) (bf : f ≤ 9223372036854775807) (bc : c ≤ 9223372036854775807) (be : ef ≤ 9223372036854775807) (bd : ec ≤ 9223372036854775807) (hc : ¬ c = 1) (he : ¬ ef = 0) (hd : ec = 0) (hb : b = false) : Calls Tryd.prog 33 #[.agg #[.int .i64 f, .int .i64 c, .int .i64 ef, .int .i64 ec, .int .u16 (m : Int), .bool b]] w (RetS w (keyT f c ef ec m b)) := by
  have HK := Lib.hid (show keyT f c ef ec m b = dgT f.toNat ++ [46] ++ dgT c.toNat ++ letS m ++ [44] ++ dgT ef.toNat from by unfold keyT endT; simp [hc, he, hd, hb])
  have H0 := Lib.hid (KtIn.start w f c ef ec m b)
  have L1 := dg19 f (by omega)
  have L2 := dg19 c (by omega)
  have L3 := dg19 ef (by omega)
  have L4 := dg19 ec (by omega)
  have L5 := let10 m
  have D1 := Lib.hid (fun w => decU f (by omega) w)
  have D2 := Lib.hid (fun w => decU c (by omega) w)
  have D3 := Lib.hid (fun w => decU ef (by omega) w)
  have D4 := Lib.hid (fun w => decU ec (by omega) w)
  have D5 := Lib.hid (fun w => letters_ok m hm w)
  generalize letS m = X5 at *
  generalize dgT f.toNat = X1 at *
  generalize dgT c.toNat = X2 at *
  generalize dgT ef.toNat = X3 at *
  generalize dgT ec.toNat = X4 at *
  obtain ⟨T1, hT1⟩ : ∃ T, T = X1 ++ [46] := ⟨_, rfl⟩
  have lT1 : T1.length ≤ 20 := by rw [hT1, List.length_append]; simp only [List.length_singleton]; omega
  obtain ⟨e1, s1⟩ := cat_lit X1 46 (by omega)
  rw [← hT1] at e1
  have HT1 := Lib.hid hT1
  clear hT1
  obtain ⟨T2, hT2⟩ : ∃ T, T = T1 ++ X2 := ⟨_, rfl⟩
  have lT2 : T2.length ≤ 39 := by rw [hT2, List.length_append]; omega
  obtain ⟨e2, s2⟩ := cat_ok T1 X2 (by omega)
  rw [← hT2] at e2
  have HT2 := Lib.hid hT2
  clear hT2
  obtain ⟨T3, hT3⟩ : ∃ T, T = T2 ++ X5 := ⟨_, rfl⟩
  have lT3 : T3.length ≤ 49 := by rw [hT3, List.length_append]; omega
  obtain ⟨e3, s3⟩ := cat_ok T2 X5 (by omega)
  rw [← hT3] at e3
  have HT3 := Lib.hid hT3
  clear hT3
  obtain ⟨T4, hT4⟩ : ∃ T, T = T3 ++ [44] := ⟨_, rfl⟩
  have lT4 : T4.length ≤ 50 := by rw [hT4, List.length_append]; simp only [List.length_singleton]; omega
  obtain ⟨e4, s4⟩ := cat_lit T3 44 (by omega)
  rw [← hT4] at e4
  have HT4 := Lib.hid hT4
  clear hT4
  obtain ⟨T5, hT5⟩ : ∃ T, T = T4 ++ X3 := ⟨_, rfl⟩
  have lT5 : T5.length ≤ 69 := by rw [hT5, List.length_append]; omega
  obtain ⟨e5, s5⟩ := cat_ok T4 X3 (by omega)
  rw [← hT5] at e5
  have HT5 := Lib.hid hT5
  clear hT5
  have t1 : (c != 1) = true := by rw [bne_iff_ne]; exact hc
  have t2 : (ef == 0) = false := by rw [beq_eq_false_iff_ne]; exact he
  have t3 : (ec != 0) = false := by rw [bne_eq_false_iff_eq]; exact hd
  have hB := Lib.hid hb
  clear hb hc he hd
  obtain rfl := hB.out
  go_enter Tryd.func33, Tryd.ntmps33
  go_wp2_with fail
  refine (up_ok f _).mono ?_
  rintro e wq ⟨rfl, rfl⟩
  go_wp2_with fail
  refine (D1.out _).mono ?_
  rintro e w1 ⟨rfl, hb1⟩
  have H1 := Lib.hid (H0.out.step hb1)
  clear hb1
  have k0 := H1.out.key.cell 0 _ rfl
  have k1 := H1.out.key.cell 1 _ rfl
  have k2 := H1.out.key.cell 2 _ rfl
  have k3 := H1.out.key.cell 3 _ rfl
  have k4 := H1.out.key.cell 4 _ rfl
  have k5 := H1.out.key.cell 5 _ rfl
  go_wp2_with fail
  refine (up_ok c _).mono ?_
  rintro e wq ⟨rfl, rfl⟩
  go_wp2_with fail
  refine (D2.out _).mono ?_
  rintro e w2 ⟨rfl, hb2⟩
  have H2 := Lib.hid (H1.out.step hb2)
  clear k0 k1 k2 k3 k4 k5
  clear hb2
  have k0 := H2.out.key.cell 0 _ rfl
  have k1 := H2.out.key.cell 1 _ rfl
  have k2 := H2.out.key.cell 2 _ rfl
  have k3 := H2.out.key.cell 3 _ rfl
  have k4 := H2.out.key.cell 4 _ rfl
  have k5 := H2.out.key.cell 5 _ rfl
  go_wp2_with fail
  refine (D5.out _).mono ?_
  rintro e wq ⟨rfl, rfl⟩
  go_wp2_with fail
  refine (up_ok ef _).mono ?_
  rintro e wq ⟨rfl, rfl⟩
  go_wp2_with fail
  refine (D3.out _).mono ?_
  rintro e w3 ⟨rfl, hb3⟩
  have H3 := Lib.hid (H2.out.step hb3)
  clear k0 k1 k2 k3 k4 k5
  clear hb3
  have k0 := H3.out.key.cell 0 _ rfl
  have k1 := H3.out.key.cell 1 _ rfl
  have k2 := H3.out.key.cell 2 _ rfl
  have k3 := H3.out.key.cell 3 _ rfl
  have k4 := H3.out.key.cell 4 _ rfl
  have k5 := H3.out.key.cell 5 _ rfl
  go_wp2_with fail
  go_ret
  exact ⟨by show Ending.returned (.string (bsk T5)) = _; rw [HK.out, HT5.out, HT4.out, HT3.out, HT2.out, HT1.out], H3.out.below⟩
set_option maxHeartbeats 3200000 in
theorem kt_0001 (f c ef ec : Int) (m : Nat) (b : Bool) (w : World) (hm : m < 65536) (bf : f ≤ 9223372036854775807) (bc : c ≤ 9223372036854775807) (be : ef ≤ 9223372036854775807) (bd : ec ≤ 9223372036854775807) (hc : ¬ c = 1) (he : ¬ ef = 0) (hd : ¬ ec = 0) (hb : b = true) : Calls Tryd.prog 33 #[.agg #[.int .i64 f, .int .i64 c, .int .i64 ef, .int .i64 ec, .int .u16 (m : Int), .bool b]] w (RetS w (keyT f c ef ec m b)) := by
  have HK := Lib.hid (show keyT f c ef ec m b = dgT f.toNat ++ [46] ++ dgT c.toNat ++ letS m ++ [44] ++ dgT ef.toNat ++ [46] ++ dgT ec.toNat ++ [98] from by unfold keyT endT; simp [hc, he, hd, hb])
  have H0 := Lib.hid (KtIn.start w f c ef ec m b)
  have L1 := dg19 f (by omega)
  have L2 := dg19 c (by omega)
  have L3 := dg19 ef (by omega)
  have L4 := dg19 ec (by omega)
  have L5 := let10 m
  have D1 := Lib.hid (fun w => decU f (by omega) w)
  have D2 := Lib.hid (fun w => decU c (by omega) w)
  have D3 := Lib.hid (fun w => decU ef (by omega) w)
  have D4 := Lib.hid (fun w => decU ec (by omega) w)
  have D5 := Lib.hid (fun w => letters_ok m hm w)
  generalize letS m = X5 at *
  generalize dgT f.toNat = X1 at *
  generalize dgT c.toNat = X2 at *
  generalize dgT ef.toNat = X3 at *
  generalize dgT ec.toNat = X4 at *
  obtain ⟨T1, hT1⟩ : ∃ T, T = X1 ++ [46] := ⟨_, rfl⟩
  have lT1 : T1.length ≤ 20 := by rw [hT1, List.length_append]; simp only [List.length_singleton]; omega
  obtain ⟨e1, s1⟩ := cat_lit X1 46 (by omega)
  rw [← hT1] at e1
  have HT1 := Lib.hid hT1
  clear hT1
  obtain ⟨T2, hT2⟩ : ∃ T, T = T1 ++ X2 := ⟨_, rfl⟩
  have lT2 : T2.length ≤ 39 := by rw [hT2, List.length_append]; omega
  obtain ⟨e2, s2⟩ := cat_ok T1 X2 (by omega)
  rw [← hT2] at e2
  have HT2 := Lib.hid hT2
  clear hT2
  obtain ⟨T3, hT3⟩ : ∃ T, T = T2 ++ X5 := ⟨_, rfl⟩
  have lT3 : T3.length ≤ 49 := by rw [hT3, List.length_append]; omega
  obtain ⟨e3, s3⟩ := cat_ok T2 X5 (by omega)
  rw [← hT3] at e3
  have HT3 := Lib.hid hT3
  clear hT3
  obtain ⟨T4, hT4⟩ : ∃ T, T = T3 ++ [44] := ⟨_, rfl⟩
  have lT4 : T4.length ≤ 50 := by rw [hT4, List.length_append]; simp only [List.length_singleton]; omega
  obtain ⟨e4, s4⟩ := cat_lit T3 44 (by omega)
  rw [← hT4] at e4
  have HT4 := Lib.hid hT4
  clear hT4
  obtain ⟨T5, hT5⟩ : ∃ T, T = T4 ++ X3 := ⟨_, rfl⟩
  have lT5 : T5.length ≤ 69 := by rw [hT5, List.length_append]; omega
  obtain ⟨e5, s5⟩ := cat_ok T4 X3 (by omega)
  rw [← hT5] at e5
  have HT5 := Lib.hid hT5
  clear hT5
  obtain ⟨T6, hT6⟩ : ∃ T, T = T5 ++ [46] := ⟨_, rfl⟩
  have lT6 : T6.length ≤ 70 := by rw [hT6, List.length_append]; simp only [List.length_singleton]; omega
  obtain ⟨e6, s6⟩ := cat_lit T5 46 (by omega)
  rw [← hT6] at e6
  have HT6 := Lib.hid hT6
  clear hT6
  obtain ⟨T7, hT7⟩ : ∃ T, T = T6 ++ X4 := ⟨_, rfl⟩
  have lT7 : T7.length ≤ 89 := by rw [hT7, List.length_append]; omega
  obtain ⟨e7, s7⟩ := cat_ok T6 X4 (by omega)
  rw [← hT7] at e7
  have HT7 := Lib.hid hT7
  clear hT7
  obtain ⟨T8, hT8⟩ : ∃ T, T = T7 ++ [98] := ⟨_, rfl⟩
  have lT8 : T8.length ≤ 90 := by rw [hT8, List.length_append]; simp only [List.length_singleton]; omega
  obtain ⟨e8, s8⟩ := cat_lit T7 98 (by omega)
  rw [← hT8] at e8
  have HT8 := Lib.hid hT8
  clear hT8
  have t1 : (c != 1) = true := by rw [bne_iff_ne]; exact hc
  have t2 : (ef == 0) = false := by rw [beq_eq_false_iff_ne]; exact he
  have t3 : (ec != 0) = true := by rw [bne_iff_ne]; exact hd
  have hB := Lib.hid hb
  clear hb hc he hd
  obtain rfl := hB.out
  go_enter Tryd.func33, Tryd.ntmps33
  go_wp2_with fail
  refine (up_ok f _).mono ?_
  rintro e wq ⟨rfl, rfl⟩
  go_wp2_with fail
  refine (D1.out _).mono ?_
  rintro e w1 ⟨rfl, hb1⟩
  have H1 := Lib.hid (H0.out.step hb1)
  clear hb1
  have k0 := H1.out.key.cell 0 _ rfl
  have k1 := H1.out.key.cell 1 _ rfl
  have k2 := H1.out.key.cell 2 _ rfl
  have k3 := H1.out.key.cell 3 _ rfl
  have k4 := H1.out.key.cell 4 _ rfl
  have k5 := H1.out.key.cell 5 _ rfl
  go_wp2_with fail
  refine (up_ok c _).mono ?_
  rintro e wq ⟨rfl, rfl⟩
  go_wp2_with fail
  refine (D2.out _).mono ?_
  rintro e w2 ⟨rfl, hb2⟩
  have H2 := Lib.hid (H1.out.step hb2)
  clear k0 k1 k2 k3 k4 k5
  clear hb2
  have k0 := H2.out.key.cell 0 _ rfl
  have k1 := H2.out.key.cell 1 _ rfl
  have k2 := H2.out.key.cell 2 _ rfl
  have k3 := H2.out.key.cell 3 _ rfl
  have k4 := H2.out.key.cell 4 _ rfl
  have k5 := H2.out.key.cell 5 _ rfl
  go_wp2_with fail
  refine (D5.out _).mono ?_
  rintro e wq ⟨rfl, rfl⟩
  go_wp2_with fail
  refine (up_ok ef _).mono ?_
  rintro e wq ⟨rfl, rfl⟩
  go_wp2_with fail
  refine (D3.out _).mono ?_
  rintro e w3 ⟨rfl, hb3⟩
  have H3 := Lib.hid (H2.out.step hb3)
  clear k0 k1 k2 k3 k4 k5
  clear hb3
  have k0 := H3.out.key.cell 0 _ rfl
  have k1 := H3.out.key.cell 1 _ rfl
  have k2 := H3.out.key.cell 2 _ rfl
  have k3 := H3.out.key.cell 3 _ rfl
  have k4 := H3.out.key.cell 4 _ rfl
  have k5 := H3.out.key.cell 5 _ rfl
  go_wp2_with fail
  refine (up_ok ec _).mono ?_
  rintro e wq ⟨rfl, rfl⟩
  go_wp2_with fail
  refine (D4.out _).mono ?_
  rintro e w4 ⟨rfl, hb4⟩
  have H4 := Lib.hid (H3.out.step hb4)
  clear k0 k1 k2 k3 k4 k5
  clear hb4
  have k0 := H4.out.key.cell 0 _ rfl
  have k1 := H4.out.key.cell 1 _ rfl
  have k2 := H4.out.key.cell 2 _ rfl
  have k3 := H4.out.key.cell 3 _ rfl
  have k4 := H4.out.key.cell 4 _ rfl
  have k5 := H4.out.key.cell 5 _ rfl
  go_wp2_with fail
  go_ret
  exact ⟨by show Ending.returned (.string (bsk T8)) = _; rw [HK.out, HT8.out, HT7.out, HT6.out, HT5.out, HT4.out, HT3.out, HT2.out, HT1.out], H4.out.below⟩
set_option maxHeartbeats 3200000 in
theorem kt_0000 (f c ef ec : Int) (m : Nat) (b : Bool) (w : World) (hm : m < 65536) (bf : f ≤ 9223372036854775807) (bc : c ≤ 9223372036854775807) (be : ef ≤ 9223372036854775807) (bd : ec ≤ 9223372036854775807) (hc : ¬ c = 1) (he : ¬ ef = 0) (hd : ¬ ec = 0) (hb : b = false) : Calls Tryd.prog 33 #[.agg #[.int .i64 f, .int .i64 c, .int .i64 ef, .int .i64 ec, .int .u16 (m : Int), .bool b]] w (RetS w (keyT f c ef ec m b)) := by
  have HK := Lib.hid (show keyT f c ef ec m b = dgT f.toNat ++ [46] ++ dgT c.toNat ++ letS m ++ [44] ++ dgT ef.toNat ++ [46] ++ dgT ec.toNat from by unfold keyT endT; simp [hc, he, hd, hb])
  have H0 := Lib.hid (KtIn.start w f c ef ec m b)
  have L1 := dg19 f (by omega)
  have L2 := dg19 c (by omega)
  have L3 := dg19 ef (by omega)
  have L4 := dg19 ec (by omega)
  have L5 := let10 m
  have D1 := Lib.hid (fun w => decU f (by omega) w)
  have D2 := Lib.hid (fun w => decU c (by omega) w)
  have D3 := Lib.hid (fun w => decU ef (by omega) w)
  have D4 := Lib.hid (fun w => decU ec (by omega) w)
  have D5 := Lib.hid (fun w => letters_ok m hm w)
  generalize letS m = X5 at *
  generalize dgT f.toNat = X1 at *
  generalize dgT c.toNat = X2 at *
  generalize dgT ef.toNat = X3 at *
  generalize dgT ec.toNat = X4 at *
  obtain ⟨T1, hT1⟩ : ∃ T, T = X1 ++ [46] := ⟨_, rfl⟩
  have lT1 : T1.length ≤ 20 := by rw [hT1, List.length_append]; simp only [List.length_singleton]; omega
  obtain ⟨e1, s1⟩ := cat_lit X1 46 (by omega)
  rw [← hT1] at e1
  have HT1 := Lib.hid hT1
  clear hT1
  obtain ⟨T2, hT2⟩ : ∃ T, T = T1 ++ X2 := ⟨_, rfl⟩
  have lT2 : T2.length ≤ 39 := by rw [hT2, List.length_append]; omega
  obtain ⟨e2, s2⟩ := cat_ok T1 X2 (by omega)
  rw [← hT2] at e2
  have HT2 := Lib.hid hT2
  clear hT2
  obtain ⟨T3, hT3⟩ : ∃ T, T = T2 ++ X5 := ⟨_, rfl⟩
  have lT3 : T3.length ≤ 49 := by rw [hT3, List.length_append]; omega
  obtain ⟨e3, s3⟩ := cat_ok T2 X5 (by omega)
  rw [← hT3] at e3
  have HT3 := Lib.hid hT3
  clear hT3
  obtain ⟨T4, hT4⟩ : ∃ T, T = T3 ++ [44] := ⟨_, rfl⟩
  have lT4 : T4.length ≤ 50 := by rw [hT4, List.length_append]; simp only [List.length_singleton]; omega
  obtain ⟨e4, s4⟩ := cat_lit T3 44 (by omega)
  rw [← hT4] at e4
  have HT4 := Lib.hid hT4
  clear hT4
  obtain ⟨T5, hT5⟩ : ∃ T, T = T4 ++ X3 := ⟨_, rfl⟩
  have lT5 : T5.length ≤ 69 := by rw [hT5, List.length_append]; omega
  obtain ⟨e5, s5⟩ := cat_ok T4 X3 (by omega)
  rw [← hT5] at e5
  have HT5 := Lib.hid hT5
  clear hT5
  obtain ⟨T6, hT6⟩ : ∃ T, T = T5 ++ [46] := ⟨_, rfl⟩
  have lT6 : T6.length ≤ 70 := by rw [hT6, List.length_append]; simp only [List.length_singleton]; omega
  obtain ⟨e6, s6⟩ := cat_lit T5 46 (by omega)
  rw [← hT6] at e6
  have HT6 := Lib.hid hT6
  clear hT6
  obtain ⟨T7, hT7⟩ : ∃ T, T = T6 ++ X4 := ⟨_, rfl⟩
  have lT7 : T7.length ≤ 89 := by rw [hT7, List.length_append]; omega
  obtain ⟨e7, s7⟩ := cat_ok T6 X4 (by omega)
  rw [← hT7] at e7
  have HT7 := Lib.hid hT7
  clear hT7
  have t1 : (c != 1) = true := by rw [bne_iff_ne]; exact hc
  have t2 : (ef == 0) = false := by rw [beq_eq_false_iff_ne]; exact he
  have t3 : (ec != 0) = true := by rw [bne_iff_ne]; exact hd
  have hB := Lib.hid hb
  clear hb hc he hd
  obtain rfl := hB.out
  go_enter Tryd.func33, Tryd.ntmps33
  go_wp2_with fail
  refine (up_ok f _).mono ?_
  rintro e wq ⟨rfl, rfl⟩
  go_wp2_with fail
  refine (D1.out _).mono ?_
  rintro e w1 ⟨rfl, hb1⟩
  have H1 := Lib.hid (H0.out.step hb1)
  clear hb1
  have k0 := H1.out.key.cell 0 _ rfl
  have k1 := H1.out.key.cell 1 _ rfl
  have k2 := H1.out.key.cell 2 _ rfl
  have k3 := H1.out.key.cell 3 _ rfl
  have k4 := H1.out.key.cell 4 _ rfl
  have k5 := H1.out.key.cell 5 _ rfl
  go_wp2_with fail
  refine (up_ok c _).mono ?_
  rintro e wq ⟨rfl, rfl⟩
  go_wp2_with fail
  refine (D2.out _).mono ?_
  rintro e w2 ⟨rfl, hb2⟩
  have H2 := Lib.hid (H1.out.step hb2)
  clear k0 k1 k2 k3 k4 k5
  clear hb2
  have k0 := H2.out.key.cell 0 _ rfl
  have k1 := H2.out.key.cell 1 _ rfl
  have k2 := H2.out.key.cell 2 _ rfl
  have k3 := H2.out.key.cell 3 _ rfl
  have k4 := H2.out.key.cell 4 _ rfl
  have k5 := H2.out.key.cell 5 _ rfl
  go_wp2_with fail
  refine (D5.out _).mono ?_
  rintro e wq ⟨rfl, rfl⟩
  go_wp2_with fail
  refine (up_ok ef _).mono ?_
  rintro e wq ⟨rfl, rfl⟩
  go_wp2_with fail
  refine (D3.out _).mono ?_
  rintro e w3 ⟨rfl, hb3⟩
  have H3 := Lib.hid (H2.out.step hb3)
  clear k0 k1 k2 k3 k4 k5
  clear hb3
  have k0 := H3.out.key.cell 0 _ rfl
  have k1 := H3.out.key.cell 1 _ rfl
  have k2 := H3.out.key.cell 2 _ rfl
  have k3 := H3.out.key.cell 3 _ rfl
  have k4 := H3.out.key.cell 4 _ rfl
  have k5 := H3.out.key.cell 5 _ rfl
  go_wp2_with fail
  refine (up_ok ec _).mono ?_
  rintro e wq ⟨rfl, rfl⟩
  go_wp2_with fail
  refine (D4.out _).mono ?_
  rintro e w4 ⟨rfl, hb4⟩
  have H4 := Lib.hid (H3.out.step hb4)
  clear k0 k1 k2 k3 k4 k5
  clear hb4
  have k0 := H4.out.key.cell 0 _ rfl
  have k1 := H4.out.key.cell 1 _ rfl
  have k2 := H4.out.key.cell 2 _ rfl
  have k3 := H4.out.key.cell 3 _ rfl
  have k4 := H4.out.key.cell 4 _ rfl
  have k5 := H4.out.key.cell 5 _ rfl
  go_wp2_with fail
  go_ret
  exact ⟨by show Ending.returned (.string (bsk T7)) = _; rw [HK.out, HT7.out, HT6.out, HT5.out, HT4.out, HT3.out, HT2.out, HT1.out], H4.out.below⟩
theorem kt_ok (f c ef ec : Int) (m : Nat) (b : Bool) (w : World) (hm : m < 65536) (bf : f ≤ 9223372036854775807) (bc : c ≤ 9223372036854775807) (be : ef ≤ 9223372036854775807) (bd : ec ≤ 9223372036854775807) : Calls Tryd.prog 33 #[.agg #[.int .i64 f, .int .i64 c, .int .i64 ef, .int .i64 ec, .int .u16 (m : Int), .bool b]] w (RetS w (keyT f c ef ec m b)) := by
  by_cases hc : c = 1
  · by_cases he : ef = 0
    · exact kt_11 f c ef ec m b w hm bf bc be bd hc he
    · by_cases hd : ec = 0
      · cases b
        · exact kt_1010 f c ef ec m false w hm bf bc be bd hc he hd rfl
        · exact kt_1011 f c ef ec m true w hm bf bc be bd hc he hd rfl
      · cases b
        · exact kt_1000 f c ef ec m false w hm bf bc be bd hc he hd rfl
        · exact kt_1001 f c ef ec m true w hm bf bc be bd hc he hd rfl
  · by_cases he : ef = 0
    · exact kt_01 f c ef ec m b w hm bf bc be bd hc he
    · by_cases hd : ec = 0
      · cases b
        · exact kt_0010 f c ef ec m false w hm bf bc be bd hc he hd rfl
        · exact kt_0011 f c ef ec m true w hm bf bc be bd hc he hd rfl
      · cases b
        · exact kt_0000 f c ef ec m false w hm bf bc be bd hc he hd rfl
        · exact kt_0001 f c ef ec m true w hm bf bc be bd hc he hd rfl
end Go.Proofs.YtbgbmojoldkcfaaDoor
