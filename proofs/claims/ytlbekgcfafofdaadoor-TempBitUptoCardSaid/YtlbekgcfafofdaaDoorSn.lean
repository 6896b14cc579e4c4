/- The document's seems, by kinds. -/
import Derived.Test.YtlbekgcfafofdaaDoorSb
namespace Go.Proofs.YtlbekgcfafofdaaDoor
open Go.RowKit
set_option maxRecDepth 100000

set_option maxHeartbeats 2400000 in
theorem seems1_ok (w : World) (v0 : Value) (b : List UInt8) (h0 : SlC w v0 b) (hbl : b.length ≤ 70000) (hk : valB ((b ++ zs 400).take 1) = 1) : Calls Tryd.prog 45 #[v0] w (SeP w (b ++ zs 400)) := by
  have R1 := CellsAt.new w [.int .u8 0, .int .u64 0, .string ⟨#[]⟩, .int .i64 0, .int .i64 0, .int .i64 0, .int .u32 0, .slice none 0 0] 27
  have T0 : Stp w (w.alloc (.cells #[.int .u8 0, .int .u64 0, .string ⟨#[]⟩, .int .i64 0, .int .i64 0, .int .i64 0, .int .u32 0, .slice none 0 0] 27)) := inferInstance
  have S1 := Lib.hid (h0.below T0.h)
  have HBL := Lib.hid hbl
  have HK := Lib.hid hk
  clear h0 hbl hk
  go_enter Tryd.func45, Tryd.ntmps45
  go_upto_region 1 with fail
  change CellsAt (w.alloc (.cells #[.int .u8 0, .int .u64 0, .string ⟨#[]⟩, .int .i64 0, .int .i64 0, .int .i64 0, .int .u32 0, .slice none 0 0] 27)) _ _ at R1
  generalize w.alloc (.cells #[.int .u8 0, .int .u64 0, .string ⟨#[]⟩, .int .i64 0, .int .i64 0, .int .i64 0, .int .u32 0, .slice none 0 0] 27) = w1 at *
  go_wp2_with (refine wp_mkz rfl _ _ rfl 400 (by omega) rfl rfl ?_)
  intro v2 w2 O2 B2
  have T2 : Stp w1 w2 := ⟨B2⟩
  have J := Lib.hid (joinc_ok v0 v2 b (zs 400) w2 (S1.out.below B2).sl O2.sl (by have := HBL.out; rw [zs_len]; omega) (by intro h; have := congrArg List.length h; rw [zs_len] at this; simp at this))
  clear S1 O2 B2
  go_wp2_with fail
  refine J.out.mono ?_
  rintro e w3 ⟨fb, fo, fc, rfl, SF, B3, _⟩
  have T3 : Stp w2 w3 := ⟨B3⟩
  clear J B3
  have hF1 : 400 ≤ (b ++ zs 400).length := by rw [List.length_append, zs_len]; omega
  have hF2 : (b ++ zs 400).length ≤ 70400 := by have := HBL.out; rw [List.length_append, zs_len]; omega
  generalize (b ++ zs 400) = F at *
  obtain ⟨_, hmc, hc63, _, _⟩ := SF.lens
  have L0 := slc_byte SF 0 (by omega)
  rw [Nat.add_zero, seg_zero, HK.out] at L0
  have HSF := Lib.hid SF
  clear SF
  obtain ⟨m, hm⟩ : ∃ m, m = F.length := ⟨_, rfl⟩
  rw [← hm] at hmc hF1 hF2 HSF ⊢
  have HM := Lib.hid hm
  clear hm
  have im : (400 : Int) ≤ (m : Int) := by omega
  have ic : (400 : Int) ≤ (fc : Int) := by omega
  have T4 : Stp w3 (w3.alloc (.cells #[.int .u8 1, .int .u64 0, .string ⟨#[]⟩, .int .i64 0, .int .i64 0, .int .i64 0, .int .u32 0, .slice none 0 0] 27)) := inferInstance
  have R4 : CellsAt (w3.alloc (.cells #[.int .u8 1, .int .u64 0, .string ⟨#[]⟩, .int .i64 0, .int .i64 0, .int .i64 0, .int .u32 0, .slice none 0 0] 27)) w.heap.size [.int .u8 0, .int .u64 0, .string ⟨#[]⟩, .int .i64 0, .int .i64 0, .int .i64 0, .int .u32 0, .slice none 0 0] := CellsAt.gr R1
  have hwp : w.heap.size < w3.heap.size := Nat.lt_of_lt_of_le R1.lt (inferInstance : Gr w1 w3).h.size
  have hpf : w3.heap.size ≠ fb := by obtain ⟨_, _, _, hlt, _⟩ := HSF.out.lens; omega
  have I4 : SeAt w F fb fo m fc w3.heap.size [.int .u8 1, .int .u64 0, .string ⟨#[]⟩, .int .i64 0, .int .i64 0, .int .i64 0, .int .u32 0, .slice none 0 0] (w3.alloc (.cells #[.int .u8 1, .int .u64 0, .string ⟨#[]⟩, .int .i64 0, .int .i64 0, .int .i64 0, .int .u32 0, .slice none 0 0] 27)) := ⟨CellsAt.new w3 _ 27, R4, HSF.out.below T4.h, hwp, hpf, (inferInstance : Gr w _).h⟩
  have L4 : (w3.alloc (.cells #[.int .u8 1, .int .u64 0, .string ⟨#[]⟩, .int .i64 0, .int .i64 0, .int .i64 0, .int .u32 0, .slice none 0 0] 27)).cell? ⟨fb, fo, none⟩ = some (.int .u8 1) := by have := slc_byte I4.S 0 (by have := HM.out; omega); rw [Nat.add_zero, seg_zero, HK.out] at this; exact this
  have HI := Lib.hid I4
  clear I4 R4 R1 hwp hpf HSF T0
  go_upto_region 3 with fail
  generalize (w3.alloc (.cells #[.int .u8 1, .int .u64 0, .string ⟨#[]⟩, .int .i64 0, .int .i64 0, .int .i64 0, .int .u32 0, .slice none 0 0] 27)) = w4 at *
  clear T4 T3 T2 L0
  obtain ⟨p, hp⟩ : ∃ p, p = w3.heap.size := ⟨_, rfl⟩
  rw [← hp] at HI ⊢
  clear hp
  have i9 : (9 : Int) ≤ (fc : Int) := by omega
  have i1 : ¬ fc = 1 := by omega
  have NV := Lib.hid (value_ok _ _ w4 (by rw [seg_len (by have := HM.out; omega)]; omega) (HI.out.S.seg 1 8 (by have := HM.out; omega) (by omega)).sl)
  obtain ⟨pr, hpr⟩ : ∃ pr, pr = valB (seg F 1 8) := ⟨_, rfl⟩
  rw [← hpr] at NV
  have HPR := Lib.hid hpr
  clear hpr
  have x0 := (HI.out).X.cell 0 _ rfl
  have g0 := (HI.out).X.free 0
  have x1 := (HI.out).X.cell 1 _ rfl
  have g1 := (HI.out).X.free 1
  have x2 := (HI.out).X.cell 2 _ rfl
  have g2 := (HI.out).X.free 2
  have x3 := (HI.out).X.cell 3 _ rfl
  have g3 := (HI.out).X.free 3
  have x4 := (HI.out).X.cell 4 _ rfl
  have g4 := (HI.out).X.free 4
  have x5 := (HI.out).X.cell 5 _ rfl
  have g5 := (HI.out).X.free 5
  have x6 := (HI.out).X.cell 6 _ rfl
  have g6 := (HI.out).X.free 6
  have x7 := (HI.out).X.cell 7 _ rfl
  have g7 := (HI.out).X.free 7
  have r0 := (HI.out).R.cell 0 _ rfl
  have f0 := (HI.out).R.free 0
  have r1 := (HI.out).R.cell 1 _ rfl
  have f1 := (HI.out).R.free 1
  have r2 := (HI.out).R.cell 2 _ rfl
  have f2 := (HI.out).R.free 2
  have r3 := (HI.out).R.cell 3 _ rfl
  have f3 := (HI.out).R.free 3
  have r4 := (HI.out).R.cell 4 _ rfl
  have f4 := (HI.out).R.free 4
  have r5 := (HI.out).R.cell 5 _ rfl
  have f5 := (HI.out).R.free 5
  have r6 := (HI.out).R.cell 6 _ rfl
  have f6 := (HI.out).R.free 6
  have r7 := (HI.out).R.cell 7 _ rfl
  have f7 := (HI.out).R.free 7
  go_wp2_with fail
  with_reducible refine NV.out.mono ?_
  rintro e w9 ⟨rfl, rfl⟩
  clear NV
  have J1 := Lib.hid ((HI.out).put 1 (.int .u64 (pr : Int)) (by simp))
  simp only [List.set_cons_succ, List.set_cons_zero] at J1
  go_upto_region 6 with fail
  clear L4
  clear x0 g0 r0 f0
  clear x1 g1 r1 f1
  clear x2 g2 r2 f2
  clear x3 g3 r3 f3
  clear x4 g4 r4 f4
  clear x5 g5 r5 f5
  clear x6 g6 r6 f6
  clear x7 g7 r7 f7
  generalize w4.setCell ⟨p, 1, none⟩ (.int .u64 (pr : Int)) = w5 at *
  have x0 := (J1.out).X.cell 0 _ rfl
  have g0 := (J1.out).X.free 0
  have x1 := (J1.out).X.cell 1 _ rfl
  have g1 := (J1.out).X.free 1
  have x2 := (J1.out).X.cell 2 _ rfl
  have g2 := (J1.out).X.free 2
  have x3 := (J1.out).X.cell 3 _ rfl
  have g3 := (J1.out).X.free 3
  have x4 := (J1.out).X.cell 4 _ rfl
  have g4 := (J1.out).X.free 4
  have x5 := (J1.out).X.cell 5 _ rfl
  have g5 := (J1.out).X.free 5
  have x6 := (J1.out).X.cell 6 _ rfl
  have g6 := (J1.out).X.free 6
  have x7 := (J1.out).X.cell 7 _ rfl
  have g7 := (J1.out).X.free 7
  have r0 := (J1.out).R.cell 0 _ rfl
  have f0 := (J1.out).R.free 0
  have r1 := (J1.out).R.cell 1 _ rfl
  have f1 := (J1.out).R.free 1
  have r2 := (J1.out).R.cell 2 _ rfl
  have f2 := (J1.out).R.free 2
  have r3 := (J1.out).R.cell 3 _ rfl
  have f3 := (J1.out).R.free 3
  have r4 := (J1.out).R.cell 4 _ rfl
  have f4 := (J1.out).R.free 4
  have r5 := (J1.out).R.cell 5 _ rfl
  have f5 := (J1.out).R.free 5
  have r6 := (J1.out).R.cell 6 _ rfl
  have f6 := (J1.out).R.free 6
  have r7 := (J1.out).R.cell 7 _ rfl
  have f7 := (J1.out).R.free 7
  have ES := Lib.hid ((J1.out).R.set8 (.int .u8 1) (.int .u64 (pr : Int)) (.string ⟨#[]⟩) (.int .i64 0) (.int .i64 0) (.int .i64 0) (.int .u32 0) (.slice none 0 0))
  have BS := Lib.hid (below_set8 (J1.out).B (Nat.le_refl _) (.int .u8 1) (.int .u64 (pr : Int)) (.string ⟨#[]⟩) (.int .i64 0) (.int .i64 0) (.int .i64 0) (.int .u32 0) (.slice none 0 0))
  go_wp2_with fail
  refine ent_end45 rfl rfl ES.out ?_
  have hX : parX F = ⟨1, pr, [], 0, 0, 0, 0, []⟩ := by unfold parX; simp only [HK.out, if_pos]; rw [HPR.out]
  unfold SeP
  rw [hX]
  exact ⟨.slice none 0 0, rfl, OwnIB.nil _ _ BS.out.size, BS.out⟩
set_option maxHeartbeats 2400000 in
theorem seems0_ok (w : World) (v0 : Value) (b : List UInt8) (h0 : SlC w v0 b) (hbl : b.length ≤ 70000) (k : Nat) (hk : valB ((b ++ zs 400).take 1) = k) (h1 : k ≠ 1) (h2 : k ≠ 2) (h3 : k ≠ 3) (h5 : k ≠ 5) : Calls Tryd.prog 45 #[v0] w (SeP w (b ++ zs 400)) := by
  have R1 := CellsAt.new w [.int .u8 0, .int .u64 0, .string ⟨#[]⟩, .int .i64 0, .int .i64 0, .int .i64 0, .int .u32 0, .slice none 0 0] 27
  have T0 : Stp w (w.alloc (.cells #[.int .u8 0, .int .u64 0, .string ⟨#[]⟩, .int .i64 0, .int .i64 0, .int .i64 0, .int .u32 0, .slice none 0 0] 27)) := inferInstance
  have S1 := Lib.hid (h0.below T0.h)
  have HBL := Lib.hid hbl
  have hk255 : k ≤ 255 := by have := seg_lt (b ++ zs 400) 0; rw [seg_zero, hk] at this; omega
  have ki : (k : Int) ≤ 255 := by omega
  have q1 : ((k : Int) == 1) = false := by simp; omega
  have p1 : ((k : Int) != 1) = true := by simp; omega
  have q2 : ((k : Int) == 2) = false := by simp; omega
  have p2 : ((k : Int) != 2) = true := by simp; omega
  have q3 : ((k : Int) == 3) = false := by simp; omega
  have p3 : ((k : Int) != 3) = true := by simp; omega
  have q5 : ((k : Int) == 5) = false := by simp; omega
  have p5 : ((k : Int) != 5) = true := by simp; omega
  clear hk255
  have HK := Lib.hid hk
  clear h0 hbl hk
  go_enter Tryd.func45, Tryd.ntmps45
  go_upto_region 1 with fail
  change CellsAt (w.alloc (.cells #[.int .u8 0, .int .u64 0, .string ⟨#[]⟩, .int .i64 0, .int .i64 0, .int .i64 0, .int .u32 0, .slice none 0 0] 27)) _ _ at R1
  generalize w.alloc (.cells #[.int .u8 0, .int .u64 0, .string ⟨#[]⟩, .int .i64 0, .int .i64 0, .int .i64 0, .int .u32 0, .slice none 0 0] 27) = w1 at *
  go_wp2_with (refine wp_mkz rfl _ _ rfl 400 (by omega) rfl rfl ?_)
  intro v2 w2 O2 B2
  have T2 : Stp w1 w2 := ⟨B2⟩
  have J := Lib.hid (joinc_ok v0 v2 b (zs 400) w2 (S1.out.below B2).sl O2.sl (by have := HBL.out; rw [zs_len]; omega) (by intro h; have := congrArg List.length h; rw [zs_len] at this; simp at this))
  clear S1 O2 B2
  go_wp2_with fail
  refine J.out.mono ?_
  rintro e w3 ⟨fb, fo, fc, rfl, SF, B3, _⟩
  have T3 : Stp w2 w3 := ⟨B3⟩
  clear J B3
  have hF1 : 400 ≤ (b ++ zs 400).length := by rw [List.length_append, zs_len]; omega
  have hF2 : (b ++ zs 400).length ≤ 70400 := by have := HBL.out; rw [List.length_append, zs_len]; omega
  generalize (b ++ zs 400) = F at *
  obtain ⟨_, hmc, hc63, _, _⟩ := SF.lens
  have L0 := slc_byte SF 0 (by omega)
  rw [Nat.add_zero, seg_zero, HK.out] at L0
  have HSF := Lib.hid SF
  clear SF
  obtain ⟨m, hm⟩ : ∃ m, m = F.length := ⟨_, rfl⟩
  rw [← hm] at hmc hF1 hF2 HSF ⊢
  have HM := Lib.hid hm
  clear hm
  have im : (400 : Int) ≤ (m : Int) := by omega
  have ic : (400 : Int) ≤ (fc : Int) := by omega
  have T4 : Stp w3 (w3.alloc (.cells #[.int .u8 (k : Int), .int .u64 0, .string ⟨#[]⟩, .int .i64 0, .int .i64 0, .int .i64 0, .int .u32 0, .slice none 0 0] 27)) := inferInstance
  have R4 : CellsAt (w3.alloc (.cells #[.int .u8 (k : Int), .int .u64 0, .string ⟨#[]⟩, .int .i64 0, .int .i64 0, .int .i64 0, .int .u32 0, .slice none 0 0] 27)) w.heap.size [.int .u8 0, .int .u64 0, .string ⟨#[]⟩, .int .i64 0, .int .i64 0, .int .i64 0, .int .u32 0, .slice none 0 0] := CellsAt.gr R1
  have hwp : w.heap.size < w3.heap.size := Nat.lt_of_lt_of_le R1.lt (inferInstance : Gr w1 w3).h.size
  have hpf : w3.heap.size ≠ fb := by obtain ⟨_, _, _, hlt, _⟩ := HSF.out.lens; omega
  have I4 : SeAt w F fb fo m fc w3.heap.size [.int .u8 (k : Int), .int .u64 0, .string ⟨#[]⟩, .int .i64 0, .int .i64 0, .int .i64 0, .int .u32 0, .slice none 0 0] (w3.alloc (.cells #[.int .u8 (k : Int), .int .u64 0, .string ⟨#[]⟩, .int .i64 0, .int .i64 0, .int .i64 0, .int .u32 0, .slice none 0 0] 27)) := ⟨CellsAt.new w3 _ 27, R4, HSF.out.below T4.h, hwp, hpf, (inferInstance : Gr w _).h⟩
  have L4 : (w3.alloc (.cells #[.int .u8 (k : Int), .int .u64 0, .string ⟨#[]⟩, .int .i64 0, .int .i64 0, .int .i64 0, .int .u32 0, .slice none 0 0] 27)).cell? ⟨fb, fo, none⟩ = some (.int .u8 (k : Int)) := by have := slc_byte I4.S 0 (by have := HM.out; omega); rw [Nat.add_zero, seg_zero, HK.out] at this; exact this
  have HI := Lib.hid I4
  clear I4 R4 R1 hwp hpf HSF T0
  go_upto_region 3 with fail
  generalize (w3.alloc (.cells #[.int .u8 (k : Int), .int .u64 0, .string ⟨#[]⟩, .int .i64 0, .int .i64 0, .int .i64 0, .int .u32 0, .slice none 0 0] 27)) = w4 at *
  clear T4 T3 T2 L0
  obtain ⟨p, hp⟩ : ∃ p, p = w3.heap.size := ⟨_, rfl⟩
  rw [← hp] at HI ⊢
  clear hp
  have x0 := (HI.out).X.cell 0 _ rfl
  have g0 := (HI.out).X.free 0
  have x1 := (HI.out).X.cell 1 _ rfl
  have g1 := (HI.out).X.free 1
  have x2 := (HI.out).X.cell 2 _ rfl
  have g2 := (HI.out).X.free 2
  have x3 := (HI.out).X.cell 3 _ rfl
  have g3 := (HI.out).X.free 3
  have x4 := (HI.out).X.cell 4 _ rfl
  have g4 := (HI.out).X.free 4
  have x5 := (HI.out).X.cell 5 _ rfl
  have g5 := (HI.out).X.free 5
  have x6 := (HI.out).X.cell 6 _ rfl
  have g6 := (HI.out).X.free 6
  have x7 := (HI.out).X.cell 7 _ rfl
  have g7 := (HI.out).X.free 7
  have r0 := (HI.out).R.cell 0 _ rfl
  have f0 := (HI.out).R.free 0
  have r1 := (HI.out).R.cell 1 _ rfl
  have f1 := (HI.out).R.free 1
  have r2 := (HI.out).R.cell 2 _ rfl
  have f2 := (HI.out).R.free 2
  have r3 := (HI.out).R.cell 3 _ rfl
  have f3 := (HI.out).R.free 3
  have r4 := (HI.out).R.cell 4 _ rfl
  have f4 := (HI.out).R.free 4
  have r5 := (HI.out).R.cell 5 _ rfl
  have f5 := (HI.out).R.free 5
  have r6 := (HI.out).R.cell 6 _ rfl
  have f6 := (HI.out).R.free 6
  have r7 := (HI.out).R.cell 7 _ rfl
  have f7 := (HI.out).R.free 7
  have ES := Lib.hid ((HI.out).R.set8 (.int .u8 (k : Int)) (.int .u64 0) (.string ⟨#[]⟩) (.int .i64 0) (.int .i64 0) (.int .i64 0) (.int .u32 0) (.slice none 0 0))
  have BS := Lib.hid (below_set8 (HI.out).B (Nat.le_refl _) (.int .u8 (k : Int)) (.int .u64 0) (.string ⟨#[]⟩) (.int .i64 0) (.int .i64 0) (.int .i64 0) (.int .u32 0) (.slice none 0 0))
  go_wp2_with fail
  refine ent_end45 rfl rfl ES.out ?_
  have hX : parX F = ⟨k, 0, [], 0, 0, 0, 0, []⟩ := by unfold parX; simp only [HK.out, if_neg h1, if_neg h2, if_neg h3, if_neg h5]
  unfold SeP
  rw [hX]
  exact ⟨.slice none 0 0, rfl, OwnIB.nil _ _ BS.out.size, BS.out⟩
set_option maxHeartbeats 2400000 in
theorem seems2_ok (w : World) (v0 : Value) (b : List UInt8) (h0 : SlC w v0 b) (hbl : b.length ≤ 70000) (hk : valB ((b ++ zs 400).take 1) = 2) : Calls Tryd.prog 45 #[v0] w (SeP w (b ++ zs 400)) := by
  have R1 := CellsAt.new w [.int .u8 0, .int .u64 0, .string ⟨#[]⟩, .int .i64 0, .int .i64 0, .int .i64 0, .int .u32 0, .slice none 0 0] 27
  have T0 : Stp w (w.alloc (.cells #[.int .u8 0, .int .u64 0, .string ⟨#[]⟩, .int .i64 0, .int .i64 0, .int .i64 0, .int .u32 0, .slice none 0 0] 27)) := inferInstance
  have S1 := Lib.hid (h0.below T0.h)
  have HBL := Lib.hid hbl
  have HK := Lib.hid hk
  clear h0 hbl hk
  go_enter Tryd.func45, Tryd.ntmps45
  go_upto_region 1 with fail
  change CellsAt (w.alloc (.cells #[.int .u8 0, .int .u64 0, .string ⟨#[]⟩, .int .i64 0, .int .i64 0, .int .i64 0, .int .u32 0, .slice none 0 0] 27)) _ _ at R1
  generalize w.alloc (.cells #[.int .u8 0, .int .u64 0, .string ⟨#[]⟩, .int .i64 0, .int .i64 0, .int .i64 0, .int .u32 0, .slice none 0 0] 27) = w1 at *
  go_wp2_with (refine wp_mkz rfl _ _ rfl 400 (by omega) rfl rfl ?_)
  intro v2 w2 O2 B2
  have T2 : Stp w1 w2 := ⟨B2⟩
  have J := Lib.hid (joinc_ok v0 v2 b (zs 400) w2 (S1.out.below B2).sl O2.sl (by have := HBL.out; rw [zs_len]; omega) (by intro h; have := congrArg List.length h; rw [zs_len] at this; simp at this))
  clear S1 O2 B2
  go_wp2_with fail
  refine J.out.mono ?_
  rintro e w3 ⟨fb, fo, fc, rfl, SF, B3, _⟩
  have T3 : Stp w2 w3 := ⟨B3⟩
  clear J B3
  have hF1 : 400 ≤ (b ++ zs 400).length := by rw [List.length_append, zs_len]; omega
  have hF2 : (b ++ zs 400).length ≤ 70400 := by have := HBL.out; rw [List.length_append, zs_len]; omega
  generalize (b ++ zs 400) = F at *
  obtain ⟨_, hmc, hc63, _, _⟩ := SF.lens
  have L0 := slc_byte SF 0 (by omega)
  rw [Nat.add_zero, seg_zero, HK.out] at L0
  have HSF := Lib.hid SF
  clear SF
  obtain ⟨m, hm⟩ : ∃ m, m = F.length := ⟨_, rfl⟩
  rw [← hm] at hmc hF1 hF2 HSF ⊢
  have HM := Lib.hid hm
  clear hm
  have im : (400 : Int) ≤ (m : Int) := by omega
  have ic : (400 : Int) ≤ (fc : Int) := by omega
  have T4 : Stp w3 (w3.alloc (.cells #[.int .u8 2, .int .u64 0, .string ⟨#[]⟩, .int .i64 0, .int .i64 0, .int .i64 0, .int .u32 0, .slice none 0 0] 27)) := inferInstance
  have R4 : CellsAt (w3.alloc (.cells #[.int .u8 2, .int .u64 0, .string ⟨#[]⟩, .int .i64 0, .int .i64 0, .int .i64 0, .int .u32 0, .slice none 0 0] 27)) w.heap.size [.int .u8 0, .int .u64 0, .string ⟨#[]⟩, .int .i64 0, .int .i64 0, .int .i64 0, .int .u32 0, .slice none 0 0] := CellsAt.gr R1
  have hwp : w.heap.size < w3.heap.size := Nat.lt_of_lt_of_le R1.lt (inferInstance : Gr w1 w3).h.size
  have hpf : w3.heap.size ≠ fb := by obtain ⟨_, _, _, hlt, _⟩ := HSF.out.lens; omega
  have I4 : SeAt w F fb fo m fc w3.heap.size [.int .u8 2, .int .u64 0, .string ⟨#[]⟩, .int .i64 0, .int .i64 0, .int .i64 0, .int .u32 0, .slice none 0 0] (w3.alloc (.cells #[.int .u8 2, .int .u64 0, .string ⟨#[]⟩, .int .i64 0, .int .i64 0, .int .i64 0, .int .u32 0, .slice none 0 0] 27)) := ⟨CellsAt.new w3 _ 27, R4, HSF.out.below T4.h, hwp, hpf, (inferInstance : Gr w _).h⟩
  have L4 : (w3.alloc (.cells #[.int .u8 2, .int .u64 0, .string ⟨#[]⟩, .int .i64 0, .int .i64 0, .int .i64 0, .int .u32 0, .slice none 0 0] 27)).cell? ⟨fb, fo, none⟩ = some (.int .u8 2) := by have := slc_byte I4.S 0 (by have := HM.out; omega); rw [Nat.add_zero, seg_zero, HK.out] at this; exact this
  have HI := Lib.hid I4
  clear I4 R4 R1 hwp hpf HSF T0
  go_upto_region 3 with fail
  generalize (w3.alloc (.cells #[.int .u8 2, .int .u64 0, .string ⟨#[]⟩, .int .i64 0, .int .i64 0, .int .i64 0, .int .u32 0, .slice none 0 0] 27)) = w4 at *
  clear T4 T3 T2 L0
  obtain ⟨p, hp⟩ : ∃ p, p = w3.heap.size := ⟨_, rfl⟩
  rw [← hp] at HI ⊢
  clear hp
  obtain ⟨n, hn⟩ : ∃ n, n = valB (seg F 1 1) := ⟨_, rfl⟩
  have n255 : n ≤ 255 := by have := seg_lt F 1; omega
  have in255 : (n : Int) ≤ 255 := by omega
  have in0 : (0 : Int) ≤ (n : Int) := by omega
  have L5 := slc_byte HI.out.S 1 (by have := HM.out; omega)
  rw [← hn] at L5
  have HN := Lib.hid hn
  clear hn
  have i2n : (2 : Int) + (n : Int) ≤ (fc : Int) := by omega
  have i2 : ¬ fc = 2 := by omega
  have x0 := (HI.out).X.cell 0 _ rfl
  have g0 := (HI.out).X.free 0
  have x1 := (HI.out).X.cell 1 _ rfl
  have g1 := (HI.out).X.free 1
  have x2 := (HI.out).X.cell 2 _ rfl
  have g2 := (HI.out).X.free 2
  have x3 := (HI.out).X.cell 3 _ rfl
  have g3 := (HI.out).X.free 3
  have x4 := (HI.out).X.cell 4 _ rfl
  have g4 := (HI.out).X.free 4
  have x5 := (HI.out).X.cell 5 _ rfl
  have g5 := (HI.out).X.free 5
  have x6 := (HI.out).X.cell 6 _ rfl
  have g6 := (HI.out).X.free 6
  have x7 := (HI.out).X.cell 7 _ rfl
  have g7 := (HI.out).X.free 7
  have r0 := (HI.out).R.cell 0 _ rfl
  have f0 := (HI.out).R.free 0
  have r1 := (HI.out).R.cell 1 _ rfl
  have f1 := (HI.out).R.free 1
  have r2 := (HI.out).R.cell 2 _ rfl
  have f2 := (HI.out).R.free 2
  have r3 := (HI.out).R.cell 3 _ rfl
  have f3 := (HI.out).R.free 3
  have r4 := (HI.out).R.cell 4 _ rfl
  have f4 := (HI.out).R.free 4
  have r5 := (HI.out).R.cell 5 _ rfl
  have f5 := (HI.out).R.free 5
  have r6 := (HI.out).R.cell 6 _ rfl
  have f6 := (HI.out).R.free 6
  have r7 := (HI.out).R.cell 7 _ rfl
  have f7 := (HI.out).R.free 7
  obtain ⟨nm, hnm⟩ : ∃ nm, nm = seg F 2 n := ⟨_, rfl⟩
  have HS := Lib.hid hnm
  clear hnm
  obtain ⟨s, hsv⟩ : ∃ s, s = bs nm := ⟨_, rfl⟩
  have HSS := Lib.hid hsv
  clear hsv
  go_upto_region 10 with fail
  have hs : ∀ ln : Nat, ln = n → (convert 29 9 (.slice (some ⟨fb, fo + 2, none⟩) ln (fc - 2))).run Tryd.prog w4 = .ok (.string s) w4 := fun ln h => by subst h; rw [HSS.out, HS.out]; exact conv_text ((HI.out.S.seg 2 ln (by have := HM.out; omega) (by omega)).sl)
  have J1 := Lib.hid ((HI.out).put 2 (.string s) (by simp))
  simp only [List.set_cons_succ, List.set_cons_zero] at J1
  go_upto_region 12 with fail
  clear L4 L5 hs
  clear x0 g0 r0 f0
  clear x1 g1 r1 f1
  clear x2 g2 r2 f2
  clear x3 g3 r3 f3
  clear x4 g4 r4 f4
  clear x5 g5 r5 f5
  clear x6 g6 r6 f6
  clear x7 g7 r7 f7
  generalize w4.setCell ⟨p, 2, none⟩ (.string s) = w5 at *
  have L6 := slc_byte (J1.out).S 0 (by have := HM.out; omega)
  rw [Nat.add_zero, seg_zero, HK.out] at L6
  change w5.cell? ⟨fb, fo, none⟩ = some (.int .u8 2) at L6
  have x0 := (J1.out).X.cell 0 _ rfl
  have g0 := (J1.out).X.free 0
  have x1 := (J1.out).X.cell 1 _ rfl
  have g1 := (J1.out).X.free 1
  have x2 := (J1.out).X.cell 2 _ rfl
  have g2 := (J1.out).X.free 2
  have x3 := (J1.out).X.cell 3 _ rfl
  have g3 := (J1.out).X.free 3
  have x4 := (J1.out).X.cell 4 _ rfl
  have g4 := (J1.out).X.free 4
  have x5 := (J1.out).X.cell 5 _ rfl
  have g5 := (J1.out).X.free 5
  have x6 := (J1.out).X.cell 6 _ rfl
  have g6 := (J1.out).X.free 6
  have x7 := (J1.out).X.cell 7 _ rfl
  have g7 := (J1.out).X.free 7
  have r0 := (J1.out).R.cell 0 _ rfl
  have f0 := (J1.out).R.free 0
  have r1 := (J1.out).R.cell 1 _ rfl
  have f1 := (J1.out).R.free 1
  have r2 := (J1.out).R.cell 2 _ rfl
  have f2 := (J1.out).R.free 2
  have r3 := (J1.out).R.cell 3 _ rfl
  have f3 := (J1.out).R.free 3
  have r4 := (J1.out).R.cell 4 _ rfl
  have f4 := (J1.out).R.free 4
  have r5 := (J1.out).R.cell 5 _ rfl
  have f5 := (J1.out).R.free 5
  have r6 := (J1.out).R.cell 6 _ rfl
  have f6 := (J1.out).R.free 6
  have r7 := (J1.out).R.cell 7 _ rfl
  have f7 := (J1.out).R.free 7
  have ES := Lib.hid ((J1.out).R.set8 (.int .u8 2) (.int .u64 0) (.string s) (.int .i64 0) (.int .i64 0) (.int .i64 0) (.int .u32 0) (.slice none 0 0))
  have BS := Lib.hid (below_set8 (J1.out).B (Nat.le_refl _) (.int .u8 2) (.int .u64 0) (.string s) (.int .i64 0) (.int .i64 0) (.int .i64 0) (.int .u32 0) (.slice none 0 0))
  go_wp2_with fail
  refine ent_end45 rfl rfl ES.out ?_
  have hX : parX F = ⟨2, 0, nm, 0, 0, 0, 0, []⟩ := by unfold parX; simp only [HK.out, if_pos, if_neg (show ¬ (2 : Nat) = 1 by omega)]; rw [← HN.out, ← HS.out]
  unfold SeP
  rw [hX]
  have es := HSS.out
  have bs' := BS.out
  clear HSS ES BS
  subst es
  exact ⟨.slice none 0 0, rfl, OwnIB.nil _ _ bs'.size, bs'⟩
end Go.Proofs.YtlbekgcfafofdaaDoor
