/- The document's seems, by kinds. -/
import Derived.Test.YtlbekgcfafofdaaDoorSb
namespace Go.Proofs.YtlbekgcfafofdaaDoor
open Go.RowKit
set_option maxRecDepth 100000

set_option maxHeartbeats 2400000 in
theorem seems3_ok (w : World) (v0 : Value) (b : List UInt8) (h0 : SlC w v0 b) (hbl : b.length ≤ 70000) (hk : valB ((b ++ zs 400).take 1) = 3) : Calls Tryd.prog 45 #[v0] w (SeP w ((b ++ zs 400) ++ zs 1400)) := by
  have R1 := CellsAt.new w [.int .u8 0, .int .u64 0, .string ⟨#[]⟩, .int .i64 0, .int .i64 0, .int .i64 0, .int .u32 0, .slice none 0 0] 27
  have T0 : Stp w (w.alloc (.cells #[.int .u8 0, .int .u64 0, .string ⟨#[]⟩, .int .i64 0, .int .i64 0, .int .i64 0, .int .u32 0, .slice none 0 0] 27)) := inferInstance
  have S1 := Lib.hid (h0.below T0.h)
  have HBL := Lib.hid hbl
  have HK := Lib.hid hk
  clear h0 hbl hk
  go_enter Tryd.func45, Tryd.ntmps45
  go_upto_region 1 with fail
  change CellsAt (w.alloc (.cells #[.int .u8 0, .int .u64 0, .string ⟨#[]⟩, .int .i64 0, .int .i64 0, .int .i64 0, .int .u32 0, .slice none 0 0] 27)) _ _ at R1
  generalize w.alloc (.cells #[.int .u8 0, .int .u64 0, .string ⟨#[]⟩, .int .i64 0, .int .i64 0, .int .i64 0, .int .u32 0, .slice none 0 0] 27) = w1 at *
  go_wp2_with (refine wp_mkz rfl _ _ rfl 400 (by omega) rfl rfl ?_)
  intro v2 w2 O2 B2
  have T2 : Stp w1 w2 := ⟨B2⟩
  have J := Lib.hid (joinc_ok v0 v2 b (zs 400) w2 (S1.out.below B2).sl O2.sl (by have := HBL.out; rw [zs_len]; omega) (by intro h; have := congrArg List.length h; rw [zs_len] at this; simp at this))
  clear S1 O2 B2
  go_wp2_with fail
  refine J.out.mono ?_
  rintro e w3 ⟨fb, fo, fc, rfl, SF, B3, _⟩
  have T3 : Stp w2 w3 := ⟨B3⟩
  clear J B3
  have hF1 : 400 ≤ (b ++ zs 400).length := by rw [List.length_append, zs_len]; omega
  have hF2 : (b ++ zs 400).length ≤ 70400 := by have := HBL.out; rw [List.length_append, zs_len]; omega
  generalize (b ++ zs 400) = F at *
  obtain ⟨_, hmc, hc63, _, _⟩ := SF.lens
  have L0 := slc_byte SF 0 (by omega)
  rw [Nat.add_zero, seg_zero, HK.out] at L0
  have HSF := Lib.hid SF
  clear SF
  obtain ⟨m, hm⟩ : ∃ m, m = F.length := ⟨_, rfl⟩
  rw [← hm] at hmc hF1 hF2 HSF ⊢
  have HM := Lib.hid hm
  clear hm
  have im : (400 : Int) ≤ (m : Int) := by omega
  have ic : (400 : Int) ≤ (fc : Int) := by omega
  have T4 : Stp w3 (w3.alloc (.cells #[.int .u8 3, .int .u64 0, .string ⟨#[]⟩, .int .i64 0, .int .i64 0, .int .i64 0, .int .u32 0, .slice none 0 0] 27)) := inferInstance
  have R4 : CellsAt (w3.alloc (.cells #[.int .u8 3, .int .u64 0, .string ⟨#[]⟩, .int .i64 0, .int .i64 0, .int .i64 0, .int .u32 0, .slice none 0 0] 27)) w.heap.size [.int .u8 0, .int .u64 0, .string ⟨#[]⟩, .int .i64 0, .int .i64 0, .int .i64 0, .int .u32 0, .slice none 0 0] := CellsAt.gr R1
  have hwp : w.heap.size < w3.heap.size := Nat.lt_of_lt_of_le R1.lt (inferInstance : Gr w1 w3).h.size
  have hpf : w3.heap.size ≠ fb := by obtain ⟨_, _, _, hlt, _⟩ := HSF.out.lens; omega
  have I4 : SeAt w F fb fo m fc w3.heap.size [.int .u8 3, .int .u64 0, .string ⟨#[]⟩, .int .i64 0, .int .i64 0, .int .i64 0, .int .u32 0, .slice none 0 0] (w3.alloc (.cells #[.int .u8 3, .int .u64 0, .string ⟨#[]⟩, .int .i64 0, .int .i64 0, .int .i64 0, .int .u32 0, .slice none 0 0] 27)) := ⟨CellsAt.new w3 _ 27, R4, HSF.out.below T4.h, hwp, hpf, (inferInstance : Gr w _).h⟩
  have L4 : (w3.alloc (.cells #[.int .u8 3, .int .u64 0, .string ⟨#[]⟩, .int .i64 0, .int .i64 0, .int .i64 0, .int .u32 0, .slice none 0 0] 27)).cell? ⟨fb, fo, none⟩ = some (.int .u8 3) := by have := slc_byte I4.S 0 (by have := HM.out; omega); rw [Nat.add_zero, seg_zero, HK.out] at this; exact this
  have HI := Lib.hid I4
  clear I4 R4 R1 hwp hpf HSF T0
  go_upto_region 3 with fail
  generalize (w3.alloc (.cells #[.int .u8 3, .int .u64 0, .string ⟨#[]⟩, .int .i64 0, .int .i64 0, .int .i64 0, .int .u32 0, .slice none 0 0] 27)) = w4 at *
  clear T4 T3 T2 L0
  obtain ⟨p, hp⟩ : ∃ p, p = w3.heap.size := ⟨_, rfl⟩
  rw [← hp] at HI ⊢
  clear hp
  obtain ⟨n, hn⟩ : ∃ n, n = valB (seg F 1 1) := ⟨_, rfl⟩
  have n255 : n ≤ 255 := by have := seg_lt F 1; omega
  have in255 : (n : Int) ≤ 255 := by omega
  have in0 : (0 : Int) ≤ (n : Int) := by omega
  have L5 := slc_byte HI.out.S 1 (by have := HM.out; omega)
  rw [← hn] at L5
  have HN := Lib.hid hn
  clear hn
  have i2n : (2 : Int) + (n : Int) ≤ (fc : Int) := by omega
  have i2 : ¬ fc = 2 := by omega
  have x0 := (HI.out).X.cell 0 _ rfl
  have g0 := (HI.out).X.free 0
  have x1 := (HI.out).X.cell 1 _ rfl
  have g1 := (HI.out).X.free 1
  have x2 := (HI.out).X.cell 2 _ rfl
  have g2 := (HI.out).X.free 2
  have x3 := (HI.out).X.cell 3 _ rfl
  have g3 := (HI.out).X.free 3
  have x4 := (HI.out).X.cell 4 _ rfl
  have g4 := (HI.out).X.free 4
  have x5 := (HI.out).X.cell 5 _ rfl
  have g5 := (HI.out).X.free 5
  have x6 := (HI.out).X.cell 6 _ rfl
  have g6 := (HI.out).X.free 6
  have x7 := (HI.out).X.cell 7 _ rfl
  have g7 := (HI.out).X.free 7
  have r0 := (HI.out).R.cell 0 _ rfl
  have f0 := (HI.out).R.free 0
  have r1 := (HI.out).R.cell 1 _ rfl
  have f1 := (HI.out).R.free 1
  have r2 := (HI.out).R.cell 2 _ rfl
  have f2 := (HI.out).R.free 2
  have r3 := (HI.out).R.cell 3 _ rfl
  have f3 := (HI.out).R.free 3
  have r4 := (HI.out).R.cell 4 _ rfl
  have f4 := (HI.out).R.free 4
  have r5 := (HI.out).R.cell 5 _ rfl
  have f5 := (HI.out).R.free 5
  have r6 := (HI.out).R.cell 6 _ rfl
  have f6 := (HI.out).R.free 6
  have r7 := (HI.out).R.cell 7 _ rfl
  have f7 := (HI.out).R.free 7
  obtain ⟨nm, hnm⟩ : ∃ nm, nm = seg F 2 n := ⟨_, rfl⟩
  have HS := Lib.hid hnm
  clear hnm
  obtain ⟨s, hsv⟩ : ∃ s, s = bs nm := ⟨_, rfl⟩
  have HSS := Lib.hid hsv
  clear hsv
  go_upto_region 10 with fail
  have hs : ∀ ln : Nat, ln = n → (convert 29 9 (.slice (some ⟨fb, fo + 2, none⟩) ln (fc - 2))).run Tryd.prog w4 = .ok (.string s) w4 := fun ln h => by subst h; rw [HSS.out, HS.out]; exact conv_text ((HI.out.S.seg 2 ln (by have := HM.out; omega) (by omega)).sl)
  have J1 := Lib.hid ((HI.out).put 2 (.string s) (by simp))
  simp only [List.set_cons_succ, List.set_cons_zero] at J1
  go_upto_region 12 with fail
  clear L4 L5 hs
  clear x0 g0 r0 f0
  clear x1 g1 r1 f1
  clear x2 g2 r2 f2
  clear x3 g3 r3 f3
  clear x4 g4 r4 f4
  clear x5 g5 r5 f5
  clear x6 g6 r6 f6
  clear x7 g7 r7 f7
  generalize w4.setCell ⟨p, 2, none⟩ (.string s) = w5 at *
  have L6 := slc_byte (J1.out).S 0 (by have := HM.out; omega)
  rw [Nat.add_zero, seg_zero, HK.out] at L6
  change w5.cell? ⟨fb, fo, none⟩ = some (.int .u8 3) at L6
  go_upto_region 14 with fail
  go_wp2_with (refine wp_mkz rfl _ _ rfl 1400 (by omega) rfl rfl ?_)
  intro v6 w6 O6 B6
  have J6 := Lib.hid (joinc_ok (.slice (some ⟨fb, fo, none⟩) m fc) v6 F (zs 1400) w6 (J1.out.S.below B6).sl O6.sl (by have := HM.out; rw [zs_len]; omega) (by intro h; have := congrArg List.length h; rw [zs_len] at this; simp at this))
  have I6 := J1.out.step B6
  have HI6 := Lib.hid I6
  have hp6 := I6.X.lt
  clear I6 O6 L6 B6
  go_wp2_with fail
  refine J6.out.mono ?_
  rintro e w7 ⟨fb2, fo2, fc2, rfl, SF7, B7, hb7⟩
  have hl2 : (F ++ zs 1400).length = m + 1400 := by rw [List.length_append, zs_len, ← HM.out]
  have hk2 : valB ((F ++ zs 1400).take 1) = 3 := by rw [List.take_append_of_le_length (by have := HM.out; omega)]; exact HK.out
  have hn2 : valB (seg (F ++ zs 1400) 1 1) = n := by rw [seg_more F _ (by have := HM.out; omega)]; exact HN.out.symm
  have hs2 : seg (F ++ zs 1400) 2 n = nm := by rw [seg_more F _ (by have := HM.out; omega)]; exact HS.out.symm
  rw [hl2] at SF7
  rw [hl2]
  have I7 : SeAt w (F ++ zs 1400) fb2 fo2 (m + 1400) fc2 p [.int .u8 3, .int .u64 0, .string s, .int .i64 0, .int .i64 0, .int .i64 0, .int .u32 0, .slice none 0 0] w7 := ⟨HI6.out.X.step B7, HI6.out.R.step B7, SF7, HI6.out.hp, by omega, HI6.out.B.trans (B7.mono HI6.out.B.size)⟩
  obtain ⟨_, hmc2, hc632, _, _⟩ := SF7.lens
  have HI7 := Lib.hid I7
  clear I7 SF7 J6 J1 HI HI6 B7 hb7 hp6 hmc hc63 i2n i2 im ic
  obtain ⟨G, hG⟩ : ∃ G, G = F ++ zs 1400 := ⟨_, rfl⟩
  rw [← hG] at HI7 hl2 hk2 hn2 hs2
  have HG := Lib.hid hG
  clear hG
  have HL2 := Lib.hid hl2
  have HK2 := Lib.hid hk2
  have HN2 := Lib.hid hn2
  have HS2 := Lib.hid hs2
  clear hl2 hk2 hn2 hs2 HM HK HN HS
  have HMM := Lib.hid hF1
  clear hF1
  have hm2 : 1800 ≤ m + 1400 := by have := HMM.out; omega
  have hm3 : m + 1400 ≤ 80000 := by omega
  obtain ⟨m2, hm2e⟩ : ∃ m2, m2 = m + 1400 := ⟨_, rfl⟩
  rw [← hm2e] at HI7 HL2 hmc2 hm2 hm3 ⊢
  clear hm2e hF2 HMM
  have im2 : (1800 : Int) ≤ (m2 : Int) := by omega
  have ic2 : (1800 : Int) ≤ (fc2 : Int) := by omega
  rw [show (2 : Int) + (n : Int) = ((2 + n : Nat) : Int) by omega]
  obtain ⟨q, hq⟩ : ∃ q, q = 2 + n := ⟨_, rfl⟩
  rw [← hq]
  have HQ := Lib.hid hq
  have q300 : q ≤ 300 := by omega
  have qi : (q : Int) ≤ 300 := by omega
  have q0 : (0 : Int) ≤ (q : Int) := by omega
  clear hq n255 in255 in0 q300
  have qc3 : ¬ fc2 = q := by have := qi; omega
  have qd3 : (q : Int) + 4 ≤ (fc2 : Int) := by omega
  have NV : ∀ (of ln cp : Nat), of = fo2 + (q) → ln = 4 → cp = fc2 - (q) → Calls Tryd.prog 44 #[.slice (some ⟨fb2, of, none⟩) ln cp] w7 (Same w7 (.int .u64 (valB (seg G (q) 4) : Int))) := fun of ln cp h1 h2 h3 => by subst h1 h2 h3; exact value_ok _ _ w7 (by rw [seg_len (by have := HL2.out; omega)]; omega) ((HI7.out).S.seg (q) 4 (by have := HL2.out; omega) (by omega)).sl
  obtain ⟨ru, hru⟩ : ∃ ru, ru = valB (seg G (q) 4) := ⟨_, rfl⟩
  rw [← hru] at NV
  obtain ⟨rui, eru⟩ : ∃ rui : Int, IntKind.i64.wrap (ru : Int) = rui ∧ rui = iw ru := ⟨_, rfl, by unfold iw wrap64; rw [IntKind.wrap_i64]⟩
  obtain ⟨ewru, exru⟩ := eru
  have Hru := Lib.hid (exru.trans (by rw [hru]) : rui = iw (valB (seg G (q) 4)))
  clear exru
  have HNV := Lib.hid NV
  clear NV hru
  have x0 := (HI7.out).X.cell 0 _ rfl
  have g0 := (HI7.out).X.free 0
  have x1 := (HI7.out).X.cell 1 _ rfl
  have g1 := (HI7.out).X.free 1
  have x2 := (HI7.out).X.cell 2 _ rfl
  have g2 := (HI7.out).X.free 2
  have x3 := (HI7.out).X.cell 3 _ rfl
  have g3 := (HI7.out).X.free 3
  have x4 := (HI7.out).X.cell 4 _ rfl
  have g4 := (HI7.out).X.free 4
  have x5 := (HI7.out).X.cell 5 _ rfl
  have g5 := (HI7.out).X.free 5
  have x6 := (HI7.out).X.cell 6 _ rfl
  have g6 := (HI7.out).X.free 6
  have x7 := (HI7.out).X.cell 7 _ rfl
  have g7 := (HI7.out).X.free 7
  have r0 := (HI7.out).R.cell 0 _ rfl
  have f0 := (HI7.out).R.free 0
  have r1 := (HI7.out).R.cell 1 _ rfl
  have f1 := (HI7.out).R.free 1
  have r2 := (HI7.out).R.cell 2 _ rfl
  have f2 := (HI7.out).R.free 2
  have r3 := (HI7.out).R.cell 3 _ rfl
  have f3 := (HI7.out).R.free 3
  have r4 := (HI7.out).R.cell 4 _ rfl
  have f4 := (HI7.out).R.free 4
  have r5 := (HI7.out).R.cell 5 _ rfl
  have f5 := (HI7.out).R.free 5
  have r6 := (HI7.out).R.cell 6 _ rfl
  have f6 := (HI7.out).R.free 6
  have r7 := (HI7.out).R.cell 7 _ rfl
  have f7 := (HI7.out).R.free 7
  go_wp2_with fail
  with_reducible refine (HNV.out _ _ _ (by omega) (by omega) (by omega)).mono ?_
  rintro e w9 ⟨rfl, rfl⟩
  clear HNV
  have J2 := Lib.hid ((HI7.out).put 3 (.int .i64 rui) (by simp))
  simp only [List.set_cons_succ, List.set_cons_zero] at J2
  go_upto_region 16 with fail
  clear x0 g0 r0 f0
  clear x1 g1 r1 f1
  clear x2 g2 r2 f2
  clear x3 g3 r3 f3
  clear x4 g4 r4 f4
  clear x5 g5 r5 f5
  clear x6 g6 r6 f6
  clear x7 g7 r7 f7
  generalize w7.setCell ⟨p, 3, none⟩ (.int .i64 rui) = w9 at *
  clear ewru qc3 qd3
  have qc4 : ¬ fc2 = q + 4 := by have := qi; omega
  have qd4 : (q : Int) + 12 ≤ (fc2 : Int) := by omega
  have NV : ∀ (of ln cp : Nat), of = fo2 + (q + 4) → ln = 8 → cp = fc2 - (q + 4) → Calls Tryd.prog 44 #[.slice (some ⟨fb2, of, none⟩) ln cp] w9 (Same w9 (.int .u64 (valB (seg G (q + 4) 8) : Int))) := fun of ln cp h1 h2 h3 => by subst h1 h2 h3; exact value_ok _ _ w9 (by rw [seg_len (by have := HL2.out; omega)]; omega) ((J2.out).S.seg (q + 4) 8 (by have := HL2.out; omega) (by omega)).sl
  obtain ⟨re, hre⟩ : ∃ re, re = valB (seg G (q + 4) 8) := ⟨_, rfl⟩
  rw [← hre] at NV
  obtain ⟨rei, ere⟩ : ∃ rei : Int, IntKind.i64.wrap (re : Int) = rei ∧ rei = iw re := ⟨_, rfl, by unfold iw wrap64; rw [IntKind.wrap_i64]⟩
  obtain ⟨ewre, exre⟩ := ere
  have Hre := Lib.hid (exre.trans (by rw [hre]) : rei = iw (valB (seg G (q + 4) 8)))
  clear exre
  have HNV := Lib.hid NV
  clear NV hre
  have x0 := (J2.out).X.cell 0 _ rfl
  have g0 := (J2.out).X.free 0
  have x1 := (J2.out).X.cell 1 _ rfl
  have g1 := (J2.out).X.free 1
  have x2 := (J2.out).X.cell 2 _ rfl
  have g2 := (J2.out).X.free 2
  have x3 := (J2.out).X.cell 3 _ rfl
  have g3 := (J2.out).X.free 3
  have x4 := (J2.out).X.cell 4 _ rfl
  have g4 := (J2.out).X.free 4
  have x5 := (J2.out).X.cell 5 _ rfl
  have g5 := (J2.out).X.free 5
  have x6 := (J2.out).X.cell 6 _ rfl
  have g6 := (J2.out).X.free 6
  have x7 := (J2.out).X.cell 7 _ rfl
  have g7 := (J2.out).X.free 7
  have r0 := (J2.out).R.cell 0 _ rfl
  have f0 := (J2.out).R.free 0
  have r1 := (J2.out).R.cell 1 _ rfl
  have f1 := (J2.out).R.free 1
  have r2 := (J2.out).R.cell 2 _ rfl
  have f2 := (J2.out).R.free 2
  have r3 := (J2.out).R.cell 3 _ rfl
  have f3 := (J2.out).R.free 3
  have r4 := (J2.out).R.cell 4 _ rfl
  have f4 := (J2.out).R.free 4
  have r5 := (J2.out).R.cell 5 _ rfl
  have f5 := (J2.out).R.free 5
  have r6 := (J2.out).R.cell 6 _ rfl
  have f6 := (J2.out).R.free 6
  have r7 := (J2.out).R.cell 7 _ rfl
  have f7 := (J2.out).R.free 7
  go_wp2_with fail
  with_reducible refine (HNV.out _ _ _ (by omega) (by omega) (by omega)).mono ?_
  rintro e w9 ⟨rfl, rfl⟩
  clear HNV
  have J3 := Lib.hid ((J2.out).put 4 (.int .i64 rei) (by simp))
  simp only [List.set_cons_succ, List.set_cons_zero] at J3
  go_upto_region 17 with fail
  clear x0 g0 r0 f0
  clear x1 g1 r1 f1
  clear x2 g2 r2 f2
  clear x3 g3 r3 f3
  clear x4 g4 r4 f4
  clear x5 g5 r5 f5
  clear x6 g6 r6 f6
  clear x7 g7 r7 f7
  generalize w9.setCell ⟨p, 4, none⟩ (.int .i64 rei) = w10 at *
  clear ewre qc4 qd4
  have L7 := slc_byte (J3.out).S 0 (by have := HL2.out; omega)
  rw [Nat.add_zero, seg_zero, HK2.out] at L7
  change w10.cell? ⟨fb2, fo2, none⟩ = some (.int .u8 3) at L7
  go_upto_region 18 with fail
  clear L7
  have qc5 : ¬ fc2 = q + 12 := by have := qi; omega
  have qd5 : (q : Int) + 20 ≤ (fc2 : Int) := by omega
  have NV : ∀ (of ln cp : Nat), of = fo2 + (q + 12) → ln = 8 → cp = fc2 - (q + 12) → Calls Tryd.prog 44 #[.slice (some ⟨fb2, of, none⟩) ln cp] w10 (Same w10 (.int .u64 (valB (seg G (q + 12) 8) : Int))) := fun of ln cp h1 h2 h3 => by subst h1 h2 h3; exact value_ok _ _ w10 (by rw [seg_len (by have := HL2.out; omega)]; omega) ((J3.out).S.seg (q + 12) 8 (by have := HL2.out; omega) (by omega)).sl
  obtain ⟨li, hli⟩ : ∃ li, li = valB (seg G (q + 12) 8) := ⟨_, rfl⟩
  rw [← hli] at NV
  obtain ⟨lii, eli⟩ : ∃ lii : Int, IntKind.i64.wrap (li : Int) = lii ∧ lii = iw li := ⟨_, rfl, by unfold iw wrap64; rw [IntKind.wrap_i64]⟩
  obtain ⟨ewli, exli⟩ := eli
  have Hli := Lib.hid (exli.trans (by rw [hli]) : lii = iw (valB (seg G (q + 12) 8)))
  clear exli
  have HNV := Lib.hid NV
  clear NV hli
  have x0 := (J3.out).X.cell 0 _ rfl
  have g0 := (J3.out).X.free 0
  have x1 := (J3.out).X.cell 1 _ rfl
  have g1 := (J3.out).X.free 1
  have x2 := (J3.out).X.cell 2 _ rfl
  have g2 := (J3.out).X.free 2
  have x3 := (J3.out).X.cell 3 _ rfl
  have g3 := (J3.out).X.free 3
  have x4 := (J3.out).X.cell 4 _ rfl
  have g4 := (J3.out).X.free 4
  have x5 := (J3.out).X.cell 5 _ rfl
  have g5 := (J3.out).X.free 5
  have x6 := (J3.out).X.cell 6 _ rfl
  have g6 := (J3.out).X.free 6
  have x7 := (J3.out).X.cell 7 _ rfl
  have g7 := (J3.out).X.free 7
  have r0 := (J3.out).R.cell 0 _ rfl
  have f0 := (J3.out).R.free 0
  have r1 := (J3.out).R.cell 1 _ rfl
  have f1 := (J3.out).R.free 1
  have r2 := (J3.out).R.cell 2 _ rfl
  have f2 := (J3.out).R.free 2
  have r3 := (J3.out).R.cell 3 _ rfl
  have f3 := (J3.out).R.free 3
  have r4 := (J3.out).R.cell 4 _ rfl
  have f4 := (J3.out).R.free 4
  have r5 := (J3.out).R.cell 5 _ rfl
  have f5 := (J3.out).R.free 5
  have r6 := (J3.out).R.cell 6 _ rfl
  have f6 := (J3.out).R.free 6
  have r7 := (J3.out).R.cell 7 _ rfl
  have f7 := (J3.out).R.free 7
  go_wp2_with fail
  with_reducible refine (HNV.out _ _ _ (by omega) (by omega) (by omega)).mono ?_
  rintro e w9 ⟨rfl, rfl⟩
  clear HNV
  have J4 := Lib.hid ((J3.out).put 5 (.int .i64 lii) (by simp))
  simp only [List.set_cons_succ, List.set_cons_zero] at J4
  go_upto_region 19 with fail
  clear x0 g0 r0 f0
  clear x1 g1 r1 f1
  clear x2 g2 r2 f2
  clear x3 g3 r3 f3
  clear x4 g4 r4 f4
  clear x5 g5 r5 f5
  clear x6 g6 r6 f6
  clear x7 g7 r7 f7
  generalize w10.setCell ⟨p, 5, none⟩ (.int .i64 lii) = w11 at *
  clear ewli qc5 qd5
  have qc6 : ¬ fc2 = q + 20 := by have := qi; omega
  have qd6 : (q : Int) + 24 ≤ (fc2 : Int) := by omega
  have NV : ∀ (of ln cp : Nat), of = fo2 + (q + 20) → ln = 4 → cp = fc2 - (q + 20) → Calls Tryd.prog 44 #[.slice (some ⟨fb2, of, none⟩) ln cp] w11 (Same w11 (.int .u64 (valB (seg G (q + 20) 4) : Int))) := fun of ln cp h1 h2 h3 => by subst h1 h2 h3; exact value_ok _ _ w11 (by rw [seg_len (by have := HL2.out; omega)]; omega) ((J4.out).S.seg (q + 20) 4 (by have := HL2.out; omega) (by omega)).sl
  obtain ⟨su, hsu⟩ : ∃ su, su = valB (seg G (q + 20) 4) := ⟨_, rfl⟩
  rw [← hsu] at NV
  have ewsu : IntKind.u32.wrap (su : Int) = (su : Int) := by have := valB_lt4 (seg_le G (q + 20) 4); rw [← hsu] at this; unfold IntKind.wrap; simp [IntKind.bits, IntKind.signed]; omega
  have Hsu := Lib.hid hsu
  have HNV := Lib.hid NV
  clear NV hsu
  have x0 := (J4.out).X.cell 0 _ rfl
  have g0 := (J4.out).X.free 0
  have x1 := (J4.out).X.cell 1 _ rfl
  have g1 := (J4.out).X.free 1
  have x2 := (J4.out).X.cell 2 _ rfl
  have g2 := (J4.out).X.free 2
  have x3 := (J4.out).X.cell 3 _ rfl
  have g3 := (J4.out).X.free 3
  have x4 := (J4.out).X.cell 4 _ rfl
  have g4 := (J4.out).X.free 4
  have x5 := (J4.out).X.cell 5 _ rfl
  have g5 := (J4.out).X.free 5
  have x6 := (J4.out).X.cell 6 _ rfl
  have g6 := (J4.out).X.free 6
  have x7 := (J4.out).X.cell 7 _ rfl
  have g7 := (J4.out).X.free 7
  have r0 := (J4.out).R.cell 0 _ rfl
  have f0 := (J4.out).R.free 0
  have r1 := (J4.out).R.cell 1 _ rfl
  have f1 := (J4.out).R.free 1
  have r2 := (J4.out).R.cell 2 _ rfl
  have f2 := (J4.out).R.free 2
  have r3 := (J4.out).R.cell 3 _ rfl
  have f3 := (J4.out).R.free 3
  have r4 := (J4.out).R.cell 4 _ rfl
  have f4 := (J4.out).R.free 4
  have r5 := (J4.out).R.cell 5 _ rfl
  have f5 := (J4.out).R.free 5
  have r6 := (J4.out).R.cell 6 _ rfl
  have f6 := (J4.out).R.free 6
  have r7 := (J4.out).R.cell 7 _ rfl
  have f7 := (J4.out).R.free 7
  go_wp2_with fail
  with_reducible refine (HNV.out _ _ _ (by omega) (by omega) (by omega)).mono ?_
  rintro e w9 ⟨rfl, rfl⟩
  clear HNV
  have J5 := Lib.hid ((J4.out).put 6 (.int .u32 (su : Int)) (by simp))
  simp only [List.set_cons_succ, List.set_cons_zero] at J5
  go_upto_region 20 with fail
  clear x0 g0 r0 f0
  clear x1 g1 r1 f1
  clear x2 g2 r2 f2
  clear x3 g3 r3 f3
  clear x4 g4 r4 f4
  clear x5 g5 r5 f5
  clear x6 g6 r6 f6
  clear x7 g7 r7 f7
  generalize w11.setCell ⟨p, 6, none⟩ (.int .u32 (su : Int)) = w12 at *
  clear ewsu qc6 qd6
  have x0 := (J5.out).X.cell 0 _ rfl
  have g0 := (J5.out).X.free 0
  have x1 := (J5.out).X.cell 1 _ rfl
  have g1 := (J5.out).X.free 1
  have x2 := (J5.out).X.cell 2 _ rfl
  have g2 := (J5.out).X.free 2
  have x3 := (J5.out).X.cell 3 _ rfl
  have g3 := (J5.out).X.free 3
  have x4 := (J5.out).X.cell 4 _ rfl
  have g4 := (J5.out).X.free 4
  have x5 := (J5.out).X.cell 5 _ rfl
  have g5 := (J5.out).X.free 5
  have x6 := (J5.out).X.cell 6 _ rfl
  have g6 := (J5.out).X.free 6
  have x7 := (J5.out).X.cell 7 _ rfl
  have g7 := (J5.out).X.free 7
  have r0 := (J5.out).R.cell 0 _ rfl
  have f0 := (J5.out).R.free 0
  have r1 := (J5.out).R.cell 1 _ rfl
  have f1 := (J5.out).R.free 1
  have r2 := (J5.out).R.cell 2 _ rfl
  have f2 := (J5.out).R.free 2
  have r3 := (J5.out).R.cell 3 _ rfl
  have f3 := (J5.out).R.free 3
  have r4 := (J5.out).R.cell 4 _ rfl
  have f4 := (J5.out).R.free 4
  have r5 := (J5.out).R.cell 5 _ rfl
  have f5 := (J5.out).R.free 5
  have r6 := (J5.out).R.cell 6 _ rfl
  have f6 := (J5.out).R.free 6
  have r7 := (J5.out).R.cell 7 _ rfl
  have f7 := (J5.out).R.free 7
  have ES := Lib.hid ((J5.out).R.set8 (.int .u8 3) (.int .u64 0) (.string s) (.int .i64 rui) (.int .i64 rei) (.int .i64 lii) (.int .u32 (su : Int)) (.slice none 0 0))
  have BS := Lib.hid (below_set8 (J5.out).B (Nat.le_refl _) (.int .u8 3) (.int .u64 0) (.string s) (.int .i64 rui) (.int .i64 rei) (.int .i64 lii) (.int .u32 (su : Int)) (.slice none 0 0))
  go_wp2_with fail
  refine ent_end45 rfl rfl ES.out ?_
  have hX : parX G = ⟨3, 0, nm, rui, rei, lii, su, []⟩ := by unfold parX; simp only [HK2.out, HN2.out, if_pos, if_neg (show ¬ (3 : Nat) = 1 by omega), if_neg (show ¬ (3 : Nat) = 2 by omega)]; rw [HS2.out, Hru.out, Hre.out, Hli.out, Hsu.out, HQ.out, show 2 + n + 4 = 6 + n by omega, show 2 + n + 12 = 14 + n by omega, show 2 + n + 20 = 22 + n by omega]
  unfold SeP
  rw [← HG.out, hX]
  have es := HSS.out
  have bs' := BS.out
  clear HSS ES BS
  subst es
  exact ⟨.slice none 0 0, rfl, OwnIB.nil _ _ bs'.size, bs'⟩
end Go.Proofs.YtlbekgcfafofdaaDoor
