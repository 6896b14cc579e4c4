/- The document's one: the first entry of some bytes. -/
import Derived.Test.YtlbekgcfafofdaaDoorSn
import Derived.Test.YtlbekgcfafofdaaDoorSo
import Derived.Test.YtlbekgcfafofdaaDoorSp
import Derived.Test.YtlbekgcfafofdaaDoorRk
namespace Go.Proofs.YtlbekgcfafofdaaDoor
section
open Go.RowKit

/-- The zeros that the document lays behind a body. -/
def z18 : List UInt8 := zs 400 ++ zs 1400
theorem z18_len : z18.length = 1800 := by unfold z18; rw [List.length_append, zs_len, zs_len]
theorem seems_ok (w : World) (v0 : Value) (b : List UInt8) (h0 : SlC w v0 b) (hbl : b.length ≤ 70000) : Calls Tryd.prog 45 #[v0] w (SeP w (b ++ z18)) := by
  have hl : 400 ≤ (b ++ zs 400).length := by rw [List.length_append, zs_len]; omega
  rw [show b ++ z18 = (b ++ zs 400) ++ zs 1400 by unfold z18; rw [List.append_assoc]]
  by_cases h3 : valB ((b ++ zs 400).take 1) = 3
  · exact seems3_ok w v0 b h0 hbl h3
  by_cases h5 : valB ((b ++ zs 400).take 1) = 5
  · exact seems5_ok w v0 b h0 hbl h5
  by_cases h1 : valB ((b ++ zs 400).take 1) = 1
  · exact (seems1_ok w v0 b h0 hbl h1).mono fun _ _ h => h.more hl h3 h5
  by_cases h2 : valB ((b ++ zs 400).take 1) = 2
  · exact (seems2_ok w v0 b h0 hbl h2).mono fun _ _ h => h.more hl h3 h5
  exact (seems0_ok w v0 b h0 hbl _ rfl h1 h2 h3 h5).mono fun _ _ h => h.more hl h3 h5
end
section
open Go.RowKit
set_option maxRecDepth 100000

theorem ent_end29 {K : Ending → World → Prop} {a : Act} {W : World} {p : Nat} {x0 x1 x2 x3 x4 x5 x6 x7 y z : Value} (ha : a.tmps.getD 4 undef = .pointer (some ⟨p, 0, none⟩)) (hy : a.tmps.getD 5 undef = y) (hz : a.tmps.getD 6 undef = z) (hd : a.defers = []) (h : CellsAt W p [x0, x1, x2, x3, x4, x5, x6, x7]) (hK : K (.returned (.tuple #[.agg #[x0, x1, x2, x3, x4, x5, x6, x7], y, z])) W) : bodyPost Tryd.prog Tryd.f29 K Exit.ret a W := by
  have ha2 : a.tmps[4]?.getD undef = .pointer (some ⟨p, 0, none⟩) := by simpa using ha
  have hy2 : a.tmps[5]?.getD undef = y := by simpa using hy
  have hz2 : a.tmps[6]?.getD undef = z := by simpa using hz
  have e0 := h.cell 0 _ rfl
  have e1 := h.cell 1 _ rfl
  have e2 := h.cell 2 _ rfl
  have e3 := h.cell 3 _ rfl
  have e4 := h.cell 4 _ rfl
  have e5 := h.cell 5 _ rfl
  have e6 := h.cell 6 _ rfl
  have e7 := h.cell 7 _ rfl
  exact bodyPost_ret (v := .tuple #[.agg #[x0, x1, x2, x3, x4, x5, x6, x7], y, z]) (by simp [results, Tryd.results29, go_sem, ha2, hy2, hz2, e0, e1, e2, e3, e4, e5, e6, e7]) hd hK
set_option maxHeartbeats 2400000 in
theorem one_ok (w : World) (bb off m0 n0 : Nat) (b : List UInt8) (n : Nat) (h0 : SlC w (.slice (some ⟨bb, off, none⟩) m0 n0) b) (hb0 : ¬ b.length = 0) (hbl : b.length ≤ 140737488355328) (hn : n < 9223372036854775808) : Calls Tryd.prog 29 #[.slice (some ⟨bb, off, none⟩) m0 n0, .int .i64 (n : Int)] w (FeP w b n) := by
  have R1 := CellsAt.new w Z8 27
  have B1 : Below w.heap.size w (w.alloc (.cells Z8.toArray 27)) := (inferInstance : Gr w _).h
  have S1 := h0.below B1
  have HBL := Lib.hid hbl
  have HN := Lib.hid hn
  have HB0 := Lib.hid hb0
  clear hbl hn h0 hb0
  go_enter Tryd.func29, Tryd.ntmps29
  go_upto_region 1 with fail
  change CellsAt (w.alloc (.cells #[.int .u8 0, .int .u64 0, .string ⟨#[]⟩, .int .i64 0, .int .i64 0, .int .i64 0, .int .u32 0, .slice none 0 0] 27)) _ _ at R1
  change Below _ w (w.alloc (.cells #[.int .u8 0, .int .u64 0, .string ⟨#[]⟩, .int .i64 0, .int .i64 0, .int .i64 0, .int .u32 0, .slice none 0 0] 27)) at B1
  change SlC (w.alloc (.cells #[.int .u8 0, .int .u64 0, .string ⟨#[]⟩, .int .i64 0, .int .i64 0, .int .i64 0, .int .u32 0, .slice none 0 0] 27)) _ _ at S1
  generalize w.alloc (.cells #[.int .u8 0, .int .u64 0, .string ⟨#[]⟩, .int .i64 0, .int .i64 0, .int .i64 0, .int .u32 0, .slice none 0 0] 27) = w1 at *
  have r0 := R1.cell 0 _ rfl
  have f0 := R1.free 0
  have r1 := R1.cell 1 _ rfl
  have f1 := R1.free 1
  have r2 := R1.cell 2 _ rfl
  have f2 := R1.free 2
  have r3 := R1.cell 3 _ rfl
  have f3 := R1.free 3
  have r4 := R1.cell 4 _ rfl
  have f4 := R1.free 4
  have r5 := R1.cell 5 _ rfl
  have f5 := R1.free 5
  have r6 := R1.cell 6 _ rfl
  have f6 := R1.free 6
  have r7 := R1.cell 7 _ rfl
  have f7 := R1.free 7
  have ES := Lib.hid (R1.set8 (.int .u8 0) (.int .u64 0) (.string ⟨#[]⟩) (.int .i64 0) (.int .i64 0) (.int .i64 0) (.int .u32 0) (.slice none 0 0))
  have BS := Lib.hid (below_set8 B1 (Nat.le_refl _) (.int .u8 0) (.int .u64 0) (.string ⟨#[]⟩) (.int .i64 0) (.int .i64 0) (.int .i64 0) (.int .u32 0) (.slice none 0 0))
  have HR := Lib.hid R1
  have HB := Lib.hid B1
  clear R1 B1
  obtain ⟨hm0, hmc, hc63, hblk, hcell⟩ := S1.lens
  obtain ⟨x, hx0, hx1⟩ : ∃ x : Nat, valB (b.take 1) = x ∧ w1.cell? ⟨bb, off, none⟩ = some (.int .u8 (x : Int)) := by
    cases b with
    | nil => exact absurd rfl HB0.out
    | cons y l => exact ⟨y.toNat, by simp [valB_one], by have := hcell 0 y rfl; simpa using this⟩
  have HX0 := Lib.hid hx0
  have HC := Lib.hid S1
  clear S1 hx0 hcell
  have hpos : (0 : Int) < (m0 : Int) := by have := HB0.out; omega
  have hmb := Lib.hid hm0
  clear hm0
  by_cases hx : x = 229
  · skip
    have HX : Hid (valB (b.take 1) = 229) := Lib.hid (HX0.out.trans hx)
    subst hx
    clear HX0
    by_cases h11 : m0 < 11
    · have H11 := Lib.hid h11
      go_wp2_with fail
      refine ent_end29 (y := .int .i64 0) (z := .int .i64 71) rfl rfl rfl rfl ES.out ?_
      exact fe_zero (er := 71) (by unfold feE; rw [if_neg HB0.out, if_neg (by rw [HX.out]; omega), if_pos (by have := hmb.out; have := H11.out; omega)]) (Or.inr (by omega)) BS.out
    · have h11' : 11 ≤ m0 := by omega
      have I11 : (11 : Int) ≤ (m0 : Int) := by omega
      clear h11
      have N1 := value_ok _ _ w1.drew (by rw [seg_len (by have := hmb.out; omega)]; omega) ((HC.out.drew).seg 7 4 (by have := hmb.out; omega) (by omega)).sl
      have SU := refSum_ok _ _ w1.drew (by rw [List.length_take]; have := HBL.out; omega) ((HC.out.drew).take 7 (by have := hmb.out; omega)).sl
      have N2 := value_ok _ _ w1.drew (by rw [seg_len (by have := hmb.out; omega)]; omega) ((HC.out.drew).seg 1 4 (by have := hmb.out; omega) (by omega)).sl
      have hs := sumN_lt (b.take 7)
      go_upto_region 5 with fail
      rename_i KK hKK
      by_cases hsum : valB (seg b 7 4) = sumN (b.take 7)
      · by_cases hnum : valB (seg b 1 4) = n
        · refine reg5_e (fun _ _ _ _ _ h => h) h11' hmc hs HN.out hsum N1 SU N2 ?_
          intro v20 v21 v22 v23 v24 v25 v26 v27 v28 v29 v30 v31 v32 v33 v34
          refine hKK _ _ ?_
          rw [show decide (valB (seg b 1 4) ≠ n) = false from decide_eq_false (by simpa using hnum)]
          have R2 : CellsAt w1.drew w.heap.size Z8 := HR.out.step (below_drewN w1 1)
          have B2 : Below w.heap.size w w1.drew := HB.out.trans (bdrewB (Below.refl _ _) 1)
          have C2 : SlC w1.drew _ b := HC.out
          clear r0 f0
          clear r1 f1
          clear r2 f2
          clear r3 f3
          clear r4 f4
          clear r5 f5
          clear r6 f6
          clear r7 f7
          clear hx1 HR HB HC ES BS hblk N1 SU N2
          generalize w1.drew = w2 at *
          have r0 := R2.cell 0 _ rfl
          have f0 := R2.free 0
          have r1 := R2.cell 1 _ rfl
          have f1 := R2.free 1
          have r2 := R2.cell 2 _ rfl
          have f2 := R2.free 2
          have r3 := R2.cell 3 _ rfl
          have f3 := R2.free 3
          have r4 := R2.cell 4 _ rfl
          have f4 := R2.free 4
          have r5 := R2.cell 5 _ rfl
          have f5 := R2.free 5
          have r6 := R2.cell 6 _ rfl
          have f6 := R2.free 6
          have r7 := R2.cell 7 _ rfl
          have f7 := R2.free 7
          have ES := Lib.hid (R2.set8 (.int .u8 0) (.int .u64 0) (.string ⟨#[]⟩) (.int .i64 0) (.int .i64 0) (.int .i64 0) (.int .u32 0) (.slice none 0 0))
          have BS := Lib.hid (below_set8 B2 (Nat.le_refl _) (.int .u8 0) (.int .u64 0) (.string ⟨#[]⟩) (.int .i64 0) (.int .i64 0) (.int .i64 0) (.int .u32 0) (.slice none 0 0))
          have HS := Lib.hid hsum
          have HU := Lib.hid hnum
          clear hsum hnum hs
          have NL := Lib.hid (value_ok _ _ w2 (by rw [seg_len (by have := hmb.out; omega)]; omega) (C2.seg 5 2 (by have := hmb.out; omega) (by omega)).sl)
          have hL : valB (seg b 5 2) < 65536 := by have h1 := valB_lt (seg b 5 2); rw [seg_len (by have := hmb.out; omega)] at h1; omega
          obtain ⟨L, hLv⟩ : ∃ L, L = valB (seg b 5 2) := ⟨_, rfl⟩
          rw [← hLv] at NL hL
          have HL : Hid (feL b = L) := Lib.hid hLv.symm
          clear hLv
          have L1 : (L : Int) ≤ 65535 := by omega
          have C5 : (7 : Int) ≤ (n0 : Int) := by omega
          have C6 : ¬ n0 = 5 := by omega
          have HC := Lib.hid C2
          have HR := Lib.hid R2
          have HB := Lib.hid B2
          clear C2 R2 B2
          go_upto_region 7 with fail
          go_wp2_with fail
          with_reducible refine NL.out.mono ?_
          rintro e w9 ⟨rfl, rfl⟩
          clear NL
          by_cases h15 : m0 < 15 + L
          · have i15 : (m0 : Int) < 15 + (L : Int) := by omega
            have H15 := Lib.hid h15
            clear h15 hL
            go_wp2_with fail
            refine ent_end29 (y := .int .i64 0) (z := .int .i64 71) rfl rfl rfl rfl ES.out ?_
            exact fe_zero (er := 71) (by unfold feE; rw [if_neg HB0.out, if_neg (by rw [HX.out]; omega), if_neg (by have := hmb.out; omega), if_neg (by simpa using HS.out), if_neg (by simpa using HU.out), if_pos (by rw [HL.out]; have := hmb.out; have := H15.out; omega)]) (Or.inr (by omega)) BS.out
          · have i15 : 15 + (L : Int) ≤ (m0 : Int) := by omega
            clear h15
            have C11 : (11 : Int) + (L : Int) ≤ (n0 : Int) := by omega
            have C12 : (0 : Int) ≤ (L : Int) := by omega
            have C13 : ¬ n0 = 11 := by omega
            have C15 : (15 : Int) + (L : Int) ≤ (n0 : Int) := by omega
            have C16 : ¬ n0 = 11 + L := by omega
            go_upto_region 11 with fail
            have N4 := value_ok _ _ w2 (by rw [seg_len (by have := hmb.out; omega)]; omega) (HC.out.seg (11 + L) 4 (by have := hmb.out; omega) (by omega)).sl
            have S4 := refSum_ok _ _ w2 (by have := HBL.out; have := seg_le b 11 L; omega) (HC.out.seg 11 L (by have := hmb.out; omega) (by omega)).sl
            have hsx : sumN (seg b 11 L) ≤ 4294967295 := by have := sumN_lt (seg b 11 L); omega
            obtain ⟨sx, hsv⟩ : ∃ sx, sx = sumN (seg b 11 L) := ⟨_, rfl⟩
            obtain ⟨nx, hnv⟩ : ∃ nx, nx = valB (seg b (11 + L) 4) := ⟨_, rfl⟩
            rw [← hsv] at S4 hsx
            rw [← hnv] at N4
            have HSV := Lib.hid hsv
            have HNV := Lib.hid hnv
            clear hsv hnv
            have HN4 : Hid (∀ (of ln cp : Nat), of = off + (11 + L) → ln = 4 → cp = n0 - (11 + L) → Calls Tryd.prog 44 #[.slice (some ⟨bb, of, none⟩) ln cp] w2 (Same w2 (.int .u64 (nx : Int)))) := Lib.hid (fun of ln cp h1 h2 h3 => by subst h1 h2 h3; exact N4)
            have HS4 : Hid (∀ ln cp : Nat, ln = L → cp = n0 - 11 → Calls Tryd.prog 41 #[.slice (some ⟨bb, off + 11, none⟩) ln cp] w2 (Same w2 (.int .u32 (sx : Int)))) := Lib.hid (fun ln cp h1 h2 => by subst h1 h2; exact S4)
            clear N4 S4
            have ix : (sx : Int) ≤ 4294967295 := by omega
            have HFB : Hid (feB b = seg b 11 L) := Lib.hid (by unfold feB; rw [HL.out])
            by_cases hbad : nx = sx
            · have HBAD := Lib.hid hbad
              subst hbad
              have hv1 : ¬ valB (seg b (11 + feL b) 4) ≠ sumN (feB b) := by rw [HFB.out, HL.out, ← HSV.out, ← HNV.out]; simp
              have HV1 := Lib.hid hv1
              clear hv1 HBAD
              go_wp2_with fail
              with_reducible refine (HN4.out _ _ _ (by omega) (by omega) (by omega)).mono ?_
              rintro e w9 ⟨rfl, rfl⟩
              go_wp2_with fail
              with_reducible refine (HS4.out _ _ (by omega) (by omega)).mono ?_
              rintro e w9 ⟨rfl, rfl⟩
              clear HN4 HS4
              clear r0 f0
              clear r1 f1
              clear r2 f2
              clear r3 f3
              clear r4 f4
              clear r5 f5
              clear r6 f6
              clear r7 f7
              clear ES BS
              have SI := HC.out.seg 11 L (by have := hmb.out; omega) (by omega)
              have lin : (seg b 11 L).length = L := seg_len (by have := hmb.out; omega)
              have SE := seems_ok w2 _ (seg b 11 L) SI (by omega)
              have PI := par_is (seg b 11 L ++ z18) (by rw [List.length_append, lin, z18_len]; omega)
              have OD := okD_okE (seg b 11 L) z18 (by omega) (by rw [z18_len]; omega)
              unfold SeP at SE
              unfold okD at OD
              generalize hXX : parX (seg b 11 L ++ z18) = X at *
              have HSI := Lib.hid SI
              have HLI := Lib.hid lin
              clear SI lin
              have HSE : Hid (∀ ln cp : Nat, ln = L → cp = n0 - 11 → Calls Tryd.prog 45 #[.slice (some ⟨bb, off + 11, none⟩) ln cp] w2 (fun e w' => ∃ u, e = .returned (eA X u) ∧ OwnIB w' w2.heap.size u X.inn ∧ Below w2.heap.size w2 w')) := Lib.hid (fun ln cp h1 h2 => by subst h1 h2; exact SE)
              clear SE
              have HOD := Lib.hid OD
              have HPI := Lib.hid PI
              clear OD PI
              have DM : ∀ (W : World) (u : Value), SlI W u X.inn → Calls Tryd.prog 25 #[eA X u] W (RetBelow W (.bool (mayP X))) := fun W u h => dmay_ok X HPI.out h
              have DB : mayP X = true → ∀ (W : World) (u : Value), SlI W u X.inn → Calls Tryd.prog 27 #[eA X u] W (RetSm W (bodyE X) 400) := fun hm W u h => dbody_ok X HPI.out ((may_iff X).1 hm) h
              generalize hmay : mayP X = my at *
              generalize hbod : bodyE X = bo at *
              have HXX := Lib.hid hXX
              clear hXX hmay hbod
              obtain ⟨k, pr, nm, ru, re, li, su, inn⟩ := X
              unfold eA at DM DB HSE
              simp only at DM DB HSE
              obtain ⟨s, hs⟩ : ∃ s, s = bs nm := ⟨_, rfl⟩
              rw [← hs] at DM DB HSE
              have HSS := Lib.hid hs
              clear hs
              have HDM := Lib.hid DM
              have HDB := Lib.hid DB
              clear DM DB
              go_wp2_with fail
              with_reducible refine (HSE.out _ _ (by omega) (by omega)).mono ?_
              rintro e w3 ⟨u, rfl, OI, B3⟩
              clear HSE
              obtain ⟨ua, un, uc, rfl⟩ : ∃ a n c, u = .slice a n c := by obtain ⟨a, c, h, _⟩ := OI.sl.form; exact ⟨_, _, _, h⟩
              have P4 : CellsAt (w3.alloc (.cells #[.int .u8 (k : Int), .int .u64 (pr : Int), .string s, .int .i64 ru, .int .i64 re, .int .i64 li, .int .u32 (su : Int), .slice ua un uc] 27)) w3.heap.size [.int .u8 (k : Int), .int .u64 (pr : Int), .string s, .int .i64 ru, .int .i64 re, .int .i64 li, .int .u32 (su : Int), .slice ua un uc] := CellsAt.new w3 [.int .u8 (k : Int), .int .u64 (pr : Int), .string s, .int .i64 ru, .int .i64 re, .int .i64 li, .int .u32 (su : Int), .slice ua un uc] 27
              have R4 : CellsAt (w3.alloc (.cells #[.int .u8 (k : Int), .int .u64 (pr : Int), .string s, .int .i64 ru, .int .i64 re, .int .i64 li, .int .u32 (su : Int), .slice ua un uc] 27)) w.heap.size Z8 := (HR.out.step B3).alloc _
              have C4 : SlB (w3.alloc (.cells #[.int .u8 (k : Int), .int .u64 (pr : Int), .string s, .int .i64 ru, .int .i64 re, .int .i64 li, .int .u32 (su : Int), .slice ua un uc] 27)) (.slice (some ⟨bb, off + 11, none⟩) L (n0 - 11)) (seg b 11 L) := (HSI.out.below B3).below (below_alloc w3 _) |>.sl
              have B4 : Below w.heap.size w (w3.alloc (.cells #[.int .u8 (k : Int), .int .u64 (pr : Int), .string s, .int .i64 ru, .int .i64 re, .int .i64 li, .int .u32 (su : Int), .slice ua un uc] 27)) := (HB.out.trans (B3.mono HB.out.size)).trans ((below_alloc w3 _).mono (HB.out.trans (B3.mono HB.out.size)).size)
              have O4 : OwnIB (w3.alloc (.cells #[.int .u8 (k : Int), .int .u64 (pr : Int), .string s, .int .i64 ru, .int .i64 re, .int .i64 li, .int .u32 (su : Int), .slice ua un uc] 27)) w2.heap.size (.slice ua un uc) inn := OI.below (below_alloc w3 _)
              have hw2 : w.heap.size < w2.heap.size := HR.out.lt
              have HP := Lib.hid P4
              have HR4 := Lib.hid R4
              have HC4 := Lib.hid C4
              have HB4 := Lib.hid B4
              have HO4 := Lib.hid O4
              have HW2 := Lib.hid hw2
              clear P4 R4 C4 B4 O4 hw2 HR HC HB OI B3 HSI
              go_upto_region 14 with fail
              generalize (w3.alloc (.cells #[.int .u8 (k : Int), .int .u64 (pr : Int), .string s, .int .i64 ru, .int .i64 re, .int .i64 li, .int .u32 (su : Int), .slice ua un uc] 27)) = w4 at *
              generalize w3.heap.size = p at *
              have x0 := HP.out.cell 0 _ rfl
              have x1 := HP.out.cell 1 _ rfl
              have x2 := HP.out.cell 2 _ rfl
              have x3 := HP.out.cell 3 _ rfl
              have x4 := HP.out.cell 4 _ rfl
              have x5 := HP.out.cell 5 _ rfl
              have x6 := HP.out.cell 6 _ rfl
              have x7 := HP.out.cell 7 _ rfl
              go_wp2_with fail
              with_reducible refine (HDM.out w4 _ HO4.out.sl).mono ?_
              rintro e w5 ⟨rfl, B5⟩
              clear x0
              clear x1
              clear x2
              clear x3
              clear x4
              clear x5
              clear x6
              clear x7
              have P5 := Lib.hid (HP.out.step (B5.trans (bdrewB (Below.refl _ _) 1)))
              have K5 : Below w4.heap.size w4 w5.drew := B5.trans (bdrewB (Below.refl _ _) 1)
              replace HP := Lib.hid (HP.out.step K5)
              replace HR4 := Lib.hid (HR4.out.step K5)
              replace HC4 := Lib.hid (HC4.out.below K5)
              replace HO4 := Lib.hid (HO4.out.below K5)
              replace HB4 := Lib.hid (HB4.out.trans (K5.mono HB4.out.size))
              clear P5
              clear K5 B5
              go_upto_region 15 with fail
              rename_i KK2 hKK2
              cases my with
              | false =>
                have hok : okE (feB b) = false := by rw [HFB.out, ← HOD.out.1]; rfl
                have HOK := Lib.hid hok
                clear hok
                refine reg15_n (fun _ _ _ _ _ h => h) rfl ?_
                intro v67 v68 v69 v70 v71 v72 v73 v74 v75 v76 v77 v78 v79 v80 v81 v82 v83
                refine hKK2 _ _ ?_
                generalize w5.drew = w6 at *
                have r0 := HR4.out.cell 0 _ rfl
                have f0 := HR4.out.free 0
                have r1 := HR4.out.cell 1 _ rfl
                have f1 := HR4.out.free 1
                have r2 := HR4.out.cell 2 _ rfl
                have f2 := HR4.out.free 2
                have r3 := HR4.out.cell 3 _ rfl
                have f3 := HR4.out.free 3
                have r4 := HR4.out.cell 4 _ rfl
                have f4 := HR4.out.free 4
                have r5 := HR4.out.cell 5 _ rfl
                have f5 := HR4.out.free 5
                have r6 := HR4.out.cell 6 _ rfl
                have f6 := HR4.out.free 6
                have r7 := HR4.out.cell 7 _ rfl
                have f7 := HR4.out.free 7
                have ES := Lib.hid (HR4.out.set8 (.int .u8 0) (.int .u64 0) (.string ⟨#[]⟩) (.int .i64 0) (.int .i64 0) (.int .i64 0) (.int .u32 0) (.slice none 0 0))
                have BS := Lib.hid (below_set8 HB4.out (Nat.le_refl _) (.int .u8 0) (.int .u64 0) (.string ⟨#[]⟩) (.int .i64 0) (.int .i64 0) (.int .i64 0) (.int .u32 0) (.slice none 0 0))
                go_wp2_with fail
                refine ent_end29 (y := .int .i64 0) (z := .int .i64 112) rfl rfl rfl rfl ES.out ?_
                exact fe_zero (er := 112) (by unfold feE; rw [if_neg HB0.out, if_neg (by rw [HX.out]; omega), if_neg (by have := hmb.out; omega), if_neg (by simpa using HS.out), if_neg (by simpa using HU.out), if_neg (by rw [HL.out]; have := hmb.out; omega), if_neg HV1.out, if_pos HOK.out]) (Or.inr (by omega)) BS.out
              | true =>
                by_cases hbo : bo = seg b 11 L
                · have hok : okE (feB b) = true := by rw [HFB.out, ← HOD.out.1, decide_eq_true hbo]; rfl
                  have hv2 : ¬ okE (feB b) = false := by rw [hok]; simp
                  have HV2 := Lib.hid hv2
                  clear hv2
                  have hpx : parX (feB b) = ⟨k, pr, nm, ru, re, li, su, inn⟩ := by rw [HFB.out] at hok ⊢; exact (HOD.out.2 hok).symm
                  have HPX := Lib.hid hpx
                  clear hpx hok
                  have HV3 : Hid ((decide ((parX (feB b)).k = 1) ≠ decide (n = 0)) = (decide (k = 1) ≠ decide (n = 0))) := Lib.hid (by rw [HPX.out])
                  refine reg15_s (fun _ _ _ _ _ h => h) rfl HP.out HC4.out bo hbo (fun W' h => HDB.out rfl W' _ (HO4.out.sl.below h)) ?_
                  intro v67 v68 v69 v70 v71 v72 v73 v74 v75 v76 v77 v78 v79 v80 v81 v82 v83 w6 B6
                  refine hKK2 _ _ ?_
                  replace HP := Lib.hid (HP.out.step B6)
                  replace HR4 := Lib.hid (HR4.out.step B6)
                  replace HO4 := Lib.hid (HO4.out.below B6)
                  replace HB4 := Lib.hid (HB4.out.trans (B6.mono HB4.out.size))
                  clear B6 HC4 HDB HDM
                  have hkb : (decide (k = 1) != decide (n = 0)) = true ↔ (decide (k = 1) ≠ decide (n = 0)) := by simp [bne_iff_ne]
                  generalize (decide (k = 1) != decide (n = 0)) = kb at *
                  cases kb with
                  | true =>
                    have HQ := Lib.hid (hkb.1 rfl)
                    clear hkb
                    have r0 := HR4.out.cell 0 _ rfl
                    have f0 := HR4.out.free 0
                    have r1 := HR4.out.cell 1 _ rfl
                    have f1 := HR4.out.free 1
                    have r2 := HR4.out.cell 2 _ rfl
                    have f2 := HR4.out.free 2
                    have r3 := HR4.out.cell 3 _ rfl
                    have f3 := HR4.out.free 3
                    have r4 := HR4.out.cell 4 _ rfl
                    have f4 := HR4.out.free 4
                    have r5 := HR4.out.cell 5 _ rfl
                    have f5 := HR4.out.free 5
                    have r6 := HR4.out.cell 6 _ rfl
                    have f6 := HR4.out.free 6
                    have r7 := HR4.out.cell 7 _ rfl
                    have f7 := HR4.out.free 7
                    have ES := Lib.hid (HR4.out.set8 (.int .u8 0) (.int .u64 0) (.string ⟨#[]⟩) (.int .i64 0) (.int .i64 0) (.int .i64 0) (.int .u32 0) (.slice none 0 0))
                    have BS := Lib.hid (below_set8 HB4.out (Nat.le_refl _) (.int .u8 0) (.int .u64 0) (.string ⟨#[]⟩) (.int .i64 0) (.int .i64 0) (.int .i64 0) (.int .u32 0) (.slice none 0 0))
                    go_wp2_with fail
                    refine ent_end29 (y := .int .i64 0) (z := .int .i64 112) rfl rfl rfl rfl ES.out ?_
                    exact fe_zero (er := 112) (by unfold feE; rw [if_neg HB0.out, if_neg (by rw [HX.out]; omega), if_neg (by have := hmb.out; omega), if_neg (by simpa using HS.out), if_neg (by simpa using HU.out), if_neg (by rw [HL.out]; have := hmb.out; omega), if_neg HV1.out, if_neg HV2.out, if_pos (by rw [HV3.out]; exact HQ.out)]) (Or.inr (by omega)) BS.out
                  | false =>
                    have HQ : Hid (¬ (decide (k = 1) ≠ decide (n = 0))) := Lib.hid (fun h => by have := hkb.2 h; cases this)
                    clear hkb
                    have x0 := HP.out.cell 0 _ rfl
                    have x1 := HP.out.cell 1 _ rfl
                    have x2 := HP.out.cell 2 _ rfl
                    have x3 := HP.out.cell 3 _ rfl
                    have x4 := HP.out.cell 4 _ rfl
                    have x5 := HP.out.cell 5 _ rfl
                    have x6 := HP.out.cell 6 _ rfl
                    have x7 := HP.out.cell 7 _ rfl
                    have r0 := HR4.out.cell 0 _ rfl
                    have f0 := HR4.out.free 0
                    have r1 := HR4.out.cell 1 _ rfl
                    have f1 := HR4.out.free 1
                    have r2 := HR4.out.cell 2 _ rfl
                    have f2 := HR4.out.free 2
                    have r3 := HR4.out.cell 3 _ rfl
                    have f3 := HR4.out.free 3
                    have r4 := HR4.out.cell 4 _ rfl
                    have f4 := HR4.out.free 4
                    have r5 := HR4.out.cell 5 _ rfl
                    have f5 := HR4.out.free 5
                    have r6 := HR4.out.cell 6 _ rfl
                    have f6 := HR4.out.free 6
                    have r7 := HR4.out.cell 7 _ rfl
                    have f7 := HR4.out.free 7
                    have ES := Lib.hid (HR4.out.set8 (.int .u8 (k : Int)) (.int .u64 (pr : Int)) (.string s) (.int .i64 ru) (.int .i64 re) (.int .i64 li) (.int .u32 (su : Int)) (.slice ua un uc))
                    have BS := Lib.hid (below_set8 HB4.out (Nat.le_refl _) (.int .u8 (k : Int)) (.int .u64 (pr : Int)) (.string s) (.int .i64 ru) (.int .i64 re) (.int .i64 li) (.int .u32 (su : Int)) (.slice ua un uc))
                    have OS := Lib.hid ((HO4.out.setLow8 HW2.out (.int .u8 (k : Int)) (.int .u64 (pr : Int)) (.string s) (.int .i64 ru) (.int .i64 re) (.int .i64 li) (.int .u32 (su : Int)) (.slice ua un uc)).base (Nat.le_of_lt HW2.out))
                    go_wp2_with fail
                    refine ent_end29 rfl rfl rfl rfl ES.out ?_
                    have es := ES.out
                    have bs' := BS.out
                    have os := OS.out
                    clear ES BS OS
                    have hss := HSS.out
                    subst hss
                    exact fe_good (X := ⟨k, pr, nm, ru, re, li, su, inn⟩) HL.out HPX.out HB0.out (by unfold feE; rw [if_neg HB0.out, if_neg (by rw [HX.out]; omega), if_neg (by have := hmb.out; omega), if_neg (by simpa using HS.out), if_neg (by simpa using HU.out), if_neg (by rw [HL.out]; have := hmb.out; omega), if_neg HV1.out, if_neg HV2.out, if_neg (by rw [HV3.out]; exact HQ.out)]) (by omega) os bs'
                · have hok : okE (feB b) = false := by rw [HFB.out, ← HOD.out.1, decide_eq_false hbo]; rfl
                  have HOK := Lib.hid hok
                  clear hok
                  refine reg15_d (fun _ _ _ _ _ h => h) rfl HP.out HC4.out bo hbo (fun W' h => HDB.out rfl W' _ (HO4.out.sl.below h)) ?_
                  intro v67 v68 v69 v70 v71 v72 v73 v74 v75 v76 v77 v78 v79 v80 v81 v82 v83 w6 B6
                  refine hKK2 _ _ ?_
                  replace HP := Lib.hid (HP.out.step B6)
                  replace HR4 := Lib.hid (HR4.out.step B6)
                  replace HO4 := Lib.hid (HO4.out.below B6)
                  replace HB4 := Lib.hid (HB4.out.trans (B6.mono HB4.out.size))
                  clear B6 HC4 HDB HDM
                  have r0 := HR4.out.cell 0 _ rfl
                  have f0 := HR4.out.free 0
                  have r1 := HR4.out.cell 1 _ rfl
                  have f1 := HR4.out.free 1
                  have r2 := HR4.out.cell 2 _ rfl
                  have f2 := HR4.out.free 2
                  have r3 := HR4.out.cell 3 _ rfl
                  have f3 := HR4.out.free 3
                  have r4 := HR4.out.cell 4 _ rfl
                  have f4 := HR4.out.free 4
                  have r5 := HR4.out.cell 5 _ rfl
                  have f5 := HR4.out.free 5
                  have r6 := HR4.out.cell 6 _ rfl
                  have f6 := HR4.out.free 6
                  have r7 := HR4.out.cell 7 _ rfl
                  have f7 := HR4.out.free 7
                  have ES := Lib.hid (HR4.out.set8 (.int .u8 0) (.int .u64 0) (.string ⟨#[]⟩) (.int .i64 0) (.int .i64 0) (.int .i64 0) (.int .u32 0) (.slice none 0 0))
                  have BS := Lib.hid (below_set8 HB4.out (Nat.le_refl _) (.int .u8 0) (.int .u64 0) (.string ⟨#[]⟩) (.int .i64 0) (.int .i64 0) (.int .i64 0) (.int .u32 0) (.slice none 0 0))
                  go_wp2_with fail
                  refine ent_end29 (y := .int .i64 0) (z := .int .i64 112) rfl rfl rfl rfl ES.out ?_
                  exact fe_zero (er := 112) (by unfold feE; rw [if_neg HB0.out, if_neg (by rw [HX.out]; omega), if_neg (by have := hmb.out; omega), if_neg (by simpa using HS.out), if_neg (by simpa using HU.out), if_neg (by rw [HL.out]; have := hmb.out; omega), if_neg HV1.out, if_pos HOK.out]) (Or.inr (by omega)) BS.out
            · have p1 : ((nx : Int) != (sx : Int)) = true := by simp; omega
              have p2 : ((nx : Int) == (sx : Int)) = false := by simp; omega
              have p3 : ¬ (nx : Int) = (sx : Int) := by omega
              have hv1 : valB (seg b (11 + feL b) 4) ≠ sumN (feB b) := by rw [HFB.out, HL.out, ← HSV.out, ← HNV.out]; exact hbad
              have HV1 := Lib.hid hv1
              clear hv1 hbad
              go_wp2_with fail
              with_reducible refine (HN4.out _ _ _ (by omega) (by omega) (by omega)).mono ?_
              rintro e w9 ⟨rfl, rfl⟩
              go_wp2_with fail
              with_reducible refine (HS4.out _ _ (by omega) (by omega)).mono ?_
              rintro e w9 ⟨rfl, rfl⟩
              go_wp2_with fail
              refine ent_end29 (y := .int .i64 0) (z := .int .i64 112) rfl rfl rfl rfl ES.out ?_
              exact fe_zero (er := 112) (by unfold feE; rw [if_neg HB0.out, if_neg (by rw [HX.out]; omega), if_neg (by have := hmb.out; omega), if_neg (by simpa using HS.out), if_neg (by simpa using HU.out), if_neg (by rw [HL.out]; have := hmb.out; omega), if_pos HV1.out]) (Or.inr (by omega)) BS.out
        · refine reg5_e (fun _ _ _ _ _ h => h) h11' hmc hs HN.out hsum N1 SU N2 ?_
          intro v20 v21 v22 v23 v24 v25 v26 v27 v28 v29 v30 v31 v32 v33 v34
          refine hKK _ _ ?_
          rw [show decide (valB (seg b 1 4) ≠ n) = true from decide_eq_true (by simpa using hnum)]
          have R2 : CellsAt w1.drew w.heap.size Z8 := HR.out.step (below_drewN w1 1)
          have B2 : Below w.heap.size w w1.drew := HB.out.trans (bdrewB (Below.refl _ _) 1)
          have C2 : SlC w1.drew _ b := HC.out
          clear r0 f0
          clear r1 f1
          clear r2 f2
          clear r3 f3
          clear r4 f4
          clear r5 f5
          clear r6 f6
          clear r7 f7
          clear hx1 HR HB HC ES BS hblk N1 SU N2
          generalize w1.drew = w2 at *
          have r0 := R2.cell 0 _ rfl
          have f0 := R2.free 0
          have r1 := R2.cell 1 _ rfl
          have f1 := R2.free 1
          have r2 := R2.cell 2 _ rfl
          have f2 := R2.free 2
          have r3 := R2.cell 3 _ rfl
          have f3 := R2.free 3
          have r4 := R2.cell 4 _ rfl
          have f4 := R2.free 4
          have r5 := R2.cell 5 _ rfl
          have f5 := R2.free 5
          have r6 := R2.cell 6 _ rfl
          have f6 := R2.free 6
          have r7 := R2.cell 7 _ rfl
          have f7 := R2.free 7
          have ES := Lib.hid (R2.set8 (.int .u8 0) (.int .u64 0) (.string ⟨#[]⟩) (.int .i64 0) (.int .i64 0) (.int .i64 0) (.int .u32 0) (.slice none 0 0))
          have BS := Lib.hid (below_set8 B2 (Nat.le_refl _) (.int .u8 0) (.int .u64 0) (.string ⟨#[]⟩) (.int .i64 0) (.int .i64 0) (.int .i64 0) (.int .u32 0) (.slice none 0 0))
          have HS := Lib.hid hsum
          have HU := Lib.hid hnum
          clear hsum hnum hs
          go_wp2_with fail
          refine ent_end29 (y := .int .i64 0) (z := .int .i64 112) rfl rfl rfl rfl ES.out ?_
          exact fe_zero (er := 112) (by unfold feE; rw [if_neg HB0.out, if_neg (by rw [HX.out]; omega), if_neg (by have := hmb.out; omega), if_neg (by simpa using HS.out), if_pos HU.out]) (Or.inr (by omega)) BS.out
      · refine reg5_t (z := 0) (fun _ _ _ _ _ h => h) h11' hmc hs HN.out hsum N1 SU ?_
        intro v20 v21 v22 v23 v24 v25 v26 v27 v28 v29 v30 v31 v32 v33 v34
        refine hKK _ _ ?_
        have R2 : CellsAt w1.drew w.heap.size Z8 := HR.out.step (below_drewN w1 1)
        have B2 : Below w.heap.size w w1.drew := HB.out.trans (bdrewB (Below.refl _ _) 1)
        have C2 : SlC w1.drew _ b := HC.out
        clear r0 f0
        clear r1 f1
        clear r2 f2
        clear r3 f3
        clear r4 f4
        clear r5 f5
        clear r6 f6
        clear r7 f7
        clear hx1 HR HB HC ES BS hblk N1 SU N2
        generalize w1.drew = w2 at *
        have r0 := R2.cell 0 _ rfl
        have f0 := R2.free 0
        have r1 := R2.cell 1 _ rfl
        have f1 := R2.free 1
        have r2 := R2.cell 2 _ rfl
        have f2 := R2.free 2
        have r3 := R2.cell 3 _ rfl
        have f3 := R2.free 3
        have r4 := R2.cell 4 _ rfl
        have f4 := R2.free 4
        have r5 := R2.cell 5 _ rfl
        have f5 := R2.free 5
        have r6 := R2.cell 6 _ rfl
        have f6 := R2.free 6
        have r7 := R2.cell 7 _ rfl
        have f7 := R2.free 7
        have ES := Lib.hid (R2.set8 (.int .u8 0) (.int .u64 0) (.string ⟨#[]⟩) (.int .i64 0) (.int .i64 0) (.int .i64 0) (.int .u32 0) (.slice none 0 0))
        have BS := Lib.hid (below_set8 B2 (Nat.le_refl _) (.int .u8 0) (.int .u64 0) (.string ⟨#[]⟩) (.int .i64 0) (.int .i64 0) (.int .i64 0) (.int .u32 0) (.slice none 0 0))
        have HS := Lib.hid hsum
        clear hsum hs
        go_wp2_with fail
        refine ent_end29 (y := .int .i64 0) (z := .int .i64 112) rfl rfl rfl rfl ES.out ?_
        exact fe_zero (er := 112) (by unfold feE; rw [if_neg HB0.out, if_neg (by rw [HX.out]; omega), if_neg (by have := hmb.out; omega), if_pos HS.out]) (Or.inr (by omega)) BS.out
  · have q1 : ((x : Int) != 229) = true := by simp; omega
    have q2 : decide ((x : Int) = 229) = false := decide_eq_false (by omega)
    have q3 : ¬ (x : Int) = 229 := by omega
    have HX := Lib.hid hx
    go_wp2_with fail
    refine ent_end29 (y := .int .i64 0) (z := .int .i64 112) rfl rfl rfl rfl ES.out ?_
    exact fe_zero (er := 112) (by unfold feE; rw [if_neg HB0.out, if_pos (by rw [HX0.out]; exact HX.out)]) (Or.inr (by omega)) BS.out
end
end Go.Proofs.YtlbekgcfafofdaaDoor
