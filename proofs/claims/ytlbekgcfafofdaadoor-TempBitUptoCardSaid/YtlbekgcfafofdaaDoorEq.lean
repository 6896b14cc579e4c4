/- The program's entryOf, by kinds. -/
import Derived.Test.YtlbekgcfafofdaaDoorRh
namespace Go.Proofs.YtlbekgcfafofdaaDoor
open Go.RowKit
set_option maxRecDepth 100000

set_option maxHeartbeats 6400000 in
theorem eo5_ok (w : World) (v0 : Value) (b : List UInt8) (h0 : SlC w v0 b) (hbl : b.length ≤ 140737488355328) (hk : valB (b.take 1) = 5) (T : Tabs w) : Calls Tryd.prog 43 #[v0] w (EoP w b) := by
  obtain ⟨a0, m0, n0, hv0⟩ : ∃ a m n, v0 = .slice a m n := by rcases h0 with ⟨h, _⟩ | ⟨bb, off, c, h, _⟩ <;> exact ⟨_, _, _, h⟩
  subst hv0
  have HBL := Lib.hid hbl
  clear hbl
  obtain ⟨C1, R1, B1, Z1⟩ := eo_start h0 (w1 := (w.alloc (.cells Z8.toArray 27)).alloc (.cells #[.slice a0 m0 n0, .bool false] 82)) rfl
  have HT := Lib.hid T
  clear T h0
  have HK := Lib.hid hk
  clear hk
  go_enter Tryd.func43, Tryd.ntmps43
  go_wp2_with fail
  change CutQ ((w.alloc (.cells #[.int .u8 0, .int .u64 0, .string ⟨#[]⟩, .int .i64 0, .int .i64 0, .int .i64 0, .int .u32 0, .slice none 0 0] 27)).alloc (.cells #[.slice a0 m0 n0, .bool false] 82)) _ _ _ _ at C1
  change CellsAt ((w.alloc (.cells #[.int .u8 0, .int .u64 0, .string ⟨#[]⟩, .int .i64 0, .int .i64 0, .int .i64 0, .int .u32 0, .slice none 0 0] 27)).alloc (.cells #[.slice a0 m0 n0, .bool false] 82)) _ _ at R1
  change Below _ w ((w.alloc (.cells #[.int .u8 0, .int .u64 0, .string ⟨#[]⟩, .int .i64 0, .int .i64 0, .int .i64 0, .int .u32 0, .slice none 0 0] 27)).alloc (.cells #[.slice a0 m0 n0, .bool false] 82)) at B1
  change ((w.alloc (.cells #[.int .u8 0, .int .u64 0, .string ⟨#[]⟩, .int .i64 0, .int .i64 0, .int .i64 0, .int .u32 0, .slice none 0 0] 27)).alloc (.cells #[.slice a0 m0 n0, .bool false] 82)).heap.size = _ at Z1
  generalize (w.alloc (.cells #[.int .u8 0, .int .u64 0, .string ⟨#[]⟩, .int .i64 0, .int .i64 0, .int .i64 0, .int .u32 0, .slice none 0 0] 27)).alloc (.cells #[.slice a0 m0 n0, .bool false] 82) = w1 at *
  have HZ1 := Lib.hid Z1
  clear Z1
  have N1 := Lib.hid (numq_ok (n := 1) (by omega) C1)
  have ks : seg b 0 1 = b.take 1 := rfl
  rw [ks, HK.out] at N1
  clear ks
  refine N1.out.mono ?_
  rintro e w2 ⟨rfl, v2, C2, K2⟩
  have R2 : CellsAt w2 w.heap.size Z8 := R1.kp K2 (by omega)
  have B2 : Below w.heap.size w w2 := B1.trans (K2.below B1.size fun x hx => by omega)
  have Z2 : w.heap.size + 2 ≤ w2.heap.size := by have := K2.size; have := HZ1.out; omega
  have E0 := eo_box (cs := [.int .u8 5, .int .u64 0, .string ⟨#[]⟩, .int .i64 0, .int .i64 0, .int .i64 0, .int .u32 0, .slice none 0 0]) R2 C2 B2 Z2
  clear R1 B1 C1 K2 N1 R2 B2 Z2 C2 HZ1
  go_upto_region 3 with fail
  change EoAt _ _ _ _ _ _ (w2.alloc (.cells #[.int .u8 5, .int .u64 0, .string ⟨#[]⟩, .int .i64 0, .int .i64 0, .int .i64 0, .int .u32 0, .slice none 0 0] 27)) at E0
  generalize w2.alloc (.cells #[.int .u8 5, .int .u64 0, .string ⟨#[]⟩, .int .i64 0, .int .i64 0, .int .i64 0, .int .u32 0, .slice none 0 0] 27) = w3 at *
  generalize w2.heap.size = p at *
  have x0 := E0.x.cell 0 _ rfl
  have IK := isKind_ok 5 w3
  rw [show isKind 5 = true from rfl] at IK
  have HIK := Lib.hid IK
  clear IK
  go_wp2_with fail
  refine HIK.out.mono ?_
  rintro e w9 ⟨rfl, rfl⟩
  clear HIK
  have cu := ((HT.out.below E0.bel).use 5 (by decide)).trans (show some (Value.int .u8 ((usesN 5 : Nat) : Int)) = some (.int .u8 110) from rfl)
  have U1 := Lib.hid (fun W => show Calls Tryd.prog 32 #[.int .u8 110, .int .u8 1] W (Same W (.bool false)) from has_ok 110 1 (by decide) (by decide) W)
  have U2 := Lib.hid (fun W => show Calls Tryd.prog 32 #[.int .u8 110, .int .u8 2] W (Same W (.bool true)) from has_ok 110 2 (by decide) (by decide) W)
  have U4 := Lib.hid (fun W => show Calls Tryd.prog 32 #[.int .u8 110, .int .u8 4] W (Same W (.bool true)) from has_ok 110 4 (by decide) (by decide) W)
  have U8 := Lib.hid (fun W => show Calls Tryd.prog 32 #[.int .u8 110, .int .u8 8] W (Same W (.bool true)) from has_ok 110 8 (by decide) (by decide) W)
  have U16 := Lib.hid (fun W => show Calls Tryd.prog 32 #[.int .u8 110, .int .u8 16] W (Same W (.bool false)) from has_ok 110 16 (by decide) (by decide) W)
  have U32 := Lib.hid (fun W => show Calls Tryd.prog 32 #[.int .u8 110, .int .u8 32] W (Same W (.bool true)) from has_ok 110 32 (by decide) (by decide) W)
  have U64 := Lib.hid (fun W => show Calls Tryd.prog 32 #[.int .u8 110, .int .u8 64] W (Same W (.bool true)) from has_ok 110 64 (by decide) (by decide) W)
  go_wp2_with fail
  refine (U1.out w3).mono ?_
  rintro e w9 ⟨rfl, rfl⟩
  clear cu x0
  go_wp2_with fail
  refine (U2.out w3).mono ?_
  rintro e w9 ⟨rfl, rfl⟩
  have NQ := Lib.hid (countq_ok (n := 1) (by omega) E0.c)
  have n256 : valB (seg b (0 + 1) 1) < 256 := by have h1 := valB_lt (seg b (0 + 1) 1); have h2 : 256 ^ (seg b (0 + 1) 1).length ≤ 256 ^ 1 := Nat.pow_le_pow_right (by omega) (seg_le _ _ _); omega
  rw [iw_small (show valB (seg b (0 + 1) 1) ≤ 9223372036854775807 by omega)] at NQ
  obtain ⟨n, hn⟩ : ∃ n, n = valB (seg b (0 + 1) 1) := ⟨_, rfl⟩
  rw [← hn] at NQ n256
  have HN := Lib.hid hn
  clear hn
  go_wp2_with fail
  refine NQ.out.mono ?_
  rintro e wc1 ⟨rfl, vc1, cq, kq⟩
  have EC1 := E0.cut cq kq
  clear E0 NQ cq kq
  have CQ := Lib.hid (cutq_ok (n := n) (by omega) EC1.c)
  go_wp2_with fail
  refine CQ.out.mono ?_
  rintro e wc2 ⟨vs, vc2, rfl, ss, cq, kq⟩
  have EC2 := EC1.cut cq kq
  have CT := conv_text ss.sl
  clear EC1 CQ cq kq ss
  have fz := EC2.x.free 2
  have cz := EC2.x.cell 2 _ rfl
  obtain ⟨s, hs⟩ : ∃ s, s = bs (seg b (0 + 1 + 1) n) := ⟨_, rfl⟩
  rw [← hs] at CT
  have HS := Lib.hid hs
  clear hs
  have EB := EC2.put 2 (.string s) (by simp)
  simp only [List.set_cons_succ, List.set_cons_zero] at EB
  clear EC2
  go_upto_region 10 with fail
  clear fz cz CT
  generalize wc2.setCell ⟨p, 2, none⟩ (.string s) = wd at *
  go_wp2_with fail
  refine (U4.out wd).mono ?_
  rintro e w9 ⟨rfl, rfl⟩
  have NQ := Lib.hid (countq_ok (n := 4) (by omega) EB.c)
  obtain ⟨y1, hy1⟩ : ∃ y, y = iw (valB (seg b (0 + 1 + 1 + n) 4)) := ⟨_, rfl⟩
  rw [← hy1] at NQ
  have HY1 := Lib.hid hy1
  clear hy1
  go_wp2_with fail
  refine NQ.out.mono ?_
  rintro e wa1 ⟨rfl, va1, cq, kq⟩
  have EA1 := EB.cut cq kq
  have fz := EA1.x.free 3
  have cz := EA1.x.cell 3 _ rfl
  have EB1 := EA1.put 3 (.int .i64 y1) (by simp)
  simp only [List.set_cons_succ, List.set_cons_zero] at EB1
  clear EB NQ cq kq EA1
  go_upto_region 12 with fail
  clear fz cz
  generalize wa1.setCell ⟨p, 3, none⟩ (.int .i64 y1) = wb1 at *
  go_wp2_with fail
  refine (U8.out wb1).mono ?_
  rintro e w9 ⟨rfl, rfl⟩
  have NQ := Lib.hid (countq_ok (n := 8) (by omega) EB1.c)
  obtain ⟨y2, hy2⟩ : ∃ y, y = iw (valB (seg b (0 + 1 + 1 + n + 4) 8)) := ⟨_, rfl⟩
  rw [← hy2] at NQ
  have HY2 := Lib.hid hy2
  clear hy2
  go_wp2_with fail
  refine NQ.out.mono ?_
  rintro e wa2 ⟨rfl, va2, cq, kq⟩
  have EA2 := EB1.cut cq kq
  have fz := EA2.x.free 4
  have cz := EA2.x.cell 4 _ rfl
  have EB2 := EA2.put 4 (.int .i64 y2) (by simp)
  simp only [List.set_cons_succ, List.set_cons_zero] at EB2
  clear EB1 NQ cq kq EA2
  go_upto_region 14 with fail
  clear fz cz
  generalize wa2.setCell ⟨p, 4, none⟩ (.int .i64 y2) = wb2 at *
  go_wp2_with fail
  refine (U16.out wb2).mono ?_
  rintro e w9 ⟨rfl, rfl⟩
  go_wp2_with fail
  refine (U32.out wb2).mono ?_
  rintro e w9 ⟨rfl, rfl⟩
  have NQ := Lib.hid (numq_ok (n := 4) (by omega) EB2.c)
  obtain ⟨y3, hy3⟩ : ∃ y, y = (valB (seg b (0 + 1 + 1 + n + 4 + 8) 4)) := ⟨_, rfl⟩
  rw [← hy3] at NQ
  have yb3 : y3 < 4294967296 := by rw [hy3]; exact valB_lt4 (seg_le _ _ _)
  have yi3 : (y3 : Int) ≤ 4294967295 := by omega
  have HY3 := Lib.hid hy3
  clear hy3
  go_wp2_with fail
  refine NQ.out.mono ?_
  rintro e wa3 ⟨rfl, va3, cq, kq⟩
  have EA3 := EB2.cut cq kq
  have fz := EA3.x.free 6
  have cz := EA3.x.cell 6 _ rfl
  have EB3 := EA3.put 6 (.int .u32 (y3 : Int)) (by simp)
  simp only [List.set_cons_succ, List.set_cons_zero] at EB3
  clear EB2 NQ cq kq EA3
  go_upto_region 18 with fail
  clear fz cz
  generalize wa3.setCell ⟨p, 6, none⟩ (.int .u32 (y3 : Int)) = wb3 at *
  go_wp2_with fail
  refine (U64.out wb3).mono ?_
  rintro e w9 ⟨rfl, rfl⟩
  have NQ := Lib.hid (countq_ok (n := 1) (by omega) EB3.c)
  have m256 : valB (seg b (0 + 1 + 1 + n + 4 + 8 + 4) 1) < 256 := by have h1 := valB_lt (seg b (0 + 1 + 1 + n + 4 + 8 + 4) 1); have h2 : 256 ^ (seg b (0 + 1 + 1 + n + 4 + 8 + 4) 1).length ≤ 256 ^ 1 := Nat.pow_le_pow_right (by omega) (seg_le _ _ _); omega
  rw [iw_small (show valB (seg b (0 + 1 + 1 + n + 4 + 8 + 4) 1) ≤ 9223372036854775807 by omega)] at NQ
  obtain ⟨m, hm⟩ : ∃ m, m = valB (seg b (0 + 1 + 1 + n + 4 + 8 + 4) 1) := ⟨_, rfl⟩
  rw [← hm] at NQ m256
  have HM := Lib.hid hm
  clear hm
  go_wp2_with fail
  refine NQ.out.mono ?_
  rintro e we1 ⟨rfl, ve1, cq, kq⟩
  have EF := EB3.cut cq kq
  clear EB3 NQ cq kq
  have PG := EF.x.lt
  have hr0 : EoIn w b (0 + 1 + 1 + n + 4 + 8 + 4 + 1) (.int .u8 5) (.int .u64 0) (.string s) (.int .i64 y1) (.int .i64 y2) (.int .i64 0) (.int .u32 (y3 : Int)) p m (.int .i64 0) we1 := ⟨0, Nat.zero_le _, rfl, _, _, EF, OwnIB.nil _ _ PG⟩
  have HR0 := Lib.hid hr0
  clear hr0 EF PG
  go_wp2_with fail
  go_loopw [51] (fun i wr => EoIn w b (0 + 1 + 1 + n + 4 + 8 + 4 + 1) (.int .u8 5) (.int .u64 0) (.string s) (.int .i64 y1) (.int .i64 y2) (.int .i64 0) (.int .u32 (y3 : Int)) p m i wr) (fun i _ => m - (intOf i).toNat)
  case atStart => exact HR0.out
  case round =>
    clear HR0
    obtain ⟨k, hk, rfl, u, v, E, O⟩ := hrel
    by_cases hlt : k < m
    · have kb : (k : Int) ≤ 255 := by omega
      have HE := Lib.hid E
      have HO := Lib.hid O
      clear E O
      go_upto_region 21 with fail
      rename_i KK hKK
      refine reg21 (fun _ _ _ _ _ h => h) HE.out HO.out (by rw [chunks_len]; omega) ?_
      intro v53 v54 v55 v56 v57 v58 u' v' W' EN ON
      refine hKK _ _ ?_
      have KEY := Lib.hid (show EoIn w b (0 + 1 + 1 + n + 4 + 8 + 4 + 1) (.int .u8 5) (.int .u64 0) (.string s) (.int .i64 y1) (.int .i64 y2) (.int .i64 0) (.int .u32 (y3 : Int)) p m (.int .i64 ((k : Int) + 1)) W' from ⟨k + 1, hlt, by go_num, u', v', by rw [show 0 + 1 + 1 + n + 4 + 8 + 4 + 1 + 4 * (k + 1) = 0 + 1 + 1 + n + 4 + 8 + 4 + 1 + 4 * k + 4 by omega]; exact EN, by rw [chunks_snoc, List.drop_drop]; exact ON⟩)
      clear EN ON HE HO
      go_wp2_with fail
      exact ⟨KEY.out, by simp [intOf]; omega⟩
    · obtain rfl : k = m := by omega
      clear hlt hk
      obtain ⟨ua, un, uc, rfl⟩ : ∃ a n c, u = .slice a n c := by obtain ⟨a, c, h, _⟩ := O.sl.form; exact ⟨_, _, _, h⟩
      have HE := Lib.hid E
      have HO := Lib.hid O
      clear E O
      go_upto_region 23 with fail
      rename_i KK hKK
      have EZ := HE.out
      clear HE
      have hkv : valB (seg b (18 + n) 1) = k := by rw [show 18 + n = 0 + 1 + 1 + n + 4 + 8 + 4 by omega]; exact HM.out.symm
      have hpx : parX b = ⟨5, 0, seg b (0 + 1 + 1) n, y1, y2, 0, y3, chunks k (b.drop (0 + 1 + 1 + n + 4 + 8 + 4 + 1))⟩ := by
        unfold parX
        simp only [HK.out, if_pos, if_neg (show ¬ (5 : Nat) = 1 by omega), if_neg (show ¬ (5 : Nat) = 2 by omega), if_neg (show ¬ (5 : Nat) = 3 by omega)]
        rw [show valB (seg b 1 1) = n from HN.out.symm, hkv, HY1.out, HY2.out, HY3.out]
        rw [show 0 + 1 + 1 + n = 2 + n by omega, show 2 + n + 4 = 6 + n by omega, show 6 + n + 8 = 14 + n by omega, show 14 + n + 4 = 18 + n by omega, show 18 + n + 1 = 19 + n by omega]
      have hpn : parN b = 0 + 1 + 1 + n + 4 + 8 + 4 + 1 + 4 * k := by
        unfold parN
        simp only [HK.out, if_pos, if_neg (show ¬ (5 : Nat) = 1 by omega), if_neg (show ¬ (5 : Nat) = 2 by omega), if_neg (show ¬ (5 : Nat) = 3 by omega)]
        rw [show valB (seg b 1 1) = n from HN.out.symm, hkv]
        omega
      have HPX := Lib.hid hpx
      have HPN := Lib.hid hpn
      clear hpx hpn hkv
      obtain ⟨ca, cm, cc, hcv, hcl⟩ : ∃ a m c, v = .slice a m c ∧ m = (b.drop (0 + 1 + 1 + n + 4 + 8 + 4 + 1 + 4 * k)).length := by rcases EZ.c.sl with ⟨h, h2⟩ | ⟨bb, off, c, h, _⟩ <;> first | exact ⟨_, _, _, h, rfl⟩ | exact ⟨_, _, _, h, by rw [h2]; rfl⟩
      rw [hcv] at EZ
      rw [List.length_drop] at hcl
      clear hcv
      have k0 := EZ.c.blk.cell 0 _ rfl
      have k1 := EZ.c.blk.cell 1 _ rfl
      have hpw := EZ.hp
      have HPW := Lib.hid hpw
      have EE := Lib.hid EZ
      clear EZ hpw
      by_cases hc1 : b.length < 0 + 1 + 1 + n + 4 + 8 + 4 + 1 + 4 * k
      · have hfl : decide (b.length < 0 + 1 + 1 + n + 4 + 8 + 4 + 1 + 4 * k) = true := decide_eq_true hc1
        have hne : decide (b.length = 0 + 1 + 1 + n + 4 + 8 + 4 + 1 + 4 * k) = false := decide_eq_false (by omega)
        rw [hfl] at k1
        refine reg23_lack (r := w.heap.size) (c := w.heap.size + 1) (p := p) (fun _ _ _ _ _ h => h) (by have := HPW.out; omega) (by omega) EE.out.x EE.out.c.blk.lt k0 k1 EE.out.r (fun x hx => by simp only [List.mem_cons, List.not_mem_nil, or_false] at hx; rcases hx with rfl|rfl|rfl|rfl|rfl|rfl|rfl|rfl <;> rfl) ?_
        intro a' h2 h3 hd
        have E5 := EE.out.drew
        have ES := E5.r.set8 (.int .u8 5) (.int .u64 0) (.string s) (.int .i64 y1) (.int .i64 y2) (.int .i64 0) (.int .u32 (y3 : Int)) (.slice ua un uc)
        have BS := below_set8 E5.bel (Nat.le_refl _) (.int .u8 5) (.int .u64 0) (.string s) (.int .i64 y1) (.int .i64 y2) (.int .i64 0) (.int .u32 (y3 : Int)) (.slice ua un uc)
        have OS := ((HO.out.below (below_drewN wr 1))).setLow8 (show w.heap.size < p + 1 by have := HPW.out; omega) (.int .u8 5) (.int .u64 0) (.string s) (.int .i64 y1) (.int .i64 y2) (.int .i64 0) (.int .u32 (y3 : Int)) (.slice ua un uc)
        refine hKK _ _ (wp_ret ?_)
        refine ent_end43 (y := .bool false) h2 h3 hd ES ?_
        have hok : okE b = false := by
          unfold okE
          rw [HPN.out, hne, Bool.false_and]
        refine ⟨.slice ua un uc, by rw [HPX.out, hok]; rw [HS.out]; rfl, by rw [HPX.out]; exact OS.base (by have := HPW.out; omega), BS⟩
      · have hfl : decide (b.length < 0 + 1 + 1 + n + 4 + 8 + 4 + 1 + 4 * k) = false := decide_eq_false hc1
        by_cases hc2 : b.length = 0 + 1 + 1 + n + 4 + 8 + 4 + 1 + 4 * k
        · have hne : decide (b.length = 0 + 1 + 1 + n + 4 + 8 + 4 + 1 + 4 * k) = true := decide_eq_true hc2
          rw [hfl] at k1
          have EX : EntIs (parX b) := par_is b HBL.out
          rw [HPX.out] at EX
          obtain ⟨mb, hmb, MB⟩ : ∃ mb, mb = mayP (parX b) ∧ Calls Tryd.prog 20 #[.agg #[.int .u8 5, .int .u64 0, .string s, .int .i64 y1, .int .i64 y2, .int .i64 0, .int .u32 (y3 : Int), .slice ua un uc]] wr.drew (RetBelow wr.drew (.bool mb)) :=
            ⟨mayP ⟨5, 0, seg b (0 + 1 + 1) n, y1, y2, 0, y3, chunks k (b.drop (0 + 1 + 1 + n + 4 + 8 + 4 + 1))⟩, by rw [HPX.out], by rw [HS.out]; exact mayBe_ok ⟨5, 0, seg b (0 + 1 + 1) n, y1, y2, 0, y3, chunks k (b.drop (0 + 1 + 1 + n + 4 + 8 + 4 + 1))⟩ EX (w := wr.drew) (u := .slice ua un uc) ((HO.out.below (below_drewN wr 1)).sl) (HT.out.below (EE.out.bel.trans (bdrewB (Below.refl _ _) 1)))⟩
          refine reg23_call (r := w.heap.size) (c := w.heap.size + 1) (p := p) (fun _ _ _ _ _ h => h) (by have := HPW.out; omega) (by omega) EE.out.x EE.out.c.blk.lt k0 k1 EE.out.r (fun x hx => by simp only [List.mem_cons, List.not_mem_nil, or_false] at hx; rcases hx with rfl|rfl|rfl|rfl|rfl|rfl|rfl|rfl <;> rfl) (by omega) MB ?_
          intro w5 b5 a' h2 h3 hd
          have E5 := EE.out.drew.below b5
          have ES := E5.r.set8 (.int .u8 5) (.int .u64 0) (.string s) (.int .i64 y1) (.int .i64 y2) (.int .i64 0) (.int .u32 (y3 : Int)) (.slice ua un uc)
          have BS := below_set8 E5.bel (Nat.le_refl _) (.int .u8 5) (.int .u64 0) (.string s) (.int .i64 y1) (.int .i64 y2) (.int .i64 0) (.int .u32 (y3 : Int)) (.slice ua un uc)
          have OS := ((HO.out.below (below_drewN wr 1)).below b5).setLow8 (show w.heap.size < p + 1 by have := HPW.out; omega) (.int .u8 5) (.int .u64 0) (.string s) (.int .i64 y1) (.int .i64 y2) (.int .i64 0) (.int .u32 (y3 : Int)) (.slice ua un uc)
          refine hKK _ _ (wp_ret ?_)
          refine ent_end43 (y := .bool mb) h2 h3 hd ES ?_
          have hok : okE b = mb := by
            unfold okE
            rw [HPN.out, hne, Bool.true_and]
            exact hmb.symm
          refine ⟨.slice ua un uc, by rw [HPX.out, hok]; rw [HS.out]; rfl, by rw [HPX.out]; exact OS.base (by have := HPW.out; omega), BS⟩
        · have hne : decide (b.length = 0 + 1 + 1 + n + 4 + 8 + 4 + 1 + 4 * k) = false := decide_eq_false hc2
          rw [hfl] at k1
          refine reg23_rest (r := w.heap.size) (c := w.heap.size + 1) (p := p) (fun _ _ _ _ _ h => h) (by have := HPW.out; omega) (by omega) EE.out.x EE.out.c.blk.lt k0 k1 EE.out.r (fun x hx => by simp only [List.mem_cons, List.not_mem_nil, or_false] at hx; rcases hx with rfl|rfl|rfl|rfl|rfl|rfl|rfl|rfl <;> rfl) (by omega) ?_
          intro a' h2 h3 hd
          have E5 := EE.out.drew
          have ES := E5.r.set8 (.int .u8 5) (.int .u64 0) (.string s) (.int .i64 y1) (.int .i64 y2) (.int .i64 0) (.int .u32 (y3 : Int)) (.slice ua un uc)
          have BS := below_set8 E5.bel (Nat.le_refl _) (.int .u8 5) (.int .u64 0) (.string s) (.int .i64 y1) (.int .i64 y2) (.int .i64 0) (.int .u32 (y3 : Int)) (.slice ua un uc)
          have OS := ((HO.out.below (below_drewN wr 1))).setLow8 (show w.heap.size < p + 1 by have := HPW.out; omega) (.int .u8 5) (.int .u64 0) (.string s) (.int .i64 y1) (.int .i64 y2) (.int .i64 0) (.int .u32 (y3 : Int)) (.slice ua un uc)
          refine hKK _ _ (wp_ret ?_)
          refine ent_end43 (y := .bool false) h2 h3 hd ES ?_
          have hok : okE b = false := by
            unfold okE
            rw [HPN.out, hne, Bool.false_and]
          refine ⟨.slice ua un uc, by rw [HPX.out, hok]; rw [HS.out]; rfl, by rw [HPX.out]; exact OS.base (by have := HPW.out; omega), BS⟩
end Go.Proofs.YtlbekgcfafofdaaDoor
