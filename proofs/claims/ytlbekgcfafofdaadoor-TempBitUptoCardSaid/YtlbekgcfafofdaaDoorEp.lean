/- The program's entryOf, by kinds. -/
import Derived.Test.YtlbekgcfafofdaaDoorRh
namespace Go.Proofs.YtlbekgcfafofdaaDoor
open Go.RowKit
set_option maxRecDepth 100000

set_option maxHeartbeats 6400000 in
theorem eo0_ok (w : World) (v0 : Value) (b : List UInt8) (h0 : SlC w v0 b) (hbl : b.length ≤ 140737488355328) (k : Nat) (hk : valB (b.take 1) = k) (hno : ¬ (1 ≤ k ∧ k ≤ 6)) (T : Tabs w) : Calls Tryd.prog 43 #[v0] w (EoP w b) := by
  obtain ⟨a0, m0, n0, hv0⟩ : ∃ a m n, v0 = .slice a m n := by rcases h0 with ⟨h, _⟩ | ⟨bb, off, c, h, _⟩ <;> exact ⟨_, _, _, h⟩
  subst hv0
  have HBL := Lib.hid hbl
  clear hbl
  obtain ⟨C1, R1, B1, Z1⟩ := eo_start h0 (w1 := (w.alloc (.cells Z8.toArray 27)).alloc (.cells #[.slice a0 m0 n0, .bool false] 82)) rfl
  have HT := Lib.hid T
  clear T h0
  have HK := Lib.hid hk
  clear hk
  go_enter Tryd.func43, Tryd.ntmps43
  go_wp2_with fail
  change CutQ ((w.alloc (.cells #[.int .u8 0, .int .u64 0, .string ⟨#[]⟩, .int .i64 0, .int .i64 0, .int .i64 0, .int .u32 0, .slice none 0 0] 27)).alloc (.cells #[.slice a0 m0 n0, .bool false] 82)) _ _ _ _ at C1
  change CellsAt ((w.alloc (.cells #[.int .u8 0, .int .u64 0, .string ⟨#[]⟩, .int .i64 0, .int .i64 0, .int .i64 0, .int .u32 0, .slice none 0 0] 27)).alloc (.cells #[.slice a0 m0 n0, .bool false] 82)) _ _ at R1
  change Below _ w ((w.alloc (.cells #[.int .u8 0, .int .u64 0, .string ⟨#[]⟩, .int .i64 0, .int .i64 0, .int .i64 0, .int .u32 0, .slice none 0 0] 27)).alloc (.cells #[.slice a0 m0 n0, .bool false] 82)) at B1
  change ((w.alloc (.cells #[.int .u8 0, .int .u64 0, .string ⟨#[]⟩, .int .i64 0, .int .i64 0, .int .i64 0, .int .u32 0, .slice none 0 0] 27)).alloc (.cells #[.slice a0 m0 n0, .bool false] 82)).heap.size = _ at Z1
  generalize (w.alloc (.cells #[.int .u8 0, .int .u64 0, .string ⟨#[]⟩, .int .i64 0, .int .i64 0, .int .i64 0, .int .u32 0, .slice none 0 0] 27)).alloc (.cells #[.slice a0 m0 n0, .bool false] 82) = w1 at *
  have HZ1 := Lib.hid Z1
  clear Z1
  have N1 := Lib.hid (numq_ok (n := 1) (by omega) C1)
  have ks : seg b 0 1 = b.take 1 := rfl
  rw [ks, HK.out] at N1
  clear ks
  have k256 : k < 256 := by
    rw [← HK.out]
    have h1 := valB_lt (b.take 1)
    have h2 : 256 ^ (b.take 1).length ≤ 256 ^ 1 := Nat.pow_le_pow_right (by omega) (by rw [List.length_take]; omega)
    omega
  have kb : (k : Int) ≤ 255 := by omega
  refine N1.out.mono ?_
  rintro e w2 ⟨rfl, v2, C2, K2⟩
  have R2 : CellsAt w2 w.heap.size Z8 := R1.kp K2 (by omega)
  have B2 : Below w.heap.size w w2 := B1.trans (K2.below B1.size fun x hx => by omega)
  have Z2 : w.heap.size + 2 ≤ w2.heap.size := by have := K2.size; have := HZ1.out; omega
  have E0 := eo_box (cs := [.int .u8 (k : Int), .int .u64 0, .string ⟨#[]⟩, .int .i64 0, .int .i64 0, .int .i64 0, .int .u32 0, .slice none 0 0]) R2 C2 B2 Z2
  clear R1 B1 C1 K2 N1 R2 B2 Z2 C2 HZ1
  go_upto_region 3 with fail
  change EoAt _ _ _ _ _ _ (w2.alloc (.cells #[.int .u8 (k : Int), .int .u64 0, .string ⟨#[]⟩, .int .i64 0, .int .i64 0, .int .i64 0, .int .u32 0, .slice none 0 0] 27)) at E0
  generalize w2.alloc (.cells #[.int .u8 (k : Int), .int .u64 0, .string ⟨#[]⟩, .int .i64 0, .int .i64 0, .int .i64 0, .int .u32 0, .slice none 0 0] 27) = w3 at *
  generalize w2.heap.size = p at *
  have x0 := E0.x.cell 0 _ rfl
  have IK := isKind_ok k w3
  rw [show isKind k = false from by simp [isKind]; omega] at IK
  have HIK := Lib.hid IK
  clear IK
  have HNO := Lib.hid hno
  clear hno k256
  go_wp2_with fail
  refine HIK.out.mono ?_
  rintro e w9 ⟨rfl, rfl⟩
  clear HIK
  have r0 := E0.r.cell 0 _ rfl
  have f0 := E0.r.free 0
  have x1 := E0.x.cell 1 _ rfl
  have r1 := E0.r.cell 1 _ rfl
  have f1 := E0.r.free 1
  have x2 := E0.x.cell 2 _ rfl
  have r2 := E0.r.cell 2 _ rfl
  have f2 := E0.r.free 2
  have x3 := E0.x.cell 3 _ rfl
  have r3 := E0.r.cell 3 _ rfl
  have f3 := E0.r.free 3
  have x4 := E0.x.cell 4 _ rfl
  have r4 := E0.r.cell 4 _ rfl
  have f4 := E0.r.free 4
  have x5 := E0.x.cell 5 _ rfl
  have r5 := E0.r.cell 5 _ rfl
  have f5 := E0.r.free 5
  have x6 := E0.x.cell 6 _ rfl
  have r6 := E0.r.cell 6 _ rfl
  have f6 := E0.r.free 6
  have x7 := E0.x.cell 7 _ rfl
  have r7 := E0.r.cell 7 _ rfl
  have f7 := E0.r.free 7
  have ES := Lib.hid (E0.r.set8 (.int .u8 (k : Int)) (.int .u64 0) (.string ⟨#[]⟩) (.int .i64 0) (.int .i64 0) (.int .i64 0) (.int .u32 0) (.slice none 0 0))
  have BS := Lib.hid (below_set8 E0.bel (Nat.le_refl _) (.int .u8 (k : Int)) (.int .u64 0) (.string ⟨#[]⟩) (.int .i64 0) (.int .i64 0) (.int .i64 0) (.int .u32 0) (.slice none 0 0))
  clear E0
  go_wp2_with fail
  refine ent_end43 (y := .bool false) rfl rfl rfl ES.out ?_
  have hpx : parX b = ⟨k, 0, [], 0, 0, 0, 0, []⟩ := by
    have := HNO.out
    unfold parX
    simp only [HK.out]
    rw [if_neg (show ¬ k = 1 by omega), if_neg (show ¬ k = 2 by omega), if_neg (show ¬ k = 3 by omega), if_neg (show ¬ k = 5 by omega)]
  have hok : okE b = false := by
    unfold okE
    rw [hpx, md0 _ HNO.out, Bool.and_false]
  rw [← show EoP w b = EoP w b from rfl]
  refine ⟨.slice none 0 0, by rw [hpx, hok]; rfl, by rw [hpx]; exact OwnIB.nil _ _ BS.out.size, BS.out⟩
set_option maxHeartbeats 6400000 in
theorem eo4_ok (w : World) (v0 : Value) (b : List UInt8) (h0 : SlC w v0 b) (hbl : b.length ≤ 140737488355328) (hk : valB (b.take 1) = 4) (T : Tabs w) : Calls Tryd.prog 43 #[v0] w (EoP w b) := by
  obtain ⟨a0, m0, n0, hv0⟩ : ∃ a m n, v0 = .slice a m n := by rcases h0 with ⟨h, _⟩ | ⟨bb, off, c, h, _⟩ <;> exact ⟨_, _, _, h⟩
  subst hv0
  have HBL := Lib.hid hbl
  clear hbl
  obtain ⟨C1, R1, B1, Z1⟩ := eo_start h0 (w1 := (w.alloc (.cells Z8.toArray 27)).alloc (.cells #[.slice a0 m0 n0, .bool false] 82)) rfl
  have HT := Lib.hid T
  clear T h0
  have HK := Lib.hid hk
  clear hk
  go_enter Tryd.func43, Tryd.ntmps43
  go_wp2_with fail
  change CutQ ((w.alloc (.cells #[.int .u8 0, .int .u64 0, .string ⟨#[]⟩, .int .i64 0, .int .i64 0, .int .i64 0, .int .u32 0, .slice none 0 0] 27)).alloc (.cells #[.slice a0 m0 n0, .bool false] 82)) _ _ _ _ at C1
  change CellsAt ((w.alloc (.cells #[.int .u8 0, .int .u64 0, .string ⟨#[]⟩, .int .i64 0, .int .i64 0, .int .i64 0, .int .u32 0, .slice none 0 0] 27)).alloc (.cells #[.slice a0 m0 n0, .bool false] 82)) _ _ at R1
  change Below _ w ((w.alloc (.cells #[.int .u8 0, .int .u64 0, .string ⟨#[]⟩, .int .i64 0, .int .i64 0, .int .i64 0, .int .u32 0, .slice none 0 0] 27)).alloc (.cells #[.slice a0 m0 n0, .bool false] 82)) at B1
  change ((w.alloc (.cells #[.int .u8 0, .int .u64 0, .string ⟨#[]⟩, .int .i64 0, .int .i64 0, .int .i64 0, .int .u32 0, .slice none 0 0] 27)).alloc (.cells #[.slice a0 m0 n0, .bool false] 82)).heap.size = _ at Z1
  generalize (w.alloc (.cells #[.int .u8 0, .int .u64 0, .string ⟨#[]⟩, .int .i64 0, .int .i64 0, .int .i64 0, .int .u32 0, .slice none 0 0] 27)).alloc (.cells #[.slice a0 m0 n0, .bool false] 82) = w1 at *
  have HZ1 := Lib.hid Z1
  clear Z1
  have N1 := Lib.hid (numq_ok (n := 1) (by omega) C1)
  have ks : seg b 0 1 = b.take 1 := rfl
  rw [ks, HK.out] at N1
  clear ks
  refine N1.out.mono ?_
  rintro e w2 ⟨rfl, v2, C2, K2⟩
  have R2 : CellsAt w2 w.heap.size Z8 := R1.kp K2 (by omega)
  have B2 : Below w.heap.size w w2 := B1.trans (K2.below B1.size fun x hx => by omega)
  have Z2 : w.heap.size + 2 ≤ w2.heap.size := by have := K2.size; have := HZ1.out; omega
  have E0 := eo_box (cs := [.int .u8 4, .int .u64 0, .string ⟨#[]⟩, .int .i64 0, .int .i64 0, .int .i64 0, .int .u32 0, .slice none 0 0]) R2 C2 B2 Z2
  clear R1 B1 C1 K2 N1 R2 B2 Z2 C2 HZ1
  go_upto_region 3 with fail
  change EoAt _ _ _ _ _ _ (w2.alloc (.cells #[.int .u8 4, .int .u64 0, .string ⟨#[]⟩, .int .i64 0, .int .i64 0, .int .i64 0, .int .u32 0, .slice none 0 0] 27)) at E0
  generalize w2.alloc (.cells #[.int .u8 4, .int .u64 0, .string ⟨#[]⟩, .int .i64 0, .int .i64 0, .int .i64 0, .int .u32 0, .slice none 0 0] 27) = w3 at *
  generalize w2.heap.size = p at *
  have x0 := E0.x.cell 0 _ rfl
  have IK := isKind_ok 4 w3
  rw [show isKind 4 = true from rfl] at IK
  have HIK := Lib.hid IK
  clear IK
  go_wp2_with fail
  refine HIK.out.mono ?_
  rintro e w9 ⟨rfl, rfl⟩
  clear HIK
  have cu := ((HT.out.below E0.bel).use 4 (by decide)).trans (show some (Value.int .u8 ((usesN 4 : Nat) : Int)) = some (.int .u8 0) from rfl)
  have U1 := Lib.hid (fun W => show Calls Tryd.prog 32 #[.int .u8 0, .int .u8 1] W (Same W (.bool false)) from has_ok 0 1 (by decide) (by decide) W)
  have U2 := Lib.hid (fun W => show Calls Tryd.prog 32 #[.int .u8 0, .int .u8 2] W (Same W (.bool false)) from has_ok 0 2 (by decide) (by decide) W)
  have U4 := Lib.hid (fun W => show Calls Tryd.prog 32 #[.int .u8 0, .int .u8 4] W (Same W (.bool false)) from has_ok 0 4 (by decide) (by decide) W)
  have U8 := Lib.hid (fun W => show Calls Tryd.prog 32 #[.int .u8 0, .int .u8 8] W (Same W (.bool false)) from has_ok 0 8 (by decide) (by decide) W)
  have U16 := Lib.hid (fun W => show Calls Tryd.prog 32 #[.int .u8 0, .int .u8 16] W (Same W (.bool false)) from has_ok 0 16 (by decide) (by decide) W)
  have U32 := Lib.hid (fun W => show Calls Tryd.prog 32 #[.int .u8 0, .int .u8 32] W (Same W (.bool false)) from has_ok 0 32 (by decide) (by decide) W)
  have U64 := Lib.hid (fun W => show Calls Tryd.prog 32 #[.int .u8 0, .int .u8 64] W (Same W (.bool false)) from has_ok 0 64 (by decide) (by decide) W)
  go_wp2_with fail
  refine (U1.out w3).mono ?_
  rintro e w9 ⟨rfl, rfl⟩
  clear cu x0
  go_wp2_with fail
  refine (U2.out w3).mono ?_
  rintro e w9 ⟨rfl, rfl⟩
  go_wp2_with fail
  refine (U4.out w3).mono ?_
  rintro e w9 ⟨rfl, rfl⟩
  go_wp2_with fail
  refine (U8.out w3).mono ?_
  rintro e w9 ⟨rfl, rfl⟩
  go_wp2_with fail
  refine (U16.out w3).mono ?_
  rintro e w9 ⟨rfl, rfl⟩
  go_wp2_with fail
  refine (U32.out w3).mono ?_
  rintro e w9 ⟨rfl, rfl⟩
  go_wp2_with fail
  refine (U64.out w3).mono ?_
  rintro e w9 ⟨rfl, rfl⟩
  go_upto_region 23 with fail
  rename_i KK hKK
  have hpx : parX b = ⟨4, 0, [], 0, 0, 0, 0, []⟩ := by
    unfold parX
    simp only [HK.out]
    rw [if_neg (show ¬ (4 : Nat) = 1 by omega), if_neg (show ¬ (4 : Nat) = 2 by omega), if_neg (show ¬ (4 : Nat) = 3 by omega), if_neg (show ¬ (4 : Nat) = 5 by omega)]
  have hpn : parN b = 0 + 1 := by
    unfold parN
    simp only [HK.out]
    rw [if_neg (show ¬ (4 : Nat) = 1 by omega), if_neg (show ¬ (4 : Nat) = 2 by omega), if_neg (show ¬ (4 : Nat) = 3 by omega), if_neg (show ¬ (4 : Nat) = 5 by omega)]
  have HPX := Lib.hid hpx
  have HPN := Lib.hid hpn
  clear hpx hpn
  obtain ⟨ca, cm, cc, hcv, hcl⟩ : ∃ a m c, v2 = .slice a m c ∧ m = (b.drop (0 + 1)).length := by rcases E0.c.sl with ⟨h, h2⟩ | ⟨bb, off, c, h, _⟩ <;> first | exact ⟨_, _, _, h, rfl⟩ | exact ⟨_, _, _, h, by rw [h2]; rfl⟩
  rw [hcv] at E0
  rw [List.length_drop] at hcl
  clear hcv
  have k0 := E0.c.blk.cell 0 _ rfl
  have k1 := E0.c.blk.cell 1 _ rfl
  have hpw := E0.hp
  have HPW := Lib.hid hpw
  have EE := Lib.hid E0
  clear E0 hpw
  by_cases hc1 : b.length < 0 + 1
  · have hfl : decide (b.length < 0 + 1) = true := decide_eq_true hc1
    have hne : decide (b.length = 0 + 1) = false := decide_eq_false (by omega)
    rw [hfl] at k1
    refine reg23_lack (r := w.heap.size) (c := w.heap.size + 1) (p := p) (fun _ _ _ _ _ h => h) (by have := HPW.out; omega) (by omega) EE.out.x EE.out.c.blk.lt k0 k1 EE.out.r (fun x hx => by simp only [List.mem_cons, List.not_mem_nil, or_false] at hx; rcases hx with rfl|rfl|rfl|rfl|rfl|rfl|rfl|rfl <;> rfl) ?_
    intro a' h2 h3 hd
    have E5 := EE.out.drew
    have ES := E5.r.set8 (.int .u8 4) (.int .u64 0) (.string ⟨#[]⟩) (.int .i64 0) (.int .i64 0) (.int .i64 0) (.int .u32 0) (.slice none 0 0)
    have BS := below_set8 E5.bel (Nat.le_refl _) (.int .u8 4) (.int .u64 0) (.string ⟨#[]⟩) (.int .i64 0) (.int .i64 0) (.int .i64 0) (.int .u32 0) (.slice none 0 0)
    refine hKK _ _ (wp_ret ?_)
    refine ent_end43 (y := .bool false) h2 h3 hd ES ?_
    have hok : okE b = false := by
      unfold okE
      rw [HPN.out, hne, Bool.false_and]
    refine ⟨.slice none 0 0, by rw [HPX.out, hok]; rfl, by rw [HPX.out]; exact OwnIB.nil _ _ BS.size, BS⟩
  · have hfl : decide (b.length < 0 + 1) = false := decide_eq_false hc1
    by_cases hc2 : b.length = 0 + 1
    · have hne : decide (b.length = 0 + 1) = true := decide_eq_true hc2
      rw [hfl] at k1
      have EX : EntIs (parX b) := par_is b HBL.out
      rw [HPX.out] at EX
      obtain ⟨mb, hmb, MB⟩ : ∃ mb, mb = mayP (parX b) ∧ Calls Tryd.prog 20 #[.agg #[.int .u8 4, .int .u64 0, .string ⟨#[]⟩, .int .i64 0, .int .i64 0, .int .i64 0, .int .u32 0, .slice none 0 0]] w3.drew (RetBelow w3.drew (.bool mb)) :=
        ⟨mayP ⟨4, 0, [], 0, 0, 0, 0, []⟩, by rw [HPX.out], by exact mayBe_ok ⟨4, 0, [], 0, 0, 0, 0, []⟩ EX (w := w3.drew) (u := .slice none 0 0) (SlAt.nil _) (HT.out.below (EE.out.bel.trans (bdrewB (Below.refl _ _) 1)))⟩
      refine reg23_call (r := w.heap.size) (c := w.heap.size + 1) (p := p) (fun _ _ _ _ _ h => h) (by have := HPW.out; omega) (by omega) EE.out.x EE.out.c.blk.lt k0 k1 EE.out.r (fun x hx => by simp only [List.mem_cons, List.not_mem_nil, or_false] at hx; rcases hx with rfl|rfl|rfl|rfl|rfl|rfl|rfl|rfl <;> rfl) (by omega) MB ?_
      intro w5 b5 a' h2 h3 hd
      have E5 := EE.out.drew.below b5
      have ES := E5.r.set8 (.int .u8 4) (.int .u64 0) (.string ⟨#[]⟩) (.int .i64 0) (.int .i64 0) (.int .i64 0) (.int .u32 0) (.slice none 0 0)
      have BS := below_set8 E5.bel (Nat.le_refl _) (.int .u8 4) (.int .u64 0) (.string ⟨#[]⟩) (.int .i64 0) (.int .i64 0) (.int .i64 0) (.int .u32 0) (.slice none 0 0)
      refine hKK _ _ (wp_ret ?_)
      refine ent_end43 (y := .bool mb) h2 h3 hd ES ?_
      have hok : okE b = mb := by
        unfold okE
        rw [HPN.out, hne, Bool.true_and]
        exact hmb.symm
      refine ⟨.slice none 0 0, by rw [HPX.out, hok]; rfl, by rw [HPX.out]; exact OwnIB.nil _ _ BS.size, BS⟩
    · have hne : decide (b.length = 0 + 1) = false := decide_eq_false hc2
      rw [hfl] at k1
      refine reg23_rest (r := w.heap.size) (c := w.heap.size + 1) (p := p) (fun _ _ _ _ _ h => h) (by have := HPW.out; omega) (by omega) EE.out.x EE.out.c.blk.lt k0 k1 EE.out.r (fun x hx => by simp only [List.mem_cons, List.not_mem_nil, or_false] at hx; rcases hx with rfl|rfl|rfl|rfl|rfl|rfl|rfl|rfl <;> rfl) (by omega) ?_
      intro a' h2 h3 hd
      have E5 := EE.out.drew
      have ES := E5.r.set8 (.int .u8 4) (.int .u64 0) (.string ⟨#[]⟩) (.int .i64 0) (.int .i64 0) (.int .i64 0) (.int .u32 0) (.slice none 0 0)
      have BS := below_set8 E5.bel (Nat.le_refl _) (.int .u8 4) (.int .u64 0) (.string ⟨#[]⟩) (.int .i64 0) (.int .i64 0) (.int .i64 0) (.int .u32 0) (.slice none 0 0)
      refine hKK _ _ (wp_ret ?_)
      refine ent_end43 (y := .bool false) h2 h3 hd ES ?_
      have hok : okE b = false := by
        unfold okE
        rw [HPN.out, hne, Bool.false_and]
      refine ⟨.slice none 0 0, by rw [HPX.out, hok]; rfl, by rw [HPX.out]; exact OwnIB.nil _ _ BS.size, BS⟩
set_option maxHeartbeats 6400000 in
theorem eo6_ok (w : World) (v0 : Value) (b : List UInt8) (h0 : SlC w v0 b) (hbl : b.length ≤ 140737488355328) (hk : valB (b.take 1) = 6) (T : Tabs w) : Calls Tryd.prog 43 #[v0] w (EoP w b) := by
  obtain ⟨a0, m0, n0, hv0⟩ : ∃ a m n, v0 = .slice a m n := by rcases h0 with ⟨h, _⟩ | ⟨bb, off, c, h, _⟩ <;> exact ⟨_, _, _, h⟩
  subst hv0
  have HBL := Lib.hid hbl
  clear hbl
  obtain ⟨C1, R1, B1, Z1⟩ := eo_start h0 (w1 := (w.alloc (.cells Z8.toArray 27)).alloc (.cells #[.slice a0 m0 n0, .bool false] 82)) rfl
  have HT := Lib.hid T
  clear T h0
  have HK := Lib.hid hk
  clear hk
  go_enter Tryd.func43, Tryd.ntmps43
  go_wp2_with fail
  change CutQ ((w.alloc (.cells #[.int .u8 0, .int .u64 0, .string ⟨#[]⟩, .int .i64 0, .int .i64 0, .int .i64 0, .int .u32 0, .slice none 0 0] 27)).alloc (.cells #[.slice a0 m0 n0, .bool false] 82)) _ _ _ _ at C1
  change CellsAt ((w.alloc (.cells #[.int .u8 0, .int .u64 0, .string ⟨#[]⟩, .int .i64 0, .int .i64 0, .int .i64 0, .int .u32 0, .slice none 0 0] 27)).alloc (.cells #[.slice a0 m0 n0, .bool false] 82)) _ _ at R1
  change Below _ w ((w.alloc (.cells #[.int .u8 0, .int .u64 0, .string ⟨#[]⟩, .int .i64 0, .int .i64 0, .int .i64 0, .int .u32 0, .slice none 0 0] 27)).alloc (.cells #[.slice a0 m0 n0, .bool false] 82)) at B1
  change ((w.alloc (.cells #[.int .u8 0, .int .u64 0, .string ⟨#[]⟩, .int .i64 0, .int .i64 0, .int .i64 0, .int .u32 0, .slice none 0 0] 27)).alloc (.cells #[.slice a0 m0 n0, .bool false] 82)).heap.size = _ at Z1
  generalize (w.alloc (.cells #[.int .u8 0, .int .u64 0, .string ⟨#[]⟩, .int .i64 0, .int .i64 0, .int .i64 0, .int .u32 0, .slice none 0 0] 27)).alloc (.cells #[.slice a0 m0 n0, .bool false] 82) = w1 at *
  have HZ1 := Lib.hid Z1
  clear Z1
  have N1 := Lib.hid (numq_ok (n := 1) (by omega) C1)
  have ks : seg b 0 1 = b.take 1 := rfl
  rw [ks, HK.out] at N1
  clear ks
  refine N1.out.mono ?_
  rintro e w2 ⟨rfl, v2, C2, K2⟩
  have R2 : CellsAt w2 w.heap.size Z8 := R1.kp K2 (by omega)
  have B2 : Below w.heap.size w w2 := B1.trans (K2.below B1.size fun x hx => by omega)
  have Z2 : w.heap.size + 2 ≤ w2.heap.size := by have := K2.size; have := HZ1.out; omega
  have E0 := eo_box (cs := [.int .u8 6, .int .u64 0, .string ⟨#[]⟩, .int .i64 0, .int .i64 0, .int .i64 0, .int .u32 0, .slice none 0 0]) R2 C2 B2 Z2
  clear R1 B1 C1 K2 N1 R2 B2 Z2 C2 HZ1
  go_upto_region 3 with fail
  change EoAt _ _ _ _ _ _ (w2.alloc (.cells #[.int .u8 6, .int .u64 0, .string ⟨#[]⟩, .int .i64 0, .int .i64 0, .int .i64 0, .int .u32 0, .slice none 0 0] 27)) at E0
  generalize w2.alloc (.cells #[.int .u8 6, .int .u64 0, .string ⟨#[]⟩, .int .i64 0, .int .i64 0, .int .i64 0, .int .u32 0, .slice none 0 0] 27) = w3 at *
  generalize w2.heap.size = p at *
  have x0 := E0.x.cell 0 _ rfl
  have IK := isKind_ok 6 w3
  rw [show isKind 6 = true from rfl] at IK
  have HIK := Lib.hid IK
  clear IK
  go_wp2_with fail
  refine HIK.out.mono ?_
  rintro e w9 ⟨rfl, rfl⟩
  clear HIK
  have cu := ((HT.out.below E0.bel).use 6 (by decide)).trans (show some (Value.int .u8 ((usesN 6 : Nat) : Int)) = some (.int .u8 0) from rfl)
  have U1 := Lib.hid (fun W => show Calls Tryd.prog 32 #[.int .u8 0, .int .u8 1] W (Same W (.bool false)) from has_ok 0 1 (by decide) (by decide) W)
  have U2 := Lib.hid (fun W => show Calls Tryd.prog 32 #[.int .u8 0, .int .u8 2] W (Same W (.bool false)) from has_ok 0 2 (by decide) (by decide) W)
  have U4 := Lib.hid (fun W => show Calls Tryd.prog 32 #[.int .u8 0, .int .u8 4] W (Same W (.bool false)) from has_ok 0 4 (by decide) (by decide) W)
  have U8 := Lib.hid (fun W => show Calls Tryd.prog 32 #[.int .u8 0, .int .u8 8] W (Same W (.bool false)) from has_ok 0 8 (by decide) (by decide) W)
  have U16 := Lib.hid (fun W => show Calls Tryd.prog 32 #[.int .u8 0, .int .u8 16] W (Same W (.bool false)) from has_ok 0 16 (by decide) (by decide) W)
  have U32 := Lib.hid (fun W => show Calls Tryd.prog 32 #[.int .u8 0, .int .u8 32] W (Same W (.bool false)) from has_ok 0 32 (by decide) (by decide) W)
  have U64 := Lib.hid (fun W => show Calls Tryd.prog 32 #[.int .u8 0, .int .u8 64] W (Same W (.bool false)) from has_ok 0 64 (by decide) (by decide) W)
  go_wp2_with fail
  refine (U1.out w3).mono ?_
  rintro e w9 ⟨rfl, rfl⟩
  clear cu x0
  go_wp2_with fail
  refine (U2.out w3).mono ?_
  rintro e w9 ⟨rfl, rfl⟩
  go_wp2_with fail
  refine (U4.out w3).mono ?_
  rintro e w9 ⟨rfl, rfl⟩
  go_wp2_with fail
  refine (U8.out w3).mono ?_
  rintro e w9 ⟨rfl, rfl⟩
  go_wp2_with fail
  refine (U16.out w3).mono ?_
  rintro e w9 ⟨rfl, rfl⟩
  go_wp2_with fail
  refine (U32.out w3).mono ?_
  rintro e w9 ⟨rfl, rfl⟩
  go_wp2_with fail
  refine (U64.out w3).mono ?_
  rintro e w9 ⟨rfl, rfl⟩
  go_upto_region 23 with fail
  rename_i KK hKK
  have hpx : parX b = ⟨6, 0, [], 0, 0, 0, 0, []⟩ := by
    unfold parX
    simp only [HK.out]
    rw [if_neg (show ¬ (6 : Nat) = 1 by omega), if_neg (show ¬ (6 : Nat) = 2 by omega), if_neg (show ¬ (6 : Nat) = 3 by omega), if_neg (show ¬ (6 : Nat) = 5 by omega)]
  have hpn : parN b = 0 + 1 := by
    unfold parN
    simp only [HK.out]
    rw [if_neg (show ¬ (6 : Nat) = 1 by omega), if_neg (show ¬ (6 : Nat) = 2 by omega), if_neg (show ¬ (6 : Nat) = 3 by omega), if_neg (show ¬ (6 : Nat) = 5 by omega)]
  have HPX := Lib.hid hpx
  have HPN := Lib.hid hpn
  clear hpx hpn
  obtain ⟨ca, cm, cc, hcv, hcl⟩ : ∃ a m c, v2 = .slice a m c ∧ m = (b.drop (0 + 1)).length := by rcases E0.c.sl with ⟨h, h2⟩ | ⟨bb, off, c, h, _⟩ <;> first | exact ⟨_, _, _, h, rfl⟩ | exact ⟨_, _, _, h, by rw [h2]; rfl⟩
  rw [hcv] at E0
  rw [List.length_drop] at hcl
  clear hcv
  have k0 := E0.c.blk.cell 0 _ rfl
  have k1 := E0.c.blk.cell 1 _ rfl
  have hpw := E0.hp
  have HPW := Lib.hid hpw
  have EE := Lib.hid E0
  clear E0 hpw
  by_cases hc1 : b.length < 0 + 1
  · have hfl : decide (b.length < 0 + 1) = true := decide_eq_true hc1
    have hne : decide (b.length = 0 + 1) = false := decide_eq_false (by omega)
    rw [hfl] at k1
    refine reg23_lack (r := w.heap.size) (c := w.heap.size + 1) (p := p) (fun _ _ _ _ _ h => h) (by have := HPW.out; omega) (by omega) EE.out.x EE.out.c.blk.lt k0 k1 EE.out.r (fun x hx => by simp only [List.mem_cons, List.not_mem_nil, or_false] at hx; rcases hx with rfl|rfl|rfl|rfl|rfl|rfl|rfl|rfl <;> rfl) ?_
    intro a' h2 h3 hd
    have E5 := EE.out.drew
    have ES := E5.r.set8 (.int .u8 6) (.int .u64 0) (.string ⟨#[]⟩) (.int .i64 0) (.int .i64 0) (.int .i64 0) (.int .u32 0) (.slice none 0 0)
    have BS := below_set8 E5.bel (Nat.le_refl _) (.int .u8 6) (.int .u64 0) (.string ⟨#[]⟩) (.int .i64 0) (.int .i64 0) (.int .i64 0) (.int .u32 0) (.slice none 0 0)
    refine hKK _ _ (wp_ret ?_)
    refine ent_end43 (y := .bool false) h2 h3 hd ES ?_
    have hok : okE b = false := by
      unfold okE
      rw [HPN.out, hne, Bool.false_and]
    refine ⟨.slice none 0 0, by rw [HPX.out, hok]; rfl, by rw [HPX.out]; exact OwnIB.nil _ _ BS.size, BS⟩
  · have hfl : decide (b.length < 0 + 1) = false := decide_eq_false hc1
    by_cases hc2 : b.length = 0 + 1
    · have hne : decide (b.length = 0 + 1) = true := decide_eq_true hc2
      rw [hfl] at k1
      have EX : EntIs (parX b) := par_is b HBL.out
      rw [HPX.out] at EX
      obtain ⟨mb, hmb, MB⟩ : ∃ mb, mb = mayP (parX b) ∧ Calls Tryd.prog 20 #[.agg #[.int .u8 6, .int .u64 0, .string ⟨#[]⟩, .int .i64 0, .int .i64 0, .int .i64 0, .int .u32 0, .slice none 0 0]] w3.drew (RetBelow w3.drew (.bool mb)) :=
        ⟨mayP ⟨6, 0, [], 0, 0, 0, 0, []⟩, by rw [HPX.out], by exact mayBe_ok ⟨6, 0, [], 0, 0, 0, 0, []⟩ EX (w := w3.drew) (u := .slice none 0 0) (SlAt.nil _) (HT.out.below (EE.out.bel.trans (bdrewB (Below.refl _ _) 1)))⟩
      refine reg23_call (r := w.heap.size) (c := w.heap.size + 1) (p := p) (fun _ _ _ _ _ h => h) (by have := HPW.out; omega) (by omega) EE.out.x EE.out.c.blk.lt k0 k1 EE.out.r (fun x hx => by simp only [List.mem_cons, List.not_mem_nil, or_false] at hx; rcases hx with rfl|rfl|rfl|rfl|rfl|rfl|rfl|rfl <;> rfl) (by omega) MB ?_
      intro w5 b5 a' h2 h3 hd
      have E5 := EE.out.drew.below b5
      have ES := E5.r.set8 (.int .u8 6) (.int .u64 0) (.string ⟨#[]⟩) (.int .i64 0) (.int .i64 0) (.int .i64 0) (.int .u32 0) (.slice none 0 0)
      have BS := below_set8 E5.bel (Nat.le_refl _) (.int .u8 6) (.int .u64 0) (.string ⟨#[]⟩) (.int .i64 0) (.int .i64 0) (.int .i64 0) (.int .u32 0) (.slice none 0 0)
      refine hKK _ _ (wp_ret ?_)
      refine ent_end43 (y := .bool mb) h2 h3 hd ES ?_
      have hok : okE b = mb := by
        unfold okE
        rw [HPN.out, hne, Bool.true_and]
        exact hmb.symm
      refine ⟨.slice none 0 0, by rw [HPX.out, hok]; rfl, by rw [HPX.out]; exact OwnIB.nil _ _ BS.size, BS⟩
    · have hne : decide (b.length = 0 + 1) = false := decide_eq_false hc2
      rw [hfl] at k1
      refine reg23_rest (r := w.heap.size) (c := w.heap.size + 1) (p := p) (fun _ _ _ _ _ h => h) (by have := HPW.out; omega) (by omega) EE.out.x EE.out.c.blk.lt k0 k1 EE.out.r (fun x hx => by simp only [List.mem_cons, List.not_mem_nil, or_false] at hx; rcases hx with rfl|rfl|rfl|rfl|rfl|rfl|rfl|rfl <;> rfl) (by omega) ?_
      intro a' h2 h3 hd
      have E5 := EE.out.drew
      have ES := E5.r.set8 (.int .u8 6) (.int .u64 0) (.string ⟨#[]⟩) (.int .i64 0) (.int .i64 0) (.int .i64 0) (.int .u32 0) (.slice none 0 0)
      have BS := below_set8 E5.bel (Nat.le_refl _) (.int .u8 6) (.int .u64 0) (.string ⟨#[]⟩) (.int .i64 0) (.int .i64 0) (.int .i64 0) (.int .u32 0) (.slice none 0 0)
      refine hKK _ _ (wp_ret ?_)
      refine ent_end43 (y := .bool false) h2 h3 hd ES ?_
      have hok : okE b = false := by
        unfold okE
        rw [HPN.out, hne, Bool.false_and]
      refine ⟨.slice none 0 0, by rw [HPX.out, hok]; rfl, by rw [HPX.out]; exact OwnIB.nil _ _ BS.size, BS⟩
set_option maxHeartbeats 6400000 in
theorem eo1_ok (w : World) (v0 : Value) (b : List UInt8) (h0 : SlC w v0 b) (hbl : b.length ≤ 140737488355328) (hk : valB (b.take 1) = 1) (T : Tabs w) : Calls Tryd.prog 43 #[v0] w (EoP w b) := by
  obtain ⟨a0, m0, n0, hv0⟩ : ∃ a m n, v0 = .slice a m n := by rcases h0 with ⟨h, _⟩ | ⟨bb, off, c, h, _⟩ <;> exact ⟨_, _, _, h⟩
  subst hv0
  have HBL := Lib.hid hbl
  clear hbl
  obtain ⟨C1, R1, B1, Z1⟩ := eo_start h0 (w1 := (w.alloc (.cells Z8.toArray 27)).alloc (.cells #[.slice a0 m0 n0, .bool false] 82)) rfl
  have HT := Lib.hid T
  clear T h0
  have HK := Lib.hid hk
  clear hk
  go_enter Tryd.func43, Tryd.ntmps43
  go_wp2_with fail
  change CutQ ((w.alloc (.cells #[.int .u8 0, .int .u64 0, .string ⟨#[]⟩, .int .i64 0, .int .i64 0, .int .i64 0, .int .u32 0, .slice none 0 0] 27)).alloc (.cells #[.slice a0 m0 n0, .bool false] 82)) _ _ _ _ at C1
  change CellsAt ((w.alloc (.cells #[.int .u8 0, .int .u64 0, .string ⟨#[]⟩, .int .i64 0, .int .i64 0, .int .i64 0, .int .u32 0, .slice none 0 0] 27)).alloc (.cells #[.slice a0 m0 n0, .bool false] 82)) _ _ at R1
  change Below _ w ((w.alloc (.cells #[.int .u8 0, .int .u64 0, .string ⟨#[]⟩, .int .i64 0, .int .i64 0, .int .i64 0, .int .u32 0, .slice none 0 0] 27)).alloc (.cells #[.slice a0 m0 n0, .bool false] 82)) at B1
  change ((w.alloc (.cells #[.int .u8 0, .int .u64 0, .string ⟨#[]⟩, .int .i64 0, .int .i64 0, .int .i64 0, .int .u32 0, .slice none 0 0] 27)).alloc (.cells #[.slice a0 m0 n0, .bool false] 82)).heap.size = _ at Z1
  generalize (w.alloc (.cells #[.int .u8 0, .int .u64 0, .string ⟨#[]⟩, .int .i64 0, .int .i64 0, .int .i64 0, .int .u32 0, .slice none 0 0] 27)).alloc (.cells #[.slice a0 m0 n0, .bool false] 82) = w1 at *
  have HZ1 := Lib.hid Z1
  clear Z1
  have N1 := Lib.hid (numq_ok (n := 1) (by omega) C1)
  have ks : seg b 0 1 = b.take 1 := rfl
  rw [ks, HK.out] at N1
  clear ks
  refine N1.out.mono ?_
  rintro e w2 ⟨rfl, v2, C2, K2⟩
  have R2 : CellsAt w2 w.heap.size Z8 := R1.kp K2 (by omega)
  have B2 : Below w.heap.size w w2 := B1.trans (K2.below B1.size fun x hx => by omega)
  have Z2 : w.heap.size + 2 ≤ w2.heap.size := by have := K2.size; have := HZ1.out; omega
  have E0 := eo_box (cs := [.int .u8 1, .int .u64 0, .string ⟨#[]⟩, .int .i64 0, .int .i64 0, .int .i64 0, .int .u32 0, .slice none 0 0]) R2 C2 B2 Z2
  clear R1 B1 C1 K2 N1 R2 B2 Z2 C2 HZ1
  go_upto_region 3 with fail
  change EoAt _ _ _ _ _ _ (w2.alloc (.cells #[.int .u8 1, .int .u64 0, .string ⟨#[]⟩, .int .i64 0, .int .i64 0, .int .i64 0, .int .u32 0, .slice none 0 0] 27)) at E0
  generalize w2.alloc (.cells #[.int .u8 1, .int .u64 0, .string ⟨#[]⟩, .int .i64 0, .int .i64 0, .int .i64 0, .int .u32 0, .slice none 0 0] 27) = w3 at *
  generalize w2.heap.size = p at *
  have x0 := E0.x.cell 0 _ rfl
  have IK := isKind_ok 1 w3
  rw [show isKind 1 = true from rfl] at IK
  have HIK := Lib.hid IK
  clear IK
  go_wp2_with fail
  refine HIK.out.mono ?_
  rintro e w9 ⟨rfl, rfl⟩
  clear HIK
  have cu := ((HT.out.below E0.bel).use 1 (by decide)).trans (show some (Value.int .u8 ((usesN 1 : Nat) : Int)) = some (.int .u8 1) from rfl)
  have U1 := Lib.hid (fun W => show Calls Tryd.prog 32 #[.int .u8 1, .int .u8 1] W (Same W (.bool true)) from has_ok 1 1 (by decide) (by decide) W)
  have U2 := Lib.hid (fun W => show Calls Tryd.prog 32 #[.int .u8 1, .int .u8 2] W (Same W (.bool false)) from has_ok 1 2 (by decide) (by decide) W)
  have U4 := Lib.hid (fun W => show Calls Tryd.prog 32 #[.int .u8 1, .int .u8 4] W (Same W (.bool false)) from has_ok 1 4 (by decide) (by decide) W)
  have U8 := Lib.hid (fun W => show Calls Tryd.prog 32 #[.int .u8 1, .int .u8 8] W (Same W (.bool false)) from has_ok 1 8 (by decide) (by decide) W)
  have U16 := Lib.hid (fun W => show Calls Tryd.prog 32 #[.int .u8 1, .int .u8 16] W (Same W (.bool false)) from has_ok 1 16 (by decide) (by decide) W)
  have U32 := Lib.hid (fun W => show Calls Tryd.prog 32 #[.int .u8 1, .int .u8 32] W (Same W (.bool false)) from has_ok 1 32 (by decide) (by decide) W)
  have U64 := Lib.hid (fun W => show Calls Tryd.prog 32 #[.int .u8 1, .int .u8 64] W (Same W (.bool false)) from has_ok 1 64 (by decide) (by decide) W)
  go_wp2_with fail
  refine (U1.out w3).mono ?_
  rintro e w9 ⟨rfl, rfl⟩
  clear cu x0
  have NQ := Lib.hid (numq_ok (n := 8) (by omega) E0.c)
  obtain ⟨y1, hy1⟩ : ∃ y, y = (valB (seg b (0 + 1) 8)) := ⟨_, rfl⟩
  rw [← hy1] at NQ
  have HY1 := Lib.hid hy1
  clear hy1
  go_wp2_with fail
  refine NQ.out.mono ?_
  rintro e wa1 ⟨rfl, va1, cq, kq⟩
  have EA1 := E0.cut cq kq
  have fz := EA1.x.free 1
  have cz := EA1.x.cell 1 _ rfl
  have EB1 := EA1.put 1 (.int .u64 (y1 : Int)) (by simp)
  simp only [List.set_cons_succ, List.set_cons_zero] at EB1
  clear E0 NQ cq kq EA1
  go_upto_region 8 with fail
  clear fz cz
  generalize wa1.setCell ⟨p, 1, none⟩ (.int .u64 (y1 : Int)) = wb1 at *
  go_wp2_with fail
  refine (U2.out wb1).mono ?_
  rintro e w9 ⟨rfl, rfl⟩
  go_wp2_with fail
  refine (U4.out wb1).mono ?_
  rintro e w9 ⟨rfl, rfl⟩
  go_wp2_with fail
  refine (U8.out wb1).mono ?_
  rintro e w9 ⟨rfl, rfl⟩
  go_wp2_with fail
  refine (U16.out wb1).mono ?_
  rintro e w9 ⟨rfl, rfl⟩
  go_wp2_with fail
  refine (U32.out wb1).mono ?_
  rintro e w9 ⟨rfl, rfl⟩
  go_wp2_with fail
  refine (U64.out wb1).mono ?_
  rintro e w9 ⟨rfl, rfl⟩
  go_upto_region 23 with fail
  rename_i KK hKK
  have hpx : parX b = ⟨1, y1, [], 0, 0, 0, 0, []⟩ := by
    unfold parX
    simp only [HK.out, if_pos, HY1.out, Nat.zero_add]
  have hpn : parN b = 0 + 1 + 8 := by
    unfold parN
    simp only [HK.out, if_pos]
  have HPX := Lib.hid hpx
  have HPN := Lib.hid hpn
  clear hpx hpn
  obtain ⟨ca, cm, cc, hcv, hcl⟩ : ∃ a m c, va1 = .slice a m c ∧ m = (b.drop (0 + 1 + 8)).length := by rcases EB1.c.sl with ⟨h, h2⟩ | ⟨bb, off, c, h, _⟩ <;> first | exact ⟨_, _, _, h, rfl⟩ | exact ⟨_, _, _, h, by rw [h2]; rfl⟩
  rw [hcv] at EB1
  rw [List.length_drop] at hcl
  clear hcv
  have k0 := EB1.c.blk.cell 0 _ rfl
  have k1 := EB1.c.blk.cell 1 _ rfl
  have hpw := EB1.hp
  have HPW := Lib.hid hpw
  have EE := Lib.hid EB1
  clear EB1 hpw
  by_cases hc1 : b.length < 0 + 1 + 8
  · have hfl : decide (b.length < 0 + 1 + 8) = true := decide_eq_true hc1
    have hne : decide (b.length = 0 + 1 + 8) = false := decide_eq_false (by omega)
    rw [hfl] at k1
    refine reg23_lack (r := w.heap.size) (c := w.heap.size + 1) (p := p) (fun _ _ _ _ _ h => h) (by have := HPW.out; omega) (by omega) EE.out.x EE.out.c.blk.lt k0 k1 EE.out.r (fun x hx => by simp only [List.mem_cons, List.not_mem_nil, or_false] at hx; rcases hx with rfl|rfl|rfl|rfl|rfl|rfl|rfl|rfl <;> rfl) ?_
    intro a' h2 h3 hd
    have E5 := EE.out.drew
    have ES := E5.r.set8 (.int .u8 1) (.int .u64 (y1 : Int)) (.string ⟨#[]⟩) (.int .i64 0) (.int .i64 0) (.int .i64 0) (.int .u32 0) (.slice none 0 0)
    have BS := below_set8 E5.bel (Nat.le_refl _) (.int .u8 1) (.int .u64 (y1 : Int)) (.string ⟨#[]⟩) (.int .i64 0) (.int .i64 0) (.int .i64 0) (.int .u32 0) (.slice none 0 0)
    refine hKK _ _ (wp_ret ?_)
    refine ent_end43 (y := .bool false) h2 h3 hd ES ?_
    have hok : okE b = false := by
      unfold okE
      rw [HPN.out, hne, Bool.false_and]
    refine ⟨.slice none 0 0, by rw [HPX.out, hok]; rfl, by rw [HPX.out]; exact OwnIB.nil _ _ BS.size, BS⟩
  · have hfl : decide (b.length < 0 + 1 + 8) = false := decide_eq_false hc1
    by_cases hc2 : b.length = 0 + 1 + 8
    · have hne : decide (b.length = 0 + 1 + 8) = true := decide_eq_true hc2
      rw [hfl] at k1
      have EX : EntIs (parX b) := par_is b HBL.out
      rw [HPX.out] at EX
      obtain ⟨mb, hmb, MB⟩ : ∃ mb, mb = mayP (parX b) ∧ Calls Tryd.prog 20 #[.agg #[.int .u8 1, .int .u64 (y1 : Int), .string ⟨#[]⟩, .int .i64 0, .int .i64 0, .int .i64 0, .int .u32 0, .slice none 0 0]] wb1.drew (RetBelow wb1.drew (.bool mb)) :=
        ⟨mayP ⟨1, y1, [], 0, 0, 0, 0, []⟩, by rw [HPX.out], by exact mayBe_ok ⟨1, y1, [], 0, 0, 0, 0, []⟩ EX (w := wb1.drew) (u := .slice none 0 0) (SlAt.nil _) (HT.out.below (EE.out.bel.trans (bdrewB (Below.refl _ _) 1)))⟩
      refine reg23_call (r := w.heap.size) (c := w.heap.size + 1) (p := p) (fun _ _ _ _ _ h => h) (by have := HPW.out; omega) (by omega) EE.out.x EE.out.c.blk.lt k0 k1 EE.out.r (fun x hx => by simp only [List.mem_cons, List.not_mem_nil, or_false] at hx; rcases hx with rfl|rfl|rfl|rfl|rfl|rfl|rfl|rfl <;> rfl) (by omega) MB ?_
      intro w5 b5 a' h2 h3 hd
      have E5 := EE.out.drew.below b5
      have ES := E5.r.set8 (.int .u8 1) (.int .u64 (y1 : Int)) (.string ⟨#[]⟩) (.int .i64 0) (.int .i64 0) (.int .i64 0) (.int .u32 0) (.slice none 0 0)
      have BS := below_set8 E5.bel (Nat.le_refl _) (.int .u8 1) (.int .u64 (y1 : Int)) (.string ⟨#[]⟩) (.int .i64 0) (.int .i64 0) (.int .i64 0) (.int .u32 0) (.slice none 0 0)
      refine hKK _ _ (wp_ret ?_)
      refine ent_end43 (y := .bool mb) h2 h3 hd ES ?_
      have hok : okE b = mb := by
        unfold okE
        rw [HPN.out, hne, Bool.true_and]
        exact hmb.symm
      refine ⟨.slice none 0 0, by rw [HPX.out, hok]; rfl, by rw [HPX.out]; exact OwnIB.nil _ _ BS.size, BS⟩
    · have hne : decide (b.length = 0 + 1 + 8) = false := decide_eq_false hc2
      rw [hfl] at k1
      refine reg23_rest (r := w.heap.size) (c := w.heap.size + 1) (p := p) (fun _ _ _ _ _ h => h) (by have := HPW.out; omega) (by omega) EE.out.x EE.out.c.blk.lt k0 k1 EE.out.r (fun x hx => by simp only [List.mem_cons, List.not_mem_nil, or_false] at hx; rcases hx with rfl|rfl|rfl|rfl|rfl|rfl|rfl|rfl <;> rfl) (by omega) ?_
      intro a' h2 h3 hd
      have E5 := EE.out.drew
      have ES := E5.r.set8 (.int .u8 1) (.int .u64 (y1 : Int)) (.string ⟨#[]⟩) (.int .i64 0) (.int .i64 0) (.int .i64 0) (.int .u32 0) (.slice none 0 0)
      have BS := below_set8 E5.bel (Nat.le_refl _) (.int .u8 1) (.int .u64 (y1 : Int)) (.string ⟨#[]⟩) (.int .i64 0) (.int .i64 0) (.int .i64 0) (.int .u32 0) (.slice none 0 0)
      refine hKK _ _ (wp_ret ?_)
      refine ent_end43 (y := .bool false) h2 h3 hd ES ?_
      have hok : okE b = false := by
        unfold okE
        rw [HPN.out, hne, Bool.false_and]
      refine ⟨.slice none 0 0, by rw [HPX.out, hok]; rfl, by rw [HPX.out]; exact OwnIB.nil _ _ BS.size, BS⟩
set_option maxHeartbeats 6400000 in
theorem eo2_ok (w : World) (v0 : Value) (b : List UInt8) (h0 : SlC w v0 b) (hbl : b.length ≤ 140737488355328) (hk : valB (b.take 1) = 2) (T : Tabs w) : Calls Tryd.prog 43 #[v0] w (EoP w b) := by
  obtain ⟨a0, m0, n0, hv0⟩ : ∃ a m n, v0 = .slice a m n := by rcases h0 with ⟨h, _⟩ | ⟨bb, off, c, h, _⟩ <;> exact ⟨_, _, _, h⟩
  subst hv0
  have HBL := Lib.hid hbl
  clear hbl
  obtain ⟨C1, R1, B1, Z1⟩ := eo_start h0 (w1 := (w.alloc (.cells Z8.toArray 27)).alloc (.cells #[.slice a0 m0 n0, .bool false] 82)) rfl
  have HT := Lib.hid T
  clear T h0
  have HK := Lib.hid hk
  clear hk
  go_enter Tryd.func43, Tryd.ntmps43
  go_wp2_with fail
  change CutQ ((w.alloc (.cells #[.int .u8 0, .int .u64 0, .string ⟨#[]⟩, .int .i64 0, .int .i64 0, .int .i64 0, .int .u32 0, .slice none 0 0] 27)).alloc (.cells #[.slice a0 m0 n0, .bool false] 82)) _ _ _ _ at C1
  change CellsAt ((w.alloc (.cells #[.int .u8 0, .int .u64 0, .string ⟨#[]⟩, .int .i64 0, .int .i64 0, .int .i64 0, .int .u32 0, .slice none 0 0] 27)).alloc (.cells #[.slice a0 m0 n0, .bool false] 82)) _ _ at R1
  change Below _ w ((w.alloc (.cells #[.int .u8 0, .int .u64 0, .string ⟨#[]⟩, .int .i64 0, .int .i64 0, .int .i64 0, .int .u32 0, .slice none 0 0] 27)).alloc (.cells #[.slice a0 m0 n0, .bool false] 82)) at B1
  change ((w.alloc (.cells #[.int .u8 0, .int .u64 0, .string ⟨#[]⟩, .int .i64 0, .int .i64 0, .int .i64 0, .int .u32 0, .slice none 0 0] 27)).alloc (.cells #[.slice a0 m0 n0, .bool false] 82)).heap.size = _ at Z1
  generalize (w.alloc (.cells #[.int .u8 0, .int .u64 0, .string ⟨#[]⟩, .int .i64 0, .int .i64 0, .int .i64 0, .int .u32 0, .slice none 0 0] 27)).alloc (.cells #[.slice a0 m0 n0, .bool false] 82) = w1 at *
  have HZ1 := Lib.hid Z1
  clear Z1
  have N1 := Lib.hid (numq_ok (n := 1) (by omega) C1)
  have ks : seg b 0 1 = b.take 1 := rfl
  rw [ks, HK.out] at N1
  clear ks
  refine N1.out.mono ?_
  rintro e w2 ⟨rfl, v2, C2, K2⟩
  have R2 : CellsAt w2 w.heap.size Z8 := R1.kp K2 (by omega)
  have B2 : Below w.heap.size w w2 := B1.trans (K2.below B1.size fun x hx => by omega)
  have Z2 : w.heap.size + 2 ≤ w2.heap.size := by have := K2.size; have := HZ1.out; omega
  have E0 := eo_box (cs := [.int .u8 2, .int .u64 0, .string ⟨#[]⟩, .int .i64 0, .int .i64 0, .int .i64 0, .int .u32 0, .slice none 0 0]) R2 C2 B2 Z2
  clear R1 B1 C1 K2 N1 R2 B2 Z2 C2 HZ1
  go_upto_region 3 with fail
  change EoAt _ _ _ _ _ _ (w2.alloc (.cells #[.int .u8 2, .int .u64 0, .string ⟨#[]⟩, .int .i64 0, .int .i64 0, .int .i64 0, .int .u32 0, .slice none 0 0] 27)) at E0
  generalize w2.alloc (.cells #[.int .u8 2, .int .u64 0, .string ⟨#[]⟩, .int .i64 0, .int .i64 0, .int .i64 0, .int .u32 0, .slice none 0 0] 27) = w3 at *
  generalize w2.heap.size = p at *
  have x0 := E0.x.cell 0 _ rfl
  have IK := isKind_ok 2 w3
  rw [show isKind 2 = true from rfl] at IK
  have HIK := Lib.hid IK
  clear IK
  go_wp2_with fail
  refine HIK.out.mono ?_
  rintro e w9 ⟨rfl, rfl⟩
  clear HIK
  have cu := ((HT.out.below E0.bel).use 2 (by decide)).trans (show some (Value.int .u8 ((usesN 2 : Nat) : Int)) = some (.int .u8 2) from rfl)
  have U1 := Lib.hid (fun W => show Calls Tryd.prog 32 #[.int .u8 2, .int .u8 1] W (Same W (.bool false)) from has_ok 2 1 (by decide) (by decide) W)
  have U2 := Lib.hid (fun W => show Calls Tryd.prog 32 #[.int .u8 2, .int .u8 2] W (Same W (.bool true)) from has_ok 2 2 (by decide) (by decide) W)
  have U4 := Lib.hid (fun W => show Calls Tryd.prog 32 #[.int .u8 2, .int .u8 4] W (Same W (.bool false)) from has_ok 2 4 (by decide) (by decide) W)
  have U8 := Lib.hid (fun W => show Calls Tryd.prog 32 #[.int .u8 2, .int .u8 8] W (Same W (.bool false)) from has_ok 2 8 (by decide) (by decide) W)
  have U16 := Lib.hid (fun W => show Calls Tryd.prog 32 #[.int .u8 2, .int .u8 16] W (Same W (.bool false)) from has_ok 2 16 (by decide) (by decide) W)
  have U32 := Lib.hid (fun W => show Calls Tryd.prog 32 #[.int .u8 2, .int .u8 32] W (Same W (.bool false)) from has_ok 2 32 (by decide) (by decide) W)
  have U64 := Lib.hid (fun W => show Calls Tryd.prog 32 #[.int .u8 2, .int .u8 64] W (Same W (.bool false)) from has_ok 2 64 (by decide) (by decide) W)
  go_wp2_with fail
  refine (U1.out w3).mono ?_
  rintro e w9 ⟨rfl, rfl⟩
  clear cu x0
  go_wp2_with fail
  refine (U2.out w3).mono ?_
  rintro e w9 ⟨rfl, rfl⟩
  have NQ := Lib.hid (countq_ok (n := 1) (by omega) E0.c)
  have n256 : valB (seg b (0 + 1) 1) < 256 := by have h1 := valB_lt (seg b (0 + 1) 1); have h2 : 256 ^ (seg b (0 + 1) 1).length ≤ 256 ^ 1 := Nat.pow_le_pow_right (by omega) (seg_le _ _ _); omega
  rw [iw_small (show valB (seg b (0 + 1) 1) ≤ 9223372036854775807 by omega)] at NQ
  obtain ⟨n, hn⟩ : ∃ n, n = valB (seg b (0 + 1) 1) := ⟨_, rfl⟩
  rw [← hn] at NQ n256
  have HN := Lib.hid hn
  clear hn
  go_wp2_with fail
  refine NQ.out.mono ?_
  rintro e wc1 ⟨rfl, vc1, cq, kq⟩
  have EC1 := E0.cut cq kq
  clear E0 NQ cq kq
  have CQ := Lib.hid (cutq_ok (n := n) (by omega) EC1.c)
  go_wp2_with fail
  refine CQ.out.mono ?_
  rintro e wc2 ⟨vs, vc2, rfl, ss, cq, kq⟩
  have EC2 := EC1.cut cq kq
  have CT := conv_text ss.sl
  clear EC1 CQ cq kq ss
  have fz := EC2.x.free 2
  have cz := EC2.x.cell 2 _ rfl
  obtain ⟨s, hs⟩ : ∃ s, s = bs (seg b (0 + 1 + 1) n) := ⟨_, rfl⟩
  rw [← hs] at CT
  have HS := Lib.hid hs
  clear hs
  have EB := EC2.put 2 (.string s) (by simp)
  simp only [List.set_cons_succ, List.set_cons_zero] at EB
  clear EC2
  go_upto_region 10 with fail
  clear fz cz CT
  generalize wc2.setCell ⟨p, 2, none⟩ (.string s) = wd at *
  go_wp2_with fail
  refine (U4.out wd).mono ?_
  rintro e w9 ⟨rfl, rfl⟩
  go_wp2_with fail
  refine (U8.out wd).mono ?_
  rintro e w9 ⟨rfl, rfl⟩
  go_wp2_with fail
  refine (U16.out wd).mono ?_
  rintro e w9 ⟨rfl, rfl⟩
  go_wp2_with fail
  refine (U32.out wd).mono ?_
  rintro e w9 ⟨rfl, rfl⟩
  go_wp2_with fail
  refine (U64.out wd).mono ?_
  rintro e w9 ⟨rfl, rfl⟩
  go_upto_region 23 with fail
  rename_i KK hKK
  have hpx : parX b = ⟨2, 0, seg b (0 + 1 + 1) n, 0, 0, 0, 0, []⟩ := by
    unfold parX
    simp only [HK.out, if_pos, if_neg (show ¬ (2 : Nat) = 1 by omega)]
    rw [show valB (seg b 1 1) = n from HN.out.symm]
  have hpn : parN b = 0 + 1 + 1 + n := by
    unfold parN
    simp only [HK.out, if_pos, if_neg (show ¬ (2 : Nat) = 1 by omega)]
    rw [show valB (seg b 1 1) = n from HN.out.symm]
  have HPX := Lib.hid hpx
  have HPN := Lib.hid hpn
  clear hpx hpn
  obtain ⟨ca, cm, cc, hcv, hcl⟩ : ∃ a m c, vc2 = .slice a m c ∧ m = (b.drop (0 + 1 + 1 + n)).length := by rcases EB.c.sl with ⟨h, h2⟩ | ⟨bb, off, c, h, _⟩ <;> first | exact ⟨_, _, _, h, rfl⟩ | exact ⟨_, _, _, h, by rw [h2]; rfl⟩
  rw [hcv] at EB
  rw [List.length_drop] at hcl
  clear hcv
  have k0 := EB.c.blk.cell 0 _ rfl
  have k1 := EB.c.blk.cell 1 _ rfl
  have hpw := EB.hp
  have HPW := Lib.hid hpw
  have EE := Lib.hid EB
  clear EB hpw
  by_cases hc1 : b.length < 0 + 1 + 1 + n
  · have hfl : decide (b.length < 0 + 1 + 1 + n) = true := decide_eq_true hc1
    have hne : decide (b.length = 0 + 1 + 1 + n) = false := decide_eq_false (by omega)
    rw [hfl] at k1
    refine reg23_lack (r := w.heap.size) (c := w.heap.size + 1) (p := p) (fun _ _ _ _ _ h => h) (by have := HPW.out; omega) (by omega) EE.out.x EE.out.c.blk.lt k0 k1 EE.out.r (fun x hx => by simp only [List.mem_cons, List.not_mem_nil, or_false] at hx; rcases hx with rfl|rfl|rfl|rfl|rfl|rfl|rfl|rfl <;> rfl) ?_
    intro a' h2 h3 hd
    have E5 := EE.out.drew
    have ES := E5.r.set8 (.int .u8 2) (.int .u64 0) (.string s) (.int .i64 0) (.int .i64 0) (.int .i64 0) (.int .u32 0) (.slice none 0 0)
    have BS := below_set8 E5.bel (Nat.le_refl _) (.int .u8 2) (.int .u64 0) (.string s) (.int .i64 0) (.int .i64 0) (.int .i64 0) (.int .u32 0) (.slice none 0 0)
    refine hKK _ _ (wp_ret ?_)
    refine ent_end43 (y := .bool false) h2 h3 hd ES ?_
    have hok : okE b = false := by
      unfold okE
      rw [HPN.out, hne, Bool.false_and]
    refine ⟨.slice none 0 0, by rw [HPX.out, hok]; rw [HS.out]; rfl, by rw [HPX.out]; exact OwnIB.nil _ _ BS.size, BS⟩
  · have hfl : decide (b.length < 0 + 1 + 1 + n) = false := decide_eq_false hc1
    by_cases hc2 : b.length = 0 + 1 + 1 + n
    · have hne : decide (b.length = 0 + 1 + 1 + n) = true := decide_eq_true hc2
      rw [hfl] at k1
      have EX : EntIs (parX b) := par_is b HBL.out
      rw [HPX.out] at EX
      obtain ⟨mb, hmb, MB⟩ : ∃ mb, mb = mayP (parX b) ∧ Calls Tryd.prog 20 #[.agg #[.int .u8 2, .int .u64 0, .string s, .int .i64 0, .int .i64 0, .int .i64 0, .int .u32 0, .slice none 0 0]] wd.drew (RetBelow wd.drew (.bool mb)) :=
        ⟨mayP ⟨2, 0, seg b (0 + 1 + 1) n, 0, 0, 0, 0, []⟩, by rw [HPX.out], by rw [HS.out]; exact mayBe_ok ⟨2, 0, seg b (0 + 1 + 1) n, 0, 0, 0, 0, []⟩ EX (w := wd.drew) (u := .slice none 0 0) (SlAt.nil _) (HT.out.below (EE.out.bel.trans (bdrewB (Below.refl _ _) 1)))⟩
      refine reg23_call (r := w.heap.size) (c := w.heap.size + 1) (p := p) (fun _ _ _ _ _ h => h) (by have := HPW.out; omega) (by omega) EE.out.x EE.out.c.blk.lt k0 k1 EE.out.r (fun x hx => by simp only [List.mem_cons, List.not_mem_nil, or_false] at hx; rcases hx with rfl|rfl|rfl|rfl|rfl|rfl|rfl|rfl <;> rfl) (by omega) MB ?_
      intro w5 b5 a' h2 h3 hd
      have E5 := EE.out.drew.below b5
      have ES := E5.r.set8 (.int .u8 2) (.int .u64 0) (.string s) (.int .i64 0) (.int .i64 0) (.int .i64 0) (.int .u32 0) (.slice none 0 0)
      have BS := below_set8 E5.bel (Nat.le_refl _) (.int .u8 2) (.int .u64 0) (.string s) (.int .i64 0) (.int .i64 0) (.int .i64 0) (.int .u32 0) (.slice none 0 0)
      refine hKK _ _ (wp_ret ?_)
      refine ent_end43 (y := .bool mb) h2 h3 hd ES ?_
      have hok : okE b = mb := by
        unfold okE
        rw [HPN.out, hne, Bool.true_and]
        exact hmb.symm
      refine ⟨.slice none 0 0, by rw [HPX.out, hok]; rw [HS.out]; rfl, by rw [HPX.out]; exact OwnIB.nil _ _ BS.size, BS⟩
    · have hne : decide (b.length = 0 + 1 + 1 + n) = false := decide_eq_false hc2
      rw [hfl] at k1
      refine reg23_rest (r := w.heap.size) (c := w.heap.size + 1) (p := p) (fun _ _ _ _ _ h => h) (by have := HPW.out; omega) (by omega) EE.out.x EE.out.c.blk.lt k0 k1 EE.out.r (fun x hx => by simp only [List.mem_cons, List.not_mem_nil, or_false] at hx; rcases hx with rfl|rfl|rfl|rfl|rfl|rfl|rfl|rfl <;> rfl) (by omega) ?_
      intro a' h2 h3 hd
      have E5 := EE.out.drew
      have ES := E5.r.set8 (.int .u8 2) (.int .u64 0) (.string s) (.int .i64 0) (.int .i64 0) (.int .i64 0) (.int .u32 0) (.slice none 0 0)
      have BS := below_set8 E5.bel (Nat.le_refl _) (.int .u8 2) (.int .u64 0) (.string s) (.int .i64 0) (.int .i64 0) (.int .i64 0) (.int .u32 0) (.slice none 0 0)
      refine hKK _ _ (wp_ret ?_)
      refine ent_end43 (y := .bool false) h2 h3 hd ES ?_
      have hok : okE b = false := by
        unfold okE
        rw [HPN.out, hne, Bool.false_and]
      refine ⟨.slice none 0 0, by rw [HPX.out, hok]; rw [HS.out]; rfl, by rw [HPX.out]; exact OwnIB.nil _ _ BS.size, BS⟩
set_option maxHeartbeats 6400000 in
theorem eo3_ok (w : World) (v0 : Value) (b : List UInt8) (h0 : SlC w v0 b) (hbl : b.length ≤ 140737488355328) (hk : valB (b.take 1) = 3) (T : Tabs w) : Calls Tryd.prog 43 #[v0] w (EoP w b) := by
  obtain ⟨a0, m0, n0, hv0⟩ : ∃ a m n, v0 = .slice a m n := by rcases h0 with ⟨h, _⟩ | ⟨bb, off, c, h, _⟩ <;> exact ⟨_, _, _, h⟩
  subst hv0
  have HBL := Lib.hid hbl
  clear hbl
  obtain ⟨C1, R1, B1, Z1⟩ := eo_start h0 (w1 := (w.alloc (.cells Z8.toArray 27)).alloc (.cells #[.slice a0 m0 n0, .bool false] 82)) rfl
  have HT := Lib.hid T
  clear T h0
  have HK := Lib.hid hk
  clear hk
  go_enter Tryd.func43, Tryd.ntmps43
  go_wp2_with fail
  change CutQ ((w.alloc (.cells #[.int .u8 0, .int .u64 0, .string ⟨#[]⟩, .int .i64 0, .int .i64 0, .int .i64 0, .int .u32 0, .slice none 0 0] 27)).alloc (.cells #[.slice a0 m0 n0, .bool false] 82)) _ _ _ _ at C1
  change CellsAt ((w.alloc (.cells #[.int .u8 0, .int .u64 0, .string ⟨#[]⟩, .int .i64 0, .int .i64 0, .int .i64 0, .int .u32 0, .slice none 0 0] 27)).alloc (.cells #[.slice a0 m0 n0, .bool false] 82)) _ _ at R1
  change Below _ w ((w.alloc (.cells #[.int .u8 0, .int .u64 0, .string ⟨#[]⟩, .int .i64 0, .int .i64 0, .int .i64 0, .int .u32 0, .slice none 0 0] 27)).alloc (.cells #[.slice a0 m0 n0, .bool false] 82)) at B1
  change ((w.alloc (.cells #[.int .u8 0, .int .u64 0, .string ⟨#[]⟩, .int .i64 0, .int .i64 0, .int .i64 0, .int .u32 0, .slice none 0 0] 27)).alloc (.cells #[.slice a0 m0 n0, .bool false] 82)).heap.size = _ at Z1
  generalize (w.alloc (.cells #[.int .u8 0, .int .u64 0, .string ⟨#[]⟩, .int .i64 0, .int .i64 0, .int .i64 0, .int .u32 0, .slice none 0 0] 27)).alloc (.cells #[.slice a0 m0 n0, .bool false] 82) = w1 at *
  have HZ1 := Lib.hid Z1
  clear Z1
  have N1 := Lib.hid (numq_ok (n := 1) (by omega) C1)
  have ks : seg b 0 1 = b.take 1 := rfl
  rw [ks, HK.out] at N1
  clear ks
  refine N1.out.mono ?_
  rintro e w2 ⟨rfl, v2, C2, K2⟩
  have R2 : CellsAt w2 w.heap.size Z8 := R1.kp K2 (by omega)
  have B2 : Below w.heap.size w w2 := B1.trans (K2.below B1.size fun x hx => by omega)
  have Z2 : w.heap.size + 2 ≤ w2.heap.size := by have := K2.size; have := HZ1.out; omega
  have E0 := eo_box (cs := [.int .u8 3, .int .u64 0, .string ⟨#[]⟩, .int .i64 0, .int .i64 0, .int .i64 0, .int .u32 0, .slice none 0 0]) R2 C2 B2 Z2
  clear R1 B1 C1 K2 N1 R2 B2 Z2 C2 HZ1
  go_upto_region 3 with fail
  change EoAt _ _ _ _ _ _ (w2.alloc (.cells #[.int .u8 3, .int .u64 0, .string ⟨#[]⟩, .int .i64 0, .int .i64 0, .int .i64 0, .int .u32 0, .slice none 0 0] 27)) at E0
  generalize w2.alloc (.cells #[.int .u8 3, .int .u64 0, .string ⟨#[]⟩, .int .i64 0, .int .i64 0, .int .i64 0, .int .u32 0, .slice none 0 0] 27) = w3 at *
  generalize w2.heap.size = p at *
  have x0 := E0.x.cell 0 _ rfl
  have IK := isKind_ok 3 w3
  rw [show isKind 3 = true from rfl] at IK
  have HIK := Lib.hid IK
  clear IK
  go_wp2_with fail
  refine HIK.out.mono ?_
  rintro e w9 ⟨rfl, rfl⟩
  clear HIK
  have cu := ((HT.out.below E0.bel).use 3 (by decide)).trans (show some (Value.int .u8 ((usesN 3 : Nat) : Int)) = some (.int .u8 62) from rfl)
  have U1 := Lib.hid (fun W => show Calls Tryd.prog 32 #[.int .u8 62, .int .u8 1] W (Same W (.bool false)) from has_ok 62 1 (by decide) (by decide) W)
  have U2 := Lib.hid (fun W => show Calls Tryd.prog 32 #[.int .u8 62, .int .u8 2] W (Same W (.bool true)) from has_ok 62 2 (by decide) (by decide) W)
  have U4 := Lib.hid (fun W => show Calls Tryd.prog 32 #[.int .u8 62, .int .u8 4] W (Same W (.bool true)) from has_ok 62 4 (by decide) (by decide) W)
  have U8 := Lib.hid (fun W => show Calls Tryd.prog 32 #[.int .u8 62, .int .u8 8] W (Same W (.bool true)) from has_ok 62 8 (by decide) (by decide) W)
  have U16 := Lib.hid (fun W => show Calls Tryd.prog 32 #[.int .u8 62, .int .u8 16] W (Same W (.bool true)) from has_ok 62 16 (by decide) (by decide) W)
  have U32 := Lib.hid (fun W => show Calls Tryd.prog 32 #[.int .u8 62, .int .u8 32] W (Same W (.bool true)) from has_ok 62 32 (by decide) (by decide) W)
  have U64 := Lib.hid (fun W => show Calls Tryd.prog 32 #[.int .u8 62, .int .u8 64] W (Same W (.bool false)) from has_ok 62 64 (by decide) (by decide) W)
  go_wp2_with fail
  refine (U1.out w3).mono ?_
  rintro e w9 ⟨rfl, rfl⟩
  clear cu x0
  go_wp2_with fail
  refine (U2.out w3).mono ?_
  rintro e w9 ⟨rfl, rfl⟩
  have NQ := Lib.hid (countq_ok (n := 1) (by omega) E0.c)
  have n256 : valB (seg b (0 + 1) 1) < 256 := by have h1 := valB_lt (seg b (0 + 1) 1); have h2 : 256 ^ (seg b (0 + 1) 1).length ≤ 256 ^ 1 := Nat.pow_le_pow_right (by omega) (seg_le _ _ _); omega
  rw [iw_small (show valB (seg b (0 + 1) 1) ≤ 9223372036854775807 by omega)] at NQ
  obtain ⟨n, hn⟩ : ∃ n, n = valB (seg b (0 + 1) 1) := ⟨_, rfl⟩
  rw [← hn] at NQ n256
  have HN := Lib.hid hn
  clear hn
  go_wp2_with fail
  refine NQ.out.mono ?_
  rintro e wc1 ⟨rfl, vc1, cq, kq⟩
  have EC1 := E0.cut cq kq
  clear E0 NQ cq kq
  have CQ := Lib.hid (cutq_ok (n := n) (by omega) EC1.c)
  go_wp2_with fail
  refine CQ.out.mono ?_
  rintro e wc2 ⟨vs, vc2, rfl, ss, cq, kq⟩
  have EC2 := EC1.cut cq kq
  have CT := conv_text ss.sl
  clear EC1 CQ cq kq ss
  have fz := EC2.x.free 2
  have cz := EC2.x.cell 2 _ rfl
  obtain ⟨s, hs⟩ : ∃ s, s = bs (seg b (0 + 1 + 1) n) := ⟨_, rfl⟩
  rw [← hs] at CT
  have HS := Lib.hid hs
  clear hs
  have EB := EC2.put 2 (.string s) (by simp)
  simp only [List.set_cons_succ, List.set_cons_zero] at EB
  clear EC2
  go_upto_region 10 with fail
  clear fz cz CT
  generalize wc2.setCell ⟨p, 2, none⟩ (.string s) = wd at *
  go_wp2_with fail
  refine (U4.out wd).mono ?_
  rintro e w9 ⟨rfl, rfl⟩
  have NQ := Lib.hid (countq_ok (n := 4) (by omega) EB.c)
  obtain ⟨y1, hy1⟩ : ∃ y, y = iw (valB (seg b (0 + 1 + 1 + n) 4)) := ⟨_, rfl⟩
  rw [← hy1] at NQ
  have HY1 := Lib.hid hy1
  clear hy1
  go_wp2_with fail
  refine NQ.out.mono ?_
  rintro e wa1 ⟨rfl, va1, cq, kq⟩
  have EA1 := EB.cut cq kq
  have fz := EA1.x.free 3
  have cz := EA1.x.cell 3 _ rfl
  have EB1 := EA1.put 3 (.int .i64 y1) (by simp)
  simp only [List.set_cons_succ, List.set_cons_zero] at EB1
  clear EB NQ cq kq EA1
  go_upto_region 12 with fail
  clear fz cz
  generalize wa1.setCell ⟨p, 3, none⟩ (.int .i64 y1) = wb1 at *
  go_wp2_with fail
  refine (U8.out wb1).mono ?_
  rintro e w9 ⟨rfl, rfl⟩
  have NQ := Lib.hid (countq_ok (n := 8) (by omega) EB1.c)
  obtain ⟨y2, hy2⟩ : ∃ y, y = iw (valB (seg b (0 + 1 + 1 + n + 4) 8)) := ⟨_, rfl⟩
  rw [← hy2] at NQ
  have HY2 := Lib.hid hy2
  clear hy2
  go_wp2_with fail
  refine NQ.out.mono ?_
  rintro e wa2 ⟨rfl, va2, cq, kq⟩
  have EA2 := EB1.cut cq kq
  have fz := EA2.x.free 4
  have cz := EA2.x.cell 4 _ rfl
  have EB2 := EA2.put 4 (.int .i64 y2) (by simp)
  simp only [List.set_cons_succ, List.set_cons_zero] at EB2
  clear EB1 NQ cq kq EA2
  go_upto_region 14 with fail
  clear fz cz
  generalize wa2.setCell ⟨p, 4, none⟩ (.int .i64 y2) = wb2 at *
  go_wp2_with fail
  refine (U16.out wb2).mono ?_
  rintro e w9 ⟨rfl, rfl⟩
  have NQ := Lib.hid (countq_ok (n := 8) (by omega) EB2.c)
  obtain ⟨y3, hy3⟩ : ∃ y, y = iw (valB (seg b (0 + 1 + 1 + n + 4 + 8) 8)) := ⟨_, rfl⟩
  rw [← hy3] at NQ
  have HY3 := Lib.hid hy3
  clear hy3
  go_wp2_with fail
  refine NQ.out.mono ?_
  rintro e wa3 ⟨rfl, va3, cq, kq⟩
  have EA3 := EB2.cut cq kq
  have fz := EA3.x.free 5
  have cz := EA3.x.cell 5 _ rfl
  have EB3 := EA3.put 5 (.int .i64 y3) (by simp)
  simp only [List.set_cons_succ, List.set_cons_zero] at EB3
  clear EB2 NQ cq kq EA3
  go_upto_region 16 with fail
  clear fz cz
  generalize wa3.setCell ⟨p, 5, none⟩ (.int .i64 y3) = wb3 at *
  go_wp2_with fail
  refine (U32.out wb3).mono ?_
  rintro e w9 ⟨rfl, rfl⟩
  have NQ := Lib.hid (numq_ok (n := 4) (by omega) EB3.c)
  obtain ⟨y4, hy4⟩ : ∃ y, y = (valB (seg b (0 + 1 + 1 + n + 4 + 8 + 8) 4)) := ⟨_, rfl⟩
  rw [← hy4] at NQ
  have yb4 : y4 < 4294967296 := by rw [hy4]; exact valB_lt4 (seg_le _ _ _)
  have yi4 : (y4 : Int) ≤ 4294967295 := by omega
  have HY4 := Lib.hid hy4
  clear hy4
  go_wp2_with fail
  refine NQ.out.mono ?_
  rintro e wa4 ⟨rfl, va4, cq, kq⟩
  have EA4 := EB3.cut cq kq
  have fz := EA4.x.free 6
  have cz := EA4.x.cell 6 _ rfl
  have EB4 := EA4.put 6 (.int .u32 (y4 : Int)) (by simp)
  simp only [List.set_cons_succ, List.set_cons_zero] at EB4
  clear EB3 NQ cq kq EA4
  go_upto_region 18 with fail
  clear fz cz
  generalize wa4.setCell ⟨p, 6, none⟩ (.int .u32 (y4 : Int)) = wb4 at *
  go_wp2_with fail
  refine (U64.out wb4).mono ?_
  rintro e w9 ⟨rfl, rfl⟩
  go_upto_region 23 with fail
  rename_i KK hKK
  have hpx : parX b = ⟨3, 0, seg b (0 + 1 + 1) n, y1, y2, y3, y4, []⟩ := by
    unfold parX
    simp only [HK.out, if_pos, if_neg (show ¬ (3 : Nat) = 1 by omega), if_neg (show ¬ (3 : Nat) = 2 by omega)]
    rw [show valB (seg b 1 1) = n from HN.out.symm, HY1.out, HY2.out, HY3.out, HY4.out]
    rw [show 0 + 1 + 1 + n = 2 + n by omega, show 2 + n + 4 = 6 + n by omega, show 6 + n + 8 = 14 + n by omega, show 14 + n + 8 = 22 + n by omega]
  have hpn : parN b = 0 + 1 + 1 + n + 4 + 8 + 8 + 4 := by
    unfold parN
    simp only [HK.out, if_pos, if_neg (show ¬ (3 : Nat) = 1 by omega), if_neg (show ¬ (3 : Nat) = 2 by omega)]
    rw [show valB (seg b 1 1) = n from HN.out.symm]
    omega
  have HPX := Lib.hid hpx
  have HPN := Lib.hid hpn
  clear hpx hpn
  obtain ⟨ca, cm, cc, hcv, hcl⟩ : ∃ a m c, va4 = .slice a m c ∧ m = (b.drop (0 + 1 + 1 + n + 4 + 8 + 8 + 4)).length := by rcases EB4.c.sl with ⟨h, h2⟩ | ⟨bb, off, c, h, _⟩ <;> first | exact ⟨_, _, _, h, rfl⟩ | exact ⟨_, _, _, h, by rw [h2]; rfl⟩
  rw [hcv] at EB4
  rw [List.length_drop] at hcl
  clear hcv
  have k0 := EB4.c.blk.cell 0 _ rfl
  have k1 := EB4.c.blk.cell 1 _ rfl
  have hpw := EB4.hp
  have HPW := Lib.hid hpw
  have EE := Lib.hid EB4
  clear EB4 hpw
  by_cases hc1 : b.length < 0 + 1 + 1 + n + 4 + 8 + 8 + 4
  · have hfl : decide (b.length < 0 + 1 + 1 + n + 4 + 8 + 8 + 4) = true := decide_eq_true hc1
    have hne : decide (b.length = 0 + 1 + 1 + n + 4 + 8 + 8 + 4) = false := decide_eq_false (by omega)
    rw [hfl] at k1
    refine reg23_lack (r := w.heap.size) (c := w.heap.size + 1) (p := p) (fun _ _ _ _ _ h => h) (by have := HPW.out; omega) (by omega) EE.out.x EE.out.c.blk.lt k0 k1 EE.out.r (fun x hx => by simp only [List.mem_cons, List.not_mem_nil, or_false] at hx; rcases hx with rfl|rfl|rfl|rfl|rfl|rfl|rfl|rfl <;> rfl) ?_
    intro a' h2 h3 hd
    have E5 := EE.out.drew
    have ES := E5.r.set8 (.int .u8 3) (.int .u64 0) (.string s) (.int .i64 y1) (.int .i64 y2) (.int .i64 y3) (.int .u32 (y4 : Int)) (.slice none 0 0)
    have BS := below_set8 E5.bel (Nat.le_refl _) (.int .u8 3) (.int .u64 0) (.string s) (.int .i64 y1) (.int .i64 y2) (.int .i64 y3) (.int .u32 (y4 : Int)) (.slice none 0 0)
    refine hKK _ _ (wp_ret ?_)
    refine ent_end43 (y := .bool false) h2 h3 hd ES ?_
    have hok : okE b = false := by
      unfold okE
      rw [HPN.out, hne, Bool.false_and]
    refine ⟨.slice none 0 0, by rw [HPX.out, hok]; rw [HS.out]; rfl, by rw [HPX.out]; exact OwnIB.nil _ _ BS.size, BS⟩
  · have hfl : decide (b.length < 0 + 1 + 1 + n + 4 + 8 + 8 + 4) = false := decide_eq_false hc1
    by_cases hc2 : b.length = 0 + 1 + 1 + n + 4 + 8 + 8 + 4
    · have hne : decide (b.length = 0 + 1 + 1 + n + 4 + 8 + 8 + 4) = true := decide_eq_true hc2
      rw [hfl] at k1
      have EX : EntIs (parX b) := par_is b HBL.out
      rw [HPX.out] at EX
      obtain ⟨mb, hmb, MB⟩ : ∃ mb, mb = mayP (parX b) ∧ Calls Tryd.prog 20 #[.agg #[.int .u8 3, .int .u64 0, .string s, .int .i64 y1, .int .i64 y2, .int .i64 y3, .int .u32 (y4 : Int), .slice none 0 0]] wb4.drew (RetBelow wb4.drew (.bool mb)) :=
        ⟨mayP ⟨3, 0, seg b (0 + 1 + 1) n, y1, y2, y3, y4, []⟩, by rw [HPX.out], by rw [HS.out]; exact mayBe_ok ⟨3, 0, seg b (0 + 1 + 1) n, y1, y2, y3, y4, []⟩ EX (w := wb4.drew) (u := .slice none 0 0) (SlAt.nil _) (HT.out.below (EE.out.bel.trans (bdrewB (Below.refl _ _) 1)))⟩
      refine reg23_call (r := w.heap.size) (c := w.heap.size + 1) (p := p) (fun _ _ _ _ _ h => h) (by have := HPW.out; omega) (by omega) EE.out.x EE.out.c.blk.lt k0 k1 EE.out.r (fun x hx => by simp only [List.mem_cons, List.not_mem_nil, or_false] at hx; rcases hx with rfl|rfl|rfl|rfl|rfl|rfl|rfl|rfl <;> rfl) (by omega) MB ?_
      intro w5 b5 a' h2 h3 hd
      have E5 := EE.out.drew.below b5
      have ES := E5.r.set8 (.int .u8 3) (.int .u64 0) (.string s) (.int .i64 y1) (.int .i64 y2) (.int .i64 y3) (.int .u32 (y4 : Int)) (.slice none 0 0)
      have BS := below_set8 E5.bel (Nat.le_refl _) (.int .u8 3) (.int .u64 0) (.string s) (.int .i64 y1) (.int .i64 y2) (.int .i64 y3) (.int .u32 (y4 : Int)) (.slice none 0 0)
      refine hKK _ _ (wp_ret ?_)
      refine ent_end43 (y := .bool mb) h2 h3 hd ES ?_
      have hok : okE b = mb := by
        unfold okE
        rw [HPN.out, hne, Bool.true_and]
        exact hmb.symm
      refine ⟨.slice none 0 0, by rw [HPX.out, hok]; rw [HS.out]; rfl, by rw [HPX.out]; exact OwnIB.nil _ _ BS.size, BS⟩
    · have hne : decide (b.length = 0 + 1 + 1 + n + 4 + 8 + 8 + 4) = false := decide_eq_false hc2
      rw [hfl] at k1
      refine reg23_rest (r := w.heap.size) (c := w.heap.size + 1) (p := p) (fun _ _ _ _ _ h => h) (by have := HPW.out; omega) (by omega) EE.out.x EE.out.c.blk.lt k0 k1 EE.out.r (fun x hx => by simp only [List.mem_cons, List.not_mem_nil, or_false] at hx; rcases hx with rfl|rfl|rfl|rfl|rfl|rfl|rfl|rfl <;> rfl) (by omega) ?_
      intro a' h2 h3 hd
      have E5 := EE.out.drew
      have ES := E5.r.set8 (.int .u8 3) (.int .u64 0) (.string s) (.int .i64 y1) (.int .i64 y2) (.int .i64 y3) (.int .u32 (y4 : Int)) (.slice none 0 0)
      have BS := below_set8 E5.bel (Nat.le_refl _) (.int .u8 3) (.int .u64 0) (.string s) (.int .i64 y1) (.int .i64 y2) (.int .i64 y3) (.int .u32 (y4 : Int)) (.slice none 0 0)
      refine hKK _ _ (wp_ret ?_)
      refine ent_end43 (y := .bool false) h2 h3 hd ES ?_
      have hok : okE b = false := by
        unfold okE
        rw [HPN.out, hne, Bool.false_and]
      refine ⟨.slice none 0 0, by rw [HPX.out, hok]; rw [HS.out]; rfl, by rw [HPX.out]; exact OwnIB.nil _ _ BS.size, BS⟩
end Go.Proofs.YtlbekgcfafofdaaDoor
