/- ParseKey, the program's: the walk behind a good first place. -/
import Derived.Test.YtbgbmojoldkcfaaDoorPkC
import Derived.Test.YtbgbmojoldkcfaaDoorPk
import Derived.Deep.DeepCutAuto
namespace Go.Proofs.YtbgbmojoldkcfaaDoor
open Go.RowKit

set_option maxRecDepth 100000
set_option maxHeartbeats 6400000 in
theorem pk_good (t : ByteArray) (w : World) (ht : t.size ≤ 140737488351232) (T : BitsT w) (f c : Nat) (ms : List UInt8) (a : Nat) (hp : placeS t.data.toList 0 1 = .good f c ms a) : Calls Tryd.prog 11 #[.string t] w (RetKey w (keyS t.data.toList)) := by
  have IN := Lib.hid (PkIn.start w t T)
  have h2 := lt2 T
  have C1 := half_ok t 0 (w.heap.size + 1) 1 _ (by omega) ht (by omega) IN.out.sc (by omega) IN.out.bits
  rw [hp] at C1
  have C1 := Lib.hid C1
  obtain ⟨hal, _⟩ := place_le (by omega) hp
  rw [← Lib.size_eq] at hal
  have HR := Lib.hid (show keyS t.data.toList = keyRest t.data.toList f c ms a from by unfold keyS; rw [hp]; rfl)
  clear hp T
  generalize keyS t.data.toList = R at *
  have hm := orS_lt ms 0 (by omega)
  obtain ⟨M, hM⟩ : ∃ M, M = orS 0 ms := ⟨_, rfl⟩
  have HM := Lib.hid hM
  rw [← hM] at hm
  clear hM
  go_enter Tryd.func11, Tryd.ntmps11
  go_wp2_with fail
  refine wp_scope_once (rest := ?r) 0 ?hf ?_
  case hf => simp [findLabel]; rfl
  go_wp2_with fail
  refine wp_label ?_
  go_wp2_with fail
  refine C1.out.mono ?_
  rintro e w1 ⟨he, hs, kx⟩
  rw [← HM.out] at he
  obtain rfl : e = .returned (.tuple #[.agg #[.int .i64 (f : Int), .int .i64 (c : Int), .int .u16 (M : Int)], .bool true]) := he
  have I1 := Lib.hid (IN.out.half hs kx h2)
  clear hs kx C1
  have s0 := I1.out.sc.cell 0 _ rfl
  have s1 := I1.out.sc.cell 1 _ rfl
  have u0 := I1.out.two.cell 0 _ rfl
  have u1 := I1.out.two.cell 1 _ rfl
  have u2 := I1.out.two.cell 2 _ rfl
  have u3 := I1.out.two.cell 3 _ rfl
  have u4 := I1.out.two.cell 4 _ rfl
  have u5 := I1.out.two.cell 5 _ rfl
  have g0 := I1.out.two.free 0
  have g1 := I1.out.two.free 1
  have g2 := I1.out.two.free 2
  have g3 := I1.out.two.free 3
  have g4 := I1.out.two.free 4
  have g5 := I1.out.two.free 5
  have hlt2 := I1.out.two.lt
  go_wp2_with fail
  generalize hw : World.alloc _ _ = x1
  have X1 := Lib.hid (show PkIn w t a (hv2 f c M 0 0 0) x1 from by rw [← hw]; exact (I1.out.lay0 h2 f c M).alloc _)
  clear hw s0 s1 u0 u1 u2 u3 u4 u5 g0 g1 g2 g3 g4 g5 hlt2
  have SK := Lib.hid (show Calls Tryd.prog 21 #[.pointer (some ⟨w.heap.size + 1, 0, none⟩), .int .u8 44] x1 (SkipPost x1 (w.heap.size + 1) t a 44) from skip_m t a (w.heap.size + 1) 44 x1 hal ht X1.out.sc)
  refine SK.out.mono ?_
  rintro e w2 (⟨hd, rfl, q, rfl⟩ | ⟨hd, rfl, q, rfl⟩)
  · have I2 := Lib.hid ((X1.out.setSc (k' := a + 1) h2 (.int .i64 ((a : Int) + 1)) (by simp)).drewN q)
    generalize hw : ((x1.setCell ⟨w.heap.size + 1, 1, none⟩ (.int .i64 ((a : Int) + 1))).drewN q) = w2 at *
    obtain ⟨hdl, _⟩ := dot_yes hd
    have HR2 := Lib.hid (show R = keyTwo t.data.toList f c ms (placeS t.data.toList (a + 1) 0) from by rw [HR.out, keyRest, if_pos hd])
    have C2 := half_ok t (a + 1) (w.heap.size + 1) 0 w2 (by omega) ht (by omega) I2.out.sc (by omega) I2.out.bits
    clear hw hd HR
    cases hp2 : placeS t.data.toList (a + 1) 0 with
    | bad a2 =>
      rw [hp2] at C2
      have C2 := Lib.hid C2
      have HR := Lib.hid (show R = (zeroK, a2, 43) from by rw [HR2.out, hp2]; rfl)
      clear hp2
      go_wp2_with fail
      refine wp_goto ⟨rfl, ?_⟩
      go_wp2_with fail
      refine C2.out.mono ?_
      rintro e w3 ⟨⟨f', c', m', he⟩, hs, kx⟩
      obtain rfl : e = .returned (.tuple #[.agg #[.int .i64 (f' : Int), .int .i64 (c' : Int), .int .u16 (m' : Int)], .bool false]) := he
      have I3 := Lib.hid (I2.out.half hs kx h2)
      clear hs kx
      go_wp2_with fail
      generalize hw : World.alloc w3 _ = x3
      have X3 := Lib.hid (show PkIn w t a2 _ x3 from by rw [← hw]; exact I3.out.alloc _)
      clear hw
      have s0 := X3.out.sc.cell 0 _ rfl
      have s1 := X3.out.sc.cell 1 _ rfl
      have r0 := X3.out.res.cell 0 _ rfl
      have r1 := X3.out.res.cell 1 _ rfl
      have r2 := X3.out.res.cell 2 _ rfl
      have r3 := X3.out.res.cell 3 _ rfl
      have r4 := X3.out.res.cell 4 _ rfl
      have r5 := X3.out.res.cell 5 _ rfl
      have f0 := X3.out.res.free 0
      have f1 := X3.out.res.free 1
      have f2 := X3.out.res.free 2
      have f3 := X3.out.res.free 3
      have f4 := X3.out.res.free 4
      have f5 := X3.out.res.free 5
      have hlr := X3.out.res.lt
      have s1d : x3.drew.cell? ⟨w.heap.size + 1, 1, none⟩ = some (.int .i64 (a2 : Int)) := s1
      go_region_held3 (fun w' => w'.cell? ⟨w.heap.size + 1, 1, none⟩ = some (.int .i64 (a2 : Int))) (first | go_keep) (fail)
      have Q := (X3.out.res.six rfl (.int .i64 0) (.int .i64 0) (.int .i64 0) (.int .i64 0) (.int .u16 0) (.bool false)).drew
      have e0 := Q.cell 0 _ rfl
      have e1 := Q.cell 1 _ rfl
      have e2 := Q.cell 2 _ rfl
      have e3 := Q.cell 3 _ rfl
      have e4 := Q.cell 4 _ rfl
      have e5 := Q.cell 5 _ rfl
      have HB := Lib.hid (below_six X3.out.below (Nat.le_refl _) (.int .i64 0) (.int .i64 0) (.int .i64 0) (.int .i64 0) (.int .u16 0) (.bool false))
      clear Q
      go_wp2_with fail
      exact bodyPost_ret (v := .tuple #[.agg #[.int .i64 0, .int .i64 0, .int .i64 0, .int .i64 0, .int .u16 0, .bool false], .int .i64 (a2 : Int), .int .i64 43]) (by simp [results, Tryd.results11, go_sem, e0, e1, e2, e3, e4, e5]) rfl ⟨by rw [HR.out]; rfl, HB.out.drew⟩
    | good ef ec ms2 a2 =>
      rw [hp2] at C2
      have C2 := Lib.hid C2
      obtain ⟨hal2, _⟩ := place_le (by rw [← Lib.size_eq]; omega) hp2
      rw [← Lib.size_eq] at hal2
      obtain ⟨M2, hM2⟩ : ∃ M2, M2 = orS 0 ms2 := ⟨_, rfl⟩
      have hm2 : M2 < 1024 := by rw [hM2]; exact orS_lt ms2 0 (by omega)
      obtain ⟨MK, hMK⟩ : ∃ MK, MK = orB M ms2 := ⟨_, rfl⟩
      obtain ⟨BK, hBK⟩ : ∃ BK, BK = hasB ms2 := ⟨_, rfl⟩
      have HMK := Lib.hid (show MK < 1024 from by rw [hMK]; exact orB_lt _ _ hm)
      have KO := Lib.hid (fun w => show Calls Tryd.prog 22 #[.agg (hfV f c M).toArray, .agg (hfV ef ec M2).toArray] w (RetK6 w ⟨f, c, ef, ec, MK, BK⟩) from by rw [hMK, hBK, ← key_mods, ← key_b, ← hM2]; exact keyOf_ok f c M ef ec M2 hm hm2 w)
      have HE := Lib.hid (show R = keyEnd t.data.toList ⟨f, c, ef, ec, MK, BK⟩ a2 from by rw [HR2.out, hp2, keyTwo, ← HM.out, ← hMK, ← hBK])
      have HM2 := Lib.hid hM2
      clear hp2 hM2 hMK hBK
      go_wp2_with fail
      refine wp_goto ⟨rfl, ?_⟩
      go_wp2_with fail
      refine C2.out.mono ?_
      rintro e w3 ⟨he, hs, kx⟩
      rw [← HM2.out] at he
      obtain rfl : e = .returned (.tuple #[.agg #[.int .i64 (ef : Int), .int .i64 (ec : Int), .int .u16 (M2 : Int)], .bool true]) := he
      have I3 := Lib.hid (I2.out.half hs kx h2)
      clear hs kx
      have s0 := I3.out.sc.cell 0 _ rfl
      have s1 := I3.out.sc.cell 1 _ rfl
      have u0 := I3.out.two.cell 0 _ rfl
      have u1 := I3.out.two.cell 1 _ rfl
      have u2 := I3.out.two.cell 2 _ rfl
      have u3 := I3.out.two.cell 3 _ rfl
      have u4 := I3.out.two.cell 4 _ rfl
      have u5 := I3.out.two.cell 5 _ rfl
      have g0 := I3.out.two.free 0
      have g1 := I3.out.two.free 1
      have g2 := I3.out.two.free 2
      have g3 := I3.out.two.free 3
      have g4 := I3.out.two.free 4
      have g5 := I3.out.two.free 5
      have hlt2 := I3.out.two.lt
      by_cases hlt : a2 < t.size
      · have t1 : decide ((a2 : Int) < (t.size : Int)) = true := by simp only [decide_eq_true_eq]; omega
        have HR := Lib.hid (show R = (zeroK, a2, 43) from by rw [HE.out, keyEnd, ← Lib.size_eq, if_pos hlt])
        go_upto_region 10 with fail
        generalize hw : World.alloc _ _ = x3
        have X3 := Lib.hid (show PkIn w t a2 (hv2 f c M ef ec M2) x3 from by rw [← hw]; exact (I3.out.lay3 h2 ef ec M2).alloc _)
        clear hw s0 s1
        have s0 := X3.out.sc.cell 0 _ rfl
        have s1 := X3.out.sc.cell 1 _ rfl
        have r0 := X3.out.res.cell 0 _ rfl
        have r1 := X3.out.res.cell 1 _ rfl
        have r2 := X3.out.res.cell 2 _ rfl
        have r3 := X3.out.res.cell 3 _ rfl
        have r4 := X3.out.res.cell 4 _ rfl
        have r5 := X3.out.res.cell 5 _ rfl
        have f0 := X3.out.res.free 0
        have f1 := X3.out.res.free 1
        have f2 := X3.out.res.free 2
        have f3 := X3.out.res.free 3
        have f4 := X3.out.res.free 4
        have f5 := X3.out.res.free 5
        have hlr := X3.out.res.lt
        go_wp2_with fail
        have s1d : x3.drew.cell? ⟨w.heap.size + 1, 1, none⟩ = some (.int .i64 (a2 : Int)) := s1
        go_region_held3 (fun w' => w'.cell? ⟨w.heap.size + 1, 1, none⟩ = some (.int .i64 (a2 : Int))) (first | go_keep) (fail)
        have Q := (X3.out.res.six rfl (.int .i64 0) (.int .i64 0) (.int .i64 0) (.int .i64 0) (.int .u16 0) (.bool false)).drew
        have e0 := Q.cell 0 _ rfl
        have e1 := Q.cell 1 _ rfl
        have e2 := Q.cell 2 _ rfl
        have e3 := Q.cell 3 _ rfl
        have e4 := Q.cell 4 _ rfl
        have e5 := Q.cell 5 _ rfl
        have HB := Lib.hid (below_six X3.out.below (Nat.le_refl _) (.int .i64 0) (.int .i64 0) (.int .i64 0) (.int .i64 0) (.int .u16 0) (.bool false))
        clear Q
        go_wp2_with fail
        exact bodyPost_ret (v := .tuple #[.agg #[.int .i64 0, .int .i64 0, .int .i64 0, .int .i64 0, .int .u16 0, .bool false], .int .i64 (a2 : Int), .int .i64 43]) (by simp [results, Tryd.results11, go_sem, e0, e1, e2, e3, e4, e5]) rfl ⟨by rw [HR.out]; rfl, HB.out.drew⟩
      · have t1 : decide ((a2 : Int) < (t.size : Int)) = false := by simp only [decide_eq_false_iff_not]; omega
        have HT := Lib.hid (show R = if togS MK then (⟨f, c, ef, ec, MK, BK⟩, 0, 0) else (zeroK, 0, 48) from by rw [HE.out, keyEnd, ← Lib.size_eq, if_neg hlt])
        go_upto_region 10 with fail
        generalize hw : World.alloc _ _ = x3
        have X3 := Lib.hid (show PkIn w t a2 (hv2 f c M ef ec M2) x3 from by rw [← hw]; exact (I3.out.lay3 h2 ef ec M2).alloc _)
        clear hw s0 s1
        clear u0 u1 u2 u3 u4 u5 g0 g1 g2 g3 g4 g5 hlt2
        have s0 := X3.out.sc.cell 0 _ rfl
        have s1 := X3.out.sc.cell 1 _ rfl
        have u0 := X3.out.two.cell 0 _ rfl
        have u1 := X3.out.two.cell 1 _ rfl
        have u2 := X3.out.two.cell 2 _ rfl
        have u3 := X3.out.two.cell 3 _ rfl
        have u4 := X3.out.two.cell 4 _ rfl
        have u5 := X3.out.two.cell 5 _ rfl
        have g0 := X3.out.two.free 0
        have g1 := X3.out.two.free 1
        have g2 := X3.out.two.free 2
        have g3 := X3.out.two.free 3
        have g4 := X3.out.two.free 4
        have g5 := X3.out.two.free 5
        have hlt2 := X3.out.two.lt
        go_wp2_with fail
        refine (KO.out _).mono ?_
        rintro e y ⟨he, bb⟩
        obtain rfl : e = .returned (.agg #[.int .i64 (f : Int), .int .i64 (c : Int), .int .i64 (ef : Int), .int .i64 (ec : Int), .int .u16 (MK : Int), .bool BK]) := he
        have Y := Lib.hid (X3.out.over bb)
        clear bb
        cases htg : togS MK with
        | true =>
          have HRR := Lib.hid (show R = (⟨f, c, ef, ec, MK, BK⟩, 0, 0) from by rw [HT.out, htg]; rfl)
          have TG := Lib.hid (fun w => show Calls Tryd.prog 23 #[.int .u16 (MK : Int)] w (RetV w (.bool true)) from htg ▸ tog_ok MK HMK.out w)
          clear htg
          have s0 := Y.out.sc.cell 0 _ rfl
          have s1 := Y.out.sc.cell 1 _ rfl
          have r0 := Y.out.res.cell 0 _ rfl
          have r1 := Y.out.res.cell 1 _ rfl
          have r2 := Y.out.res.cell 2 _ rfl
          have r3 := Y.out.res.cell 3 _ rfl
          have r4 := Y.out.res.cell 4 _ rfl
          have r5 := Y.out.res.cell 5 _ rfl
          have f0 := Y.out.res.free 0
          have f1 := Y.out.res.free 1
          have f2 := Y.out.res.free 2
          have f3 := Y.out.res.free 3
          have f4 := Y.out.res.free 4
          have f5 := Y.out.res.free 5
          have hlr := Y.out.res.lt
          go_wp2_with fail
          refine (TG.out _).mono ?_
          rintro e z ⟨rfl, rfl⟩
          have ZC := Lib.hid (CellsAt.new y [.int .i64 (f : Int), .int .i64 (c : Int), .int .i64 (ef : Int), .int .i64 (ec : Int), .int .u16 (MK : Int), .bool BK] 36)
          have Z := Lib.hid (Y.out.alloc (.cells #[.int .i64 (f : Int), .int .i64 (c : Int), .int .i64 (ef : Int), .int .i64 (ec : Int), .int .u16 (MK : Int), .bool BK] 36))
          have hyl : w.heap.size < y.heap.size := hlr
          clear s0 s1 r0 r1 r2 r3 r4 r5 f0 f1 f2 f3 f4 f5 hlr Y TG KO
          change Hid (CellsAt (y.alloc (.cells #[.int .i64 (f : Int), .int .i64 (c : Int), .int .i64 (ef : Int), .int .i64 (ec : Int), .int .u16 (MK : Int), .bool BK] 36)) y.heap.size _) at ZC
          generalize hz : y.alloc (.cells #[.int .i64 (f : Int), .int .i64 (c : Int), .int .i64 (ef : Int), .int .i64 (ec : Int), .int .u16 (MK : Int), .bool BK] 36) = z at *
          generalize hH : y.heap.size = H at *
          clear hz hH
          have s0 := Z.out.sc.cell 0 _ rfl
          have s1 := Z.out.sc.cell 1 _ rfl
          have r0 := Z.out.res.cell 0 _ rfl
          have r1 := Z.out.res.cell 1 _ rfl
          have r2 := Z.out.res.cell 2 _ rfl
          have r3 := Z.out.res.cell 3 _ rfl
          have r4 := Z.out.res.cell 4 _ rfl
          have r5 := Z.out.res.cell 5 _ rfl
          have f0 := Z.out.res.free 0
          have f1 := Z.out.res.free 1
          have f2 := Z.out.res.free 2
          have f3 := Z.out.res.free 3
          have f4 := Z.out.res.free 4
          have f5 := Z.out.res.free 5
          have hlr := Z.out.res.lt
          have z0 := ZC.out.cell 0 _ rfl
          have z1 := ZC.out.cell 1 _ rfl
          have z2 := ZC.out.cell 2 _ rfl
          have z3 := ZC.out.cell 3 _ rfl
          have z4 := ZC.out.cell 4 _ rfl
          have z5 := ZC.out.cell 5 _ rfl
          have Q := Z.out.res.six rfl (.int .i64 (f : Int)) (.int .i64 (c : Int)) (.int .i64 (ef : Int)) (.int .i64 (ec : Int)) (.int .u16 (MK : Int)) (.bool BK)
          have e0 := Q.cell 0 _ rfl
          have e1 := Q.cell 1 _ rfl
          have e2 := Q.cell 2 _ rfl
          have e3 := Q.cell 3 _ rfl
          have e4 := Q.cell 4 _ rfl
          have e5 := Q.cell 5 _ rfl
          have HB := Lib.hid (below_six Z.out.below (Nat.le_refl _) (.int .i64 (f : Int)) (.int .i64 (c : Int)) (.int .i64 (ef : Int)) (.int .i64 (ec : Int)) (.int .u16 (MK : Int)) (.bool BK))
          clear Q
          go_wp2_with fail
          exact bodyPost_ret (v := .tuple #[.agg #[.int .i64 (f : Int), .int .i64 (c : Int), .int .i64 (ef : Int), .int .i64 (ec : Int), .int .u16 (MK : Int), .bool BK], .int .i64 0, .int .i64 0]) (by simp [results, Tryd.results11, go_sem, e0, e1, e2, e3, e4, e5]) rfl ⟨by rw [HRR.out]; rfl, HB.out⟩
        | false =>
          have HRR := Lib.hid (show R = (zeroK, 0, 48) from by rw [HT.out, htg]; rfl)
          have TG := Lib.hid (fun w => show Calls Tryd.prog 23 #[.int .u16 (MK : Int)] w (RetV w (.bool false)) from htg ▸ tog_ok MK HMK.out w)
          clear htg
          have s0 := Y.out.sc.cell 0 _ rfl
          have s1 := Y.out.sc.cell 1 _ rfl
          have r0 := Y.out.res.cell 0 _ rfl
          have r1 := Y.out.res.cell 1 _ rfl
          have r2 := Y.out.res.cell 2 _ rfl
          have r3 := Y.out.res.cell 3 _ rfl
          have r4 := Y.out.res.cell 4 _ rfl
          have r5 := Y.out.res.cell 5 _ rfl
          have f0 := Y.out.res.free 0
          have f1 := Y.out.res.free 1
          have f2 := Y.out.res.free 2
          have f3 := Y.out.res.free 3
          have f4 := Y.out.res.free 4
          have f5 := Y.out.res.free 5
          have hlr := Y.out.res.lt
          go_wp2_with fail
          refine (TG.out _).mono ?_
          rintro e z ⟨rfl, rfl⟩
          have ZC := Lib.hid (CellsAt.new y [.int .i64 (f : Int), .int .i64 (c : Int), .int .i64 (ef : Int), .int .i64 (ec : Int), .int .u16 (MK : Int), .bool BK] 36)
          have Z := Lib.hid (Y.out.alloc (.cells #[.int .i64 (f : Int), .int .i64 (c : Int), .int .i64 (ef : Int), .int .i64 (ec : Int), .int .u16 (MK : Int), .bool BK] 36))
          have hyl : w.heap.size < y.heap.size := hlr
          clear s0 s1 r0 r1 r2 r3 r4 r5 f0 f1 f2 f3 f4 f5 hlr Y TG KO
          change Hid (CellsAt (y.alloc (.cells #[.int .i64 (f : Int), .int .i64 (c : Int), .int .i64 (ef : Int), .int .i64 (ec : Int), .int .u16 (MK : Int), .bool BK] 36)) y.heap.size _) at ZC
          generalize hz : y.alloc (.cells #[.int .i64 (f : Int), .int .i64 (c : Int), .int .i64 (ef : Int), .int .i64 (ec : Int), .int .u16 (MK : Int), .bool BK] 36) = z at *
          generalize hH : y.heap.size = H at *
          clear hz hH
          have s0 := Z.out.sc.cell 0 _ rfl
          have s1 := Z.out.sc.cell 1 _ rfl
          have r0 := Z.out.res.cell 0 _ rfl
          have r1 := Z.out.res.cell 1 _ rfl
          have r2 := Z.out.res.cell 2 _ rfl
          have r3 := Z.out.res.cell 3 _ rfl
          have r4 := Z.out.res.cell 4 _ rfl
          have r5 := Z.out.res.cell 5 _ rfl
          have f0 := Z.out.res.free 0
          have f1 := Z.out.res.free 1
          have f2 := Z.out.res.free 2
          have f3 := Z.out.res.free 3
          have f4 := Z.out.res.free 4
          have f5 := Z.out.res.free 5
          have hlr := Z.out.res.lt
          have z0 := ZC.out.cell 0 _ rfl
          have z1 := ZC.out.cell 1 _ rfl
          have z2 := ZC.out.cell 2 _ rfl
          have z3 := ZC.out.cell 3 _ rfl
          have z4 := ZC.out.cell 4 _ rfl
          have z5 := ZC.out.cell 5 _ rfl
          have Q := Z.out.res.six rfl (.int .i64 0) (.int .i64 0) (.int .i64 0) (.int .i64 0) (.int .u16 0) (.bool false)
          have e0 := Q.cell 0 _ rfl
          have e1 := Q.cell 1 _ rfl
          have e2 := Q.cell 2 _ rfl
          have e3 := Q.cell 3 _ rfl
          have e4 := Q.cell 4 _ rfl
          have e5 := Q.cell 5 _ rfl
          have HB := Lib.hid (below_six Z.out.below (Nat.le_refl _) (.int .i64 0) (.int .i64 0) (.int .i64 0) (.int .i64 0) (.int .u16 0) (.bool false))
          clear Q
          go_wp2_with fail
          exact bodyPost_ret (v := .tuple #[.agg #[.int .i64 0, .int .i64 0, .int .i64 0, .int .i64 0, .int .u16 0, .bool false], .int .i64 0, .int .i64 48]) (by simp [results, Tryd.results11, go_sem, e0, e1, e2, e3, e4, e5]) rfl ⟨by rw [HRR.out]; rfl, HB.out⟩
  · have X2 := Lib.hid (X1.out.drewN q)
    generalize hw : x1.drewN q = x2 at *
    obtain ⟨MK, hMK⟩ : ∃ MK, MK = M := ⟨_, rfl⟩
    obtain ⟨BK, hBK⟩ : ∃ BK, BK = false := ⟨_, rfl⟩
    have HMK := Lib.hid (show MK < 1024 from by rw [hMK]; exact hm)
    have KO := Lib.hid (fun w => show Calls Tryd.prog 22 #[.agg (hfV f c M).toArray, .agg (hfV 0 0 0).toArray] w (RetK6 w ⟨f, c, 0, 0, MK, BK⟩) from by have := keyOf_ok f c M 0 0 0 hm (by omega) w; rw [show M ||| (0 - 0 % 2) = M by simp] at this; rw [hMK, hBK]; exact this)
    have HE := Lib.hid (show R = keyEnd t.data.toList ⟨f, c, 0, 0, MK, BK⟩ a from by rw [HR.out, keyRest, hd, hMK, hBK, HM.out]; rfl)
    clear hMK hBK hw hd
    by_cases hlt : a < t.size
    · have t1 : decide ((a : Int) < (t.size : Int)) = true := by simp only [decide_eq_true_eq]; omega
      have HR := Lib.hid (show R = (zeroK, a, 43) from by rw [HE.out, keyEnd, ← Lib.size_eq, if_pos hlt])
      have s0 := X2.out.sc.cell 0 _ rfl
      have s1 := X2.out.sc.cell 1 _ rfl
      have r0 := X2.out.res.cell 0 _ rfl
      have r1 := X2.out.res.cell 1 _ rfl
      have r2 := X2.out.res.cell 2 _ rfl
      have r3 := X2.out.res.cell 3 _ rfl
      have r4 := X2.out.res.cell 4 _ rfl
      have r5 := X2.out.res.cell 5 _ rfl
      have f0 := X2.out.res.free 0
      have f1 := X2.out.res.free 1
      have f2 := X2.out.res.free 2
      have f3 := X2.out.res.free 3
      have f4 := X2.out.res.free 4
      have f5 := X2.out.res.free 5
      have hlr := X2.out.res.lt
      go_wp2_with fail
      have s1d : x2.drew.cell? ⟨w.heap.size + 1, 1, none⟩ = some (.int .i64 (a : Int)) := s1
      go_region_held3 (fun w' => w'.cell? ⟨w.heap.size + 1, 1, none⟩ = some (.int .i64 (a : Int))) (first | go_keep) (fail)
      have Q := (X2.out.res.six rfl (.int .i64 0) (.int .i64 0) (.int .i64 0) (.int .i64 0) (.int .u16 0) (.bool false)).drew
      have e0 := Q.cell 0 _ rfl
      have e1 := Q.cell 1 _ rfl
      have e2 := Q.cell 2 _ rfl
      have e3 := Q.cell 3 _ rfl
      have e4 := Q.cell 4 _ rfl
      have e5 := Q.cell 5 _ rfl
      have HB := Lib.hid (below_six X2.out.below (Nat.le_refl _) (.int .i64 0) (.int .i64 0) (.int .i64 0) (.int .i64 0) (.int .u16 0) (.bool false))
      clear Q
      go_wp2_with fail
      exact bodyPost_ret (v := .tuple #[.agg #[.int .i64 0, .int .i64 0, .int .i64 0, .int .i64 0, .int .u16 0, .bool false], .int .i64 (a : Int), .int .i64 43]) (by simp [results, Tryd.results11, go_sem, e0, e1, e2, e3, e4, e5]) rfl ⟨by rw [HR.out]; rfl, HB.out.drew⟩
    · have t1 : decide ((a : Int) < (t.size : Int)) = false := by simp only [decide_eq_false_iff_not]; omega
      have HT := Lib.hid (show R = if togS MK then (⟨f, c, 0, 0, MK, BK⟩, 0, 0) else (zeroK, 0, 48) from by rw [HE.out, keyEnd, ← Lib.size_eq, if_neg hlt])
      have s0 := X2.out.sc.cell 0 _ rfl
      have s1 := X2.out.sc.cell 1 _ rfl
      have u0 := X2.out.two.cell 0 _ rfl
      have u1 := X2.out.two.cell 1 _ rfl
      have u2 := X2.out.two.cell 2 _ rfl
      have u3 := X2.out.two.cell 3 _ rfl
      have u4 := X2.out.two.cell 4 _ rfl
      have u5 := X2.out.two.cell 5 _ rfl
      have g0 := X2.out.two.free 0
      have g1 := X2.out.two.free 1
      have g2 := X2.out.two.free 2
      have g3 := X2.out.two.free 3
      have g4 := X2.out.two.free 4
      have g5 := X2.out.two.free 5
      have hlt2 := X2.out.two.lt
      go_wp2_with fail
      refine (KO.out _).mono ?_
      rintro e y ⟨he, bb⟩
      obtain rfl : e = .returned (.agg #[.int .i64 (f : Int), .int .i64 (c : Int), .int .i64 0, .int .i64 0, .int .u16 (MK : Int), .bool BK]) := he
      have Y := Lib.hid (X2.out.over bb)
      clear bb
      cases htg : togS MK with
      | true =>
        have HRR := Lib.hid (show R = (⟨f, c, 0, 0, MK, BK⟩, 0, 0) from by rw [HT.out, htg]; rfl)
        have TG := Lib.hid (fun w => show Calls Tryd.prog 23 #[.int .u16 (MK : Int)] w (RetV w (.bool true)) from htg ▸ tog_ok MK HMK.out w)
        clear htg
        have s0 := Y.out.sc.cell 0 _ rfl
        have s1 := Y.out.sc.cell 1 _ rfl
        have r0 := Y.out.res.cell 0 _ rfl
        have r1 := Y.out.res.cell 1 _ rfl
        have r2 := Y.out.res.cell 2 _ rfl
        have r3 := Y.out.res.cell 3 _ rfl
        have r4 := Y.out.res.cell 4 _ rfl
        have r5 := Y.out.res.cell 5 _ rfl
        have f0 := Y.out.res.free 0
        have f1 := Y.out.res.free 1
        have f2 := Y.out.res.free 2
        have f3 := Y.out.res.free 3
        have f4 := Y.out.res.free 4
        have f5 := Y.out.res.free 5
        have hlr := Y.out.res.lt
        go_wp2_with fail
        refine (TG.out _).mono ?_
        rintro e z ⟨rfl, rfl⟩
        have ZC := Lib.hid (CellsAt.new y [.int .i64 (f : Int), .int .i64 (c : Int), .int .i64 0, .int .i64 0, .int .u16 (MK : Int), .bool BK] 36)
        have Z := Lib.hid (Y.out.alloc (.cells #[.int .i64 (f : Int), .int .i64 (c : Int), .int .i64 0, .int .i64 0, .int .u16 (MK : Int), .bool BK] 36))
        have hyl : w.heap.size < y.heap.size := hlr
        clear s0 s1 r0 r1 r2 r3 r4 r5 f0 f1 f2 f3 f4 f5 hlr Y TG KO
        change Hid (CellsAt (y.alloc (.cells #[.int .i64 (f : Int), .int .i64 (c : Int), .int .i64 0, .int .i64 0, .int .u16 (MK : Int), .bool BK] 36)) y.heap.size _) at ZC
        generalize hz : y.alloc (.cells #[.int .i64 (f : Int), .int .i64 (c : Int), .int .i64 0, .int .i64 0, .int .u16 (MK : Int), .bool BK] 36) = z at *
        generalize hH : y.heap.size = H at *
        clear hz hH
        have s0 := Z.out.sc.cell 0 _ rfl
        have s1 := Z.out.sc.cell 1 _ rfl
        have r0 := Z.out.res.cell 0 _ rfl
        have r1 := Z.out.res.cell 1 _ rfl
        have r2 := Z.out.res.cell 2 _ rfl
        have r3 := Z.out.res.cell 3 _ rfl
        have r4 := Z.out.res.cell 4 _ rfl
        have r5 := Z.out.res.cell 5 _ rfl
        have f0 := Z.out.res.free 0
        have f1 := Z.out.res.free 1
        have f2 := Z.out.res.free 2
        have f3 := Z.out.res.free 3
        have f4 := Z.out.res.free 4
        have f5 := Z.out.res.free 5
        have hlr := Z.out.res.lt
        have z0 := ZC.out.cell 0 _ rfl
        have z1 := ZC.out.cell 1 _ rfl
        have z2 := ZC.out.cell 2 _ rfl
        have z3 := ZC.out.cell 3 _ rfl
        have z4 := ZC.out.cell 4 _ rfl
        have z5 := ZC.out.cell 5 _ rfl
        have Q := Z.out.res.six rfl (.int .i64 (f : Int)) (.int .i64 (c : Int)) (.int .i64 0) (.int .i64 0) (.int .u16 (MK : Int)) (.bool BK)
        have e0 := Q.cell 0 _ rfl
        have e1 := Q.cell 1 _ rfl
        have e2 := Q.cell 2 _ rfl
        have e3 := Q.cell 3 _ rfl
        have e4 := Q.cell 4 _ rfl
        have e5 := Q.cell 5 _ rfl
        have HB := Lib.hid (below_six Z.out.below (Nat.le_refl _) (.int .i64 (f : Int)) (.int .i64 (c : Int)) (.int .i64 0) (.int .i64 0) (.int .u16 (MK : Int)) (.bool BK))
        clear Q
        go_wp2_with fail
        exact bodyPost_ret (v := .tuple #[.agg #[.int .i64 (f : Int), .int .i64 (c : Int), .int .i64 0, .int .i64 0, .int .u16 (MK : Int), .bool BK], .int .i64 0, .int .i64 0]) (by simp [results, Tryd.results11, go_sem, e0, e1, e2, e3, e4, e5]) rfl ⟨by rw [HRR.out]; rfl, HB.out⟩
      | false =>
        have HRR := Lib.hid (show R = (zeroK, 0, 48) from by rw [HT.out, htg]; rfl)
        have TG := Lib.hid (fun w => show Calls Tryd.prog 23 #[.int .u16 (MK : Int)] w (RetV w (.bool false)) from htg ▸ tog_ok MK HMK.out w)
        clear htg
        have s0 := Y.out.sc.cell 0 _ rfl
        have s1 := Y.out.sc.cell 1 _ rfl
        have r0 := Y.out.res.cell 0 _ rfl
        have r1 := Y.out.res.cell 1 _ rfl
        have r2 := Y.out.res.cell 2 _ rfl
        have r3 := Y.out.res.cell 3 _ rfl
        have r4 := Y.out.res.cell 4 _ rfl
        have r5 := Y.out.res.cell 5 _ rfl
        have f0 := Y.out.res.free 0
        have f1 := Y.out.res.free 1
        have f2 := Y.out.res.free 2
        have f3 := Y.out.res.free 3
        have f4 := Y.out.res.free 4
        have f5 := Y.out.res.free 5
        have hlr := Y.out.res.lt
        go_wp2_with fail
        refine (TG.out _).mono ?_
        rintro e z ⟨rfl, rfl⟩
        have ZC := Lib.hid (CellsAt.new y [.int .i64 (f : Int), .int .i64 (c : Int), .int .i64 0, .int .i64 0, .int .u16 (MK : Int), .bool BK] 36)
        have Z := Lib.hid (Y.out.alloc (.cells #[.int .i64 (f : Int), .int .i64 (c : Int), .int .i64 0, .int .i64 0, .int .u16 (MK : Int), .bool BK] 36))
        have hyl : w.heap.size < y.heap.size := hlr
        clear s0 s1 r0 r1 r2 r3 r4 r5 f0 f1 f2 f3 f4 f5 hlr Y TG KO
        change Hid (CellsAt (y.alloc (.cells #[.int .i64 (f : Int), .int .i64 (c : Int), .int .i64 0, .int .i64 0, .int .u16 (MK : Int), .bool BK] 36)) y.heap.size _) at ZC
        generalize hz : y.alloc (.cells #[.int .i64 (f : Int), .int .i64 (c : Int), .int .i64 0, .int .i64 0, .int .u16 (MK : Int), .bool BK] 36) = z at *
        generalize hH : y.heap.size = H at *
        clear hz hH
        have s0 := Z.out.sc.cell 0 _ rfl
        have s1 := Z.out.sc.cell 1 _ rfl
        have r0 := Z.out.res.cell 0 _ rfl
        have r1 := Z.out.res.cell 1 _ rfl
        have r2 := Z.out.res.cell 2 _ rfl
        have r3 := Z.out.res.cell 3 _ rfl
        have r4 := Z.out.res.cell 4 _ rfl
        have r5 := Z.out.res.cell 5 _ rfl
        have f0 := Z.out.res.free 0
        have f1 := Z.out.res.free 1
        have f2 := Z.out.res.free 2
        have f3 := Z.out.res.free 3
        have f4 := Z.out.res.free 4
        have f5 := Z.out.res.free 5
        have hlr := Z.out.res.lt
        have z0 := ZC.out.cell 0 _ rfl
        have z1 := ZC.out.cell 1 _ rfl
        have z2 := ZC.out.cell 2 _ rfl
        have z3 := ZC.out.cell 3 _ rfl
        have z4 := ZC.out.cell 4 _ rfl
        have z5 := ZC.out.cell 5 _ rfl
        have Q := Z.out.res.six rfl (.int .i64 0) (.int .i64 0) (.int .i64 0) (.int .i64 0) (.int .u16 0) (.bool false)
        have e0 := Q.cell 0 _ rfl
        have e1 := Q.cell 1 _ rfl
        have e2 := Q.cell 2 _ rfl
        have e3 := Q.cell 3 _ rfl
        have e4 := Q.cell 4 _ rfl
        have e5 := Q.cell 5 _ rfl
        have HB := Lib.hid (below_six Z.out.below (Nat.le_refl _) (.int .i64 0) (.int .i64 0) (.int .i64 0) (.int .i64 0) (.int .u16 0) (.bool false))
        clear Q
        go_wp2_with fail
        exact bodyPost_ret (v := .tuple #[.agg #[.int .i64 0, .int .i64 0, .int .i64 0, .int .i64 0, .int .u16 0, .bool false], .int .i64 0, .int .i64 48]) (by simp [results, Tryd.results11, go_sem, e0, e1, e2, e3, e4, e5]) rfl ⟨by rw [HRR.out]; rfl, HB.out⟩
theorem pkey_ok (t : ByteArray) (w : World) (ht : t.size ≤ 140737488351232) (T : BitsT w) : Calls Tryd.prog 11 #[.string t] w (RetKey w (keyS t.data.toList)) := by
  cases hp : placeS t.data.toList 0 1 with
  | bad a => exact pk_bad t w ht T a hp
  | good f c ms a => exact pk_good t w ht T f c ms a hp
end Go.Proofs.YtbgbmojoldkcfaaDoor
