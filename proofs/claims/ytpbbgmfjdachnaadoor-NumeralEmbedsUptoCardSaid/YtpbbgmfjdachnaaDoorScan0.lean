/- numeral scan, from its begin. -/
import Derived.Test.YtpbbgmfjdachnaaDoorScan1
import Derived.Lib.QuietBelow
namespace Go.Proofs.YtpbbgmfjdachnaaDoor
open Go.RowKit Go.Sort
theorem wordS_le (l : List UInt8) (n : Bool) : (wordS l n).2 ≤ 8 := by
  unfold wordS
  repeat' split
  all_goals simp
theorem scan_word (s : ByteArray) (h : scWord s true) : scanS (scL s) true = ⟨(wordS (scR1 s true) (scNeg s)).1, false, [], [], 0, scF s true + (wordS (scR1 s true) (scNeg s)).2⟩ := by
  unfold scanS
  simp only
  rw [if_pos]
  · rfl
  · simp only [Bool.true_and, decide_eq_true_eq]; exact h.2

set_option maxRecDepth 100000 in
set_option maxHeartbeats 1600000 in
theorem scan0 (s : ByteArray) (g : Bool) (w : World) (hs : s.size ≤ 1125899906842624) (T : Tabs w) (X : Code) (hX : findLabel scBody 0 = some (Code.seq .skip X)) (a : Act) (wr : World) (hJ : ScJ s g w 0 a wr) :
    X.wp Tryd.prog (jumps (fun l' a' w' => ScJ s g w l' a' w' ∧ ScM s l' a' w' < ScM s 0 a wr) (ScQ s g w)) a wr := by
  suffices h : ∃ X, findLabel scBody 0 = some (Code.seq .skip X) ∧ X.wp Tryd.prog (jumps (fun l' a' w' => ScJ s g w l' a' w' ∧ ScM s l' a' w' < ScM s 0 a wr) (ScQ s g w)) a wr by
    obtain ⟨X', e', h'⟩ := h
    rw [e'] at hX
    cases hX
    exact h'
  unfold scBody
  unfold Tryd.f32
  simp only [findLabel]
  refine ⟨_, rfl, ?_⟩
  obtain ⟨i, f, e1, e2, e3, e4, e5, e6, e7, e8, (⟨_, hw, hf, k, hk, hi⟩ | ⟨h, _⟩ | ⟨h, _⟩ | ⟨h, _⟩)⟩ := hJ
  rotate_left
  · cases h
  · cases h
  · cases h
  obtain ⟨t, rfl⟩ := frame105 a e1 e2 e3 e4 e5 e6 e7 e8
  clear e1 e2 e3 e4 e5 e6 e7 e8
  have hpl := pos_le s g
  have hsl : scB s ≤ s.size := by unfold scF at hpl; omega
  have hk' : k ≤ spanN isBlank (scL s) := hk
  obtain rfl : i = (k : Int) := by omega
  subst hf
  have hns : k ≤ s.size := by omega
  have HW := Lib.hid hw
  have HT := Lib.hid (T.below hw.below)
  have HPL := Lib.hid hpl
  obtain ⟨_, hz, _, _, _, _, _, _, _, h0, h1, h2, h3, h4, h5, hfz⟩ := hw
  have hf1 := hfz 1
  clear hfz hi hk hpl
  obtain ⟨c, hc⟩ : ∃ c, c = atB s.data.toList k := ⟨_, rfl⟩
  have fb := Lib.hid hc.symm
  have HC := Lib.hid (show c = atB (scL s) k from hc)
  clear hc
  cases hd : isBlank c with
  | true =>
    have HK1 := Lib.hid (spanN_on hk' (by decide) (by rw [← HC.out]; exact hd))
    have hlt : k < s.size := by
      rcases Nat.lt_or_ge k s.size with h | h
      · exact h
      · exfalso
        have := fb.out
        rw [atB_end s k (by omega)] at this
        rw [← this] at hd
        exact absurd hd (by decide)
    have ht : (((c.toNat : Int) == 32) = true) ∨ ((((c.toNat : Int) == 32) = false) ∧ (((c.toNat : Int) == 9) = true)) := by
      unfold isBlank at hd
      rcases (Bool.or_eq_true _ _).mp hd with h | h
      · left; rw [beq_iff_eq] at h; subst h; rfl
      · right; rw [beq_iff_eq] at h; subst h; exact ⟨rfl, rfl⟩
    clear hd hk'
    rcases ht with t1 | ⟨t1, t2⟩
    all_goals
      go_wp2_with (refine (at_ok s k _).mono ?_; rintro e w' ⟨rfl, rfl⟩; rw [fb.out])
      go_step3
      refine ⟨⟨_, _, rfl, rfl, rfl, rfl, rfl, rfl, rfl, rfl, Or.inl ⟨rfl, HW.out, rfl, k + 1, HK1.out, by omega⟩⟩, ?_⟩
      show 3 * (s.size + 2) + (s.size + 1 - (intOf (.int .i64 ((k : Int) + 1))).toNat) < 3 * (s.size + 2) + (s.size + 1 - (intOf (.int .i64 (k : Int))).toNat)
      simp [intOf]; omega
  | false =>
    have HK1 := Lib.hid (show scB s = k from spanN_end hk' (by rw [← HC.out]; exact hd))
    have u32 : ((c.toNat : Int) == 32) = false := by
      unfold isBlank at hd; simp only [Bool.or_eq_false_iff] at hd
      rw [beq_eq_false_iff_ne]; intro h; exact (beq_eq_false_iff_ne.1 hd.1) (UInt8.toNat_inj.1 (by show _ = (32 : UInt8).toNat; simp; omega))
    have u9 : ((c.toNat : Int) == 9) = false := by
      unfold isBlank at hd; simp only [Bool.or_eq_false_iff] at hd
      rw [beq_eq_false_iff_ne]; intro h; exact (beq_eq_false_iff_ne.1 hd.2) (UInt8.toNat_inj.1 (by show _ = (9 : UInt8).toNat; simp; omega))
    have HR := Lib.hid (show c = atB (scR s) 0 by rw [HC.out]; unfold scR; rw [drop_atB, HK1.out]; rfl)
    clear hd hk'
    have byte_lit : ∀ (x : UInt8) (n : Nat), n < 256 → ((x.toNat : Int) == (n : Int)) = (x == UInt8.ofNat n) := fun x n hn => by
      rw [Bool.eq_iff_iff, beq_iff_eq, beq_iff_eq, ← UInt8.toNat_inj]
      have : (UInt8.ofNat n).toNat = n := by simp; omega
      rw [this]; omega
    cases g with
    | false =>
      cases c45 : (c == 45) with
      | true =>
        have HNEG := Lib.hid (show scNeg s = true by unfold scNeg; rw [← HR.out]; exact c45)
        have HSN := Lib.hid (show signN (scR s) false = 1 by unfold signN; rw [← HR.out, c45]; rfl)
        have HF := Lib.hid (show scF s false = k + 1 by unfold scF; rw [HSN.out, HK1.out]; try rfl)
        have hnn : k + 1 ≤ s.size := by have := HPL.out; rw [HF.out] at this; omega
        have v45 : ((c.toNat : Int) == 45) = true := by rw [← c45]; exact byte_lit c 45 (by omega)
        clear c45
        have HNWD := Lib.hid (show ¬ scWord s false from fun h => by cases h.1)
        go_wp2_with (refine (at_ok s k _).mono ?_; rintro e w' ⟨rfl, rfl⟩; rw [fb.out])
        go_step3
        rename_i hKK
        refine hKK _ _ ?_
        refine Code.wp_mono (jumps_mono fun l' a' w' h => ?_) (scan1 s false w hs _ ?_ _ _ ?_)
        · refine ⟨h.1, Nat.lt_of_lt_of_le h.2 ?_⟩
          show 2 * (s.size + 2) + (s.size + 1 - (intOf (.int .i64 ((k : Int) + 1))).toNat) ≤ 3 * (s.size + 2) + (s.size + 1 - (intOf (.int .i64 (k : Int))).toNat)
          simp [intOf]; omega
        · unfold scBody
          unfold Tryd.f32
          simp only [findLabel]
          rfl
        · refine ⟨_, _, rfl, rfl, rfl, rfl, rfl, rfl, rfl, rfl, Or.inr (Or.inl ⟨rfl, HNWD.out, ?_, ?_, 0, Nat.zero_le _, ?_⟩)⟩
          · rw [HNEG.out]; exact HW.out.neg true
          · rw [HF.out]; try omega
          · rw [HF.out]; try omega
      | false =>
        cases c43 : (c == 43) with
        | true =>
          have HNEG := Lib.hid (show scNeg s = false by unfold scNeg; rw [← HR.out]; exact c45)
          have HSN := Lib.hid (show signN (scR s) false = 0 by unfold signN; rw [← HR.out, c45, c43]; rfl)
          have HF := Lib.hid (show scF s false = k by unfold scF; rw [HSN.out, HK1.out]; try rfl)
          have hnn : k ≤ s.size := by have := HPL.out; rw [HF.out] at this; omega
          have v45 : ((c.toNat : Int) == 45) = false := by rw [← c45]; exact byte_lit c 45 (by omega)
          have v43 : ((c.toNat : Int) == 43) = true := by rw [← c43]; exact byte_lit c 43 (by omega)
          clear c45 c43
          have HNWD := Lib.hid (show ¬ scWord s false from fun h => by cases h.1)
          go_wp2_with (refine (at_ok s k _).mono ?_; rintro e w' ⟨rfl, rfl⟩; rw [fb.out])
          go_step3
          rename_i hKK
          refine hKK _ _ ?_
          refine Code.wp_mono (jumps_mono fun l' a' w' h => ?_) (scan1 s false w hs _ ?_ _ _ ?_)
          · refine ⟨h.1, Nat.lt_of_lt_of_le h.2 ?_⟩
            show 2 * (s.size + 2) + (s.size + 1 - (intOf (.int .i64 (k : Int))).toNat) ≤ 3 * (s.size + 2) + (s.size + 1 - (intOf (.int .i64 (k : Int))).toNat)
            simp [intOf]; omega
          · unfold scBody
            unfold Tryd.f32
            simp only [findLabel]
            rfl
          · refine ⟨_, _, rfl, rfl, rfl, rfl, rfl, rfl, rfl, rfl, Or.inr (Or.inl ⟨rfl, HNWD.out, ?_, ?_, 0, Nat.zero_le _, ?_⟩)⟩
            · rw [HNEG.out]; exact HW.out
            · rw [HF.out]; try omega
            · rw [HF.out]; try omega
        | false =>
          have HNEG := Lib.hid (show scNeg s = false by unfold scNeg; rw [← HR.out]; exact c45)
          have HSN := Lib.hid (show signN (scR s) false = 0 by unfold signN; rw [← HR.out, c45, c43]; rfl)
          have HF := Lib.hid (show scF s false = k by unfold scF; rw [HSN.out, HK1.out]; try rfl)
          have hnn : k ≤ s.size := by have := HPL.out; rw [HF.out] at this; omega
          have v45 : ((c.toNat : Int) == 45) = false := by rw [← c45]; exact byte_lit c 45 (by omega)
          have v43 : ((c.toNat : Int) == 43) = false := by rw [← c43]; exact byte_lit c 43 (by omega)
          clear c45 c43
          have HNWD := Lib.hid (show ¬ scWord s false from fun h => by cases h.1)
          go_wp2_with (refine (at_ok s k _).mono ?_; rintro e w' ⟨rfl, rfl⟩; rw [fb.out])
          go_step3
          rename_i hKK
          refine hKK _ _ ?_
          refine Code.wp_mono (jumps_mono fun l' a' w' h => ?_) (scan1 s false w hs _ ?_ _ _ ?_)
          · refine ⟨h.1, Nat.lt_of_lt_of_le h.2 ?_⟩
            show 2 * (s.size + 2) + (s.size + 1 - (intOf (.int .i64 (k : Int))).toNat) ≤ 3 * (s.size + 2) + (s.size + 1 - (intOf (.int .i64 (k : Int))).toNat)
            simp [intOf]; omega
          · unfold scBody
            unfold Tryd.f32
            simp only [findLabel]
            rfl
          · refine ⟨_, _, rfl, rfl, rfl, rfl, rfl, rfl, rfl, rfl, Or.inr (Or.inl ⟨rfl, HNWD.out, ?_, ?_, 0, Nat.zero_le _, ?_⟩)⟩
            · rw [HNEG.out]; exact HW.out
            · rw [HF.out]; try omega
            · rw [HF.out]; try omega
    | true =>
      cases c45 : (c == 45) with
      | true =>
        have HNEG := Lib.hid (show scNeg s = true by unfold scNeg; rw [← HR.out]; exact c45)
        have HSN := Lib.hid (show signN (scR s) true = 1 by unfold signN; rw [← HR.out, c45]; rfl)
        have HF := Lib.hid (show scF s true = k + 1 by unfold scF; rw [HSN.out, HK1.out]; try rfl)
        have hnn : k + 1 ≤ s.size := by have := HPL.out; rw [HF.out] at this; omega
        have v45 : ((c.toNat : Int) == 45) = true := by rw [← c45]; exact byte_lit c 45 (by omega)
        clear c45
        have HLL := Lib.hid (show (s.extract (k + 1) s.size).data.toList = scR1 s true by rw [extract_bs, bs_list, scR1_drop, HF.out, List.take_of_length_le (by simp)])
        have hel : (s.extract (k + 1) s.size).size ≤ 1125899906842624 := by rw [ByteArray.size_extract]; omega
        have HCW := Lib.hid (fun (W : World) (hT : Tabs W) => wordAt_ok (s.extract (k + 1) s.size) true W hel hT)
        go_wp2_with (refine (at_ok s k _).mono ?_; rintro e w' ⟨rfl, rfl⟩; rw [fb.out])
        obtain ⟨m, hm⟩ : ∃ m : Nat, m = k + 1 := ⟨_, rfl⟩
        rw [← hm] at HF HLL hel HCW hnn
        rw [show ((k : Int) + 1) = (m : Int) by omega]
        have hmk : k ≤ m := by omega
        clear hm
        have SW := HW.out.neg true
        clear HW h0 h1 h2 h3 h4 h5 hf1 HT
        generalize wr.setCell ⟨w.heap.size + 1, 1, none⟩ (.bool true) = W1 at *
        have j1 := cell_regrown SW.h1
        have HSW := Lib.hid SW
        have HT1 := Lib.hid (T.below SW.below)
        clear SW
        obtain ⟨ext, hext⟩ : ∃ ext, ext = s.extract m s.size := ⟨_, rfl⟩
        rw [← hext] at HCW HLL
        have HEXT := Lib.hid hext.symm
        clear hext
        have cP : ∀ dd os, Calls Tryd.prog 67 #[.string ext, .bool true] (grow (redrawn W1 dd) os) fun e w'' => e = .returned (.tuple #[.int .u8 ((wordS ext.data.toList true).1 : Nat), .int .i64 ((wordS ext.data.toList true).2 : Nat)]) ∧ ∃ r : Regrown, w'' = grow (redrawn W1 r.d) r.os := fun dd os => Calls.regrown_of (HCW.out _ (HT1.out.below (below_regrown W1 dd os)))
        refine wp_region_quiet_below (by kernel_rfl) (by kernel_rfl) ?_
        repeat (quiet_step (first | (rw [HEXT.out]; exact cP _ _) | exact cP _ _))
        refine wpQuiet_nil ?_
        intro _ hw'
        obtain ⟨⟨dq, osq⟩, hw''⟩ := hw'
        subst hw''
        have SW2 := HSW.out.step (below_regrown W1 dq osq)
        clear cP j1
        have HWS := Lib.hid (show wordS ext.data.toList true = wordS (scR1 s true) (scNeg s) by rw [HLL.out, HNEG.out])
        generalize grow (redrawn W1 dq) osq = W2 at *
        obtain ⟨wc, hwc⟩ : ∃ wc, wc = (wordS ext.data.toList true).1 := ⟨_, rfl⟩
        obtain ⟨wz, hwz⟩ : ∃ wz, wz = (wordS ext.data.toList true).2 := ⟨_, rfl⟩
        rw [← hwc, ← hwz]
        have HWC := Lib.hid (show wc = (wordS (scR1 s true) (scNeg s)).1 by rw [hwc, HWS.out])
        have HWZ := Lib.hid (show wz = (wordS (scR1 s true) (scNeg s)).2 by rw [hwz, HWS.out])
        have hwz8 : wz ≤ 8 := by rw [hwz]; exact wordS_le _ _
        clear hwc hwz
        have HSW2 := Lib.hid SW2
        obtain ⟨_, hz2, a0, a1, a2, a3, a4, a5, af, _, _, _, _, _, _, _⟩ := SW2
        have af0 := af 0; have af1 := af 1; have af2 := af 2; have af3 := af 3; have af4 := af 4; have af5 := af 5
        clear af
        by_cases hpos : 0 < wz
        · have E := Lib.hid (show scanS (scL s) true = ⟨wc, false, [], [], 0, m + wz⟩ by
            rw [scan_word s ⟨rfl, by rw [← HWZ.out]; exact hpos⟩, HWC.out, HWZ.out, HF.out])
          go_wp2_with fail
          simp only [jumps]
          exact bodyPost_ret (v := headV ⟨wc, false, [], [], 0, m + wz⟩) (by simp [results, Tryd.results32, go_sem, a0, a1, a2, a3, a4, a5, headV]; try rfl) rfl ⟨by rw [E.out], ((((((HSW2.out.below.setCell (p := ⟨w.heap.size, 0, none⟩) (Nat.le_refl _) _).setCell (p := ⟨w.heap.size, 1, none⟩) (Nat.le_refl _) _).setCell (p := ⟨w.heap.size, 2, none⟩) (Nat.le_refl _) _).setCell (p := ⟨w.heap.size, 3, none⟩) (Nat.le_refl _) _).setCell (p := ⟨w.heap.size, 4, none⟩) (Nat.le_refl _) _).setCell (p := ⟨w.heap.size, 5, none⟩) (Nat.le_refl _) _)⟩
        · have HNWD := Lib.hid (show ¬ scWord s true from fun h => hpos (by rw [HWZ.out]; exact h.2))
          have hz0 : ¬ ((0 : Int) < (wz : Int)) := by omega
          clear hpos
          go_wp2_with fail
          go_step3
          rename_i hKK
          refine hKK _ _ ?_
          refine Code.wp_mono (jumps_mono fun l' a' w' h => ?_) (scan1 s true w hs _ ?_ _ _ ?_)
          · refine ⟨h.1, Nat.lt_of_lt_of_le h.2 ?_⟩
            show 2 * (s.size + 2) + (s.size + 1 - (intOf (.int .i64 (m : Int))).toNat) ≤ 3 * (s.size + 2) + (s.size + 1 - (intOf (.int .i64 (k : Int))).toNat)
            simp [intOf]; omega
          · unfold scBody
            unfold Tryd.f32
            simp only [findLabel]
            rfl
          · refine ⟨_, _, rfl, rfl, rfl, rfl, rfl, rfl, rfl, rfl, Or.inr (Or.inl ⟨rfl, HNWD.out, ?_, ?_, 0, Nat.zero_le _, ?_⟩)⟩
            · rw [HNEG.out]; exact HSW2.out
            · rw [HF.out]; try omega
            · rw [HF.out]; try omega
      | false =>
        cases c43 : (c == 43) with
        | true =>
          have HNEG := Lib.hid (show scNeg s = false by unfold scNeg; rw [← HR.out]; exact c45)
          have HSN := Lib.hid (show signN (scR s) true = 1 by unfold signN; rw [← HR.out, c45, c43]; rfl)
          have HF := Lib.hid (show scF s true = k + 1 by unfold scF; rw [HSN.out, HK1.out]; try rfl)
          have hnn : k + 1 ≤ s.size := by have := HPL.out; rw [HF.out] at this; omega
          have v45 : ((c.toNat : Int) == 45) = false := by rw [← c45]; exact byte_lit c 45 (by omega)
          have v43 : ((c.toNat : Int) == 43) = true := by rw [← c43]; exact byte_lit c 43 (by omega)
          clear c45 c43
          have HLL := Lib.hid (show (s.extract (k + 1) s.size).data.toList = scR1 s true by rw [extract_bs, bs_list, scR1_drop, HF.out, List.take_of_length_le (by simp)])
          have hel : (s.extract (k + 1) s.size).size ≤ 1125899906842624 := by rw [ByteArray.size_extract]; omega
          have HCW := Lib.hid (fun (W : World) (hT : Tabs W) => wordAt_ok (s.extract (k + 1) s.size) false W hel hT)
          go_wp2_with (refine (at_ok s k _).mono ?_; rintro e w' ⟨rfl, rfl⟩; rw [fb.out])
          obtain ⟨m, hm⟩ : ∃ m : Nat, m = k + 1 := ⟨_, rfl⟩
          rw [← hm] at HF HLL hel HCW hnn
          rw [show ((k : Int) + 1) = (m : Int) by omega]
          have hmk : k ≤ m := by omega
          clear hm
          have SW := HW.out
          clear HW h0 h1 h2 h3 h4 h5 hf1 HT
          obtain ⟨W1, hW1⟩ : ∃ W1, W1 = wr := ⟨_, rfl⟩
          subst hW1
          have j1 := cell_regrown SW.h1
          have HSW := Lib.hid SW
          have HT1 := Lib.hid (T.below SW.below)
          clear SW
          obtain ⟨ext, hext⟩ : ∃ ext, ext = s.extract m s.size := ⟨_, rfl⟩
          rw [← hext] at HCW HLL
          have HEXT := Lib.hid hext.symm
          clear hext
          have cP : ∀ dd os, Calls Tryd.prog 67 #[.string ext, .bool false] (grow (redrawn W1 dd) os) fun e w'' => e = .returned (.tuple #[.int .u8 ((wordS ext.data.toList false).1 : Nat), .int .i64 ((wordS ext.data.toList false).2 : Nat)]) ∧ ∃ r : Regrown, w'' = grow (redrawn W1 r.d) r.os := fun dd os => Calls.regrown_of (HCW.out _ (HT1.out.below (below_regrown W1 dd os)))
          refine wp_region_quiet_below (by kernel_rfl) (by kernel_rfl) ?_
          repeat (quiet_step (first | (rw [HEXT.out]; exact cP _ _) | exact cP _ _))
          refine wpQuiet_nil ?_
          intro _ hw'
          obtain ⟨⟨dq, osq⟩, hw''⟩ := hw'
          subst hw''
          have SW2 := HSW.out.step (below_regrown W1 dq osq)
          clear cP j1
          have HWS := Lib.hid (show wordS ext.data.toList false = wordS (scR1 s true) (scNeg s) by rw [HLL.out, HNEG.out])
          generalize grow (redrawn W1 dq) osq = W2 at *
          obtain ⟨wc, hwc⟩ : ∃ wc, wc = (wordS ext.data.toList false).1 := ⟨_, rfl⟩
          obtain ⟨wz, hwz⟩ : ∃ wz, wz = (wordS ext.data.toList false).2 := ⟨_, rfl⟩
          rw [← hwc, ← hwz]
          have HWC := Lib.hid (show wc = (wordS (scR1 s true) (scNeg s)).1 by rw [hwc, HWS.out])
          have HWZ := Lib.hid (show wz = (wordS (scR1 s true) (scNeg s)).2 by rw [hwz, HWS.out])
          have hwz8 : wz ≤ 8 := by rw [hwz]; exact wordS_le _ _
          clear hwc hwz
          have HSW2 := Lib.hid SW2
          obtain ⟨_, hz2, a0, a1, a2, a3, a4, a5, af, _, _, _, _, _, _, _⟩ := SW2
          have af0 := af 0; have af1 := af 1; have af2 := af 2; have af3 := af 3; have af4 := af 4; have af5 := af 5
          clear af
          by_cases hpos : 0 < wz
          · have E := Lib.hid (show scanS (scL s) true = ⟨wc, false, [], [], 0, m + wz⟩ by
              rw [scan_word s ⟨rfl, by rw [← HWZ.out]; exact hpos⟩, HWC.out, HWZ.out, HF.out])
            go_wp2_with fail
            simp only [jumps]
            exact bodyPost_ret (v := headV ⟨wc, false, [], [], 0, m + wz⟩) (by simp [results, Tryd.results32, go_sem, a0, a1, a2, a3, a4, a5, headV]; try rfl) rfl ⟨by rw [E.out], ((((((HSW2.out.below.setCell (p := ⟨w.heap.size, 0, none⟩) (Nat.le_refl _) _).setCell (p := ⟨w.heap.size, 1, none⟩) (Nat.le_refl _) _).setCell (p := ⟨w.heap.size, 2, none⟩) (Nat.le_refl _) _).setCell (p := ⟨w.heap.size, 3, none⟩) (Nat.le_refl _) _).setCell (p := ⟨w.heap.size, 4, none⟩) (Nat.le_refl _) _).setCell (p := ⟨w.heap.size, 5, none⟩) (Nat.le_refl _) _)⟩
          · have HNWD := Lib.hid (show ¬ scWord s true from fun h => hpos (by rw [HWZ.out]; exact h.2))
            have hz0 : ¬ ((0 : Int) < (wz : Int)) := by omega
            clear hpos
            go_wp2_with fail
            go_step3
            rename_i hKK
            refine hKK _ _ ?_
            refine Code.wp_mono (jumps_mono fun l' a' w' h => ?_) (scan1 s true w hs _ ?_ _ _ ?_)
            · refine ⟨h.1, Nat.lt_of_lt_of_le h.2 ?_⟩
              show 2 * (s.size + 2) + (s.size + 1 - (intOf (.int .i64 (m : Int))).toNat) ≤ 3 * (s.size + 2) + (s.size + 1 - (intOf (.int .i64 (k : Int))).toNat)
              simp [intOf]; omega
            · unfold scBody
              unfold Tryd.f32
              simp only [findLabel]
              rfl
            · refine ⟨_, _, rfl, rfl, rfl, rfl, rfl, rfl, rfl, rfl, Or.inr (Or.inl ⟨rfl, HNWD.out, ?_, ?_, 0, Nat.zero_le _, ?_⟩)⟩
              · rw [HNEG.out]; exact HSW2.out
              · rw [HF.out]; try omega
              · rw [HF.out]; try omega
        | false =>
          have HNEG := Lib.hid (show scNeg s = false by unfold scNeg; rw [← HR.out]; exact c45)
          have HSN := Lib.hid (show signN (scR s) true = 0 by unfold signN; rw [← HR.out, c45, c43]; rfl)
          have HF := Lib.hid (show scF s true = k by unfold scF; rw [HSN.out, HK1.out]; try rfl)
          have hnn : k ≤ s.size := by have := HPL.out; rw [HF.out] at this; omega
          have v45 : ((c.toNat : Int) == 45) = false := by rw [← c45]; exact byte_lit c 45 (by omega)
          have v43 : ((c.toNat : Int) == 43) = false := by rw [← c43]; exact byte_lit c 43 (by omega)
          clear c45 c43
          have HLL := Lib.hid (show (s.extract (k) s.size).data.toList = scR1 s true by rw [extract_bs, bs_list, scR1_drop, HF.out, List.take_of_length_le (by simp)])
          have hel : (s.extract (k) s.size).size ≤ 1125899906842624 := by rw [ByteArray.size_extract]; omega
          have HCW := Lib.hid (fun (W : World) (hT : Tabs W) => wordAt_ok (s.extract (k) s.size) false W hel hT)
          go_wp2_with (refine (at_ok s k _).mono ?_; rintro e w' ⟨rfl, rfl⟩; rw [fb.out])
          have SW := HW.out
          clear HW h0 h1 h2 h3 h4 h5 hf1 HT
          obtain ⟨W1, hW1⟩ : ∃ W1, W1 = wr := ⟨_, rfl⟩
          subst hW1
          have j1 := cell_regrown SW.h1
          have HSW := Lib.hid SW
          have HT1 := Lib.hid (T.below SW.below)
          clear SW
          obtain ⟨ext, hext⟩ : ∃ ext, ext = s.extract (k) s.size := ⟨_, rfl⟩
          rw [← hext] at HCW HLL
          have HEXT := Lib.hid hext.symm
          clear hext
          have cP : ∀ dd os, Calls Tryd.prog 67 #[.string ext, .bool false] (grow (redrawn W1 dd) os) fun e w'' => e = .returned (.tuple #[.int .u8 ((wordS ext.data.toList false).1 : Nat), .int .i64 ((wordS ext.data.toList false).2 : Nat)]) ∧ ∃ r : Regrown, w'' = grow (redrawn W1 r.d) r.os := fun dd os => Calls.regrown_of (HCW.out _ (HT1.out.below (below_regrown W1 dd os)))
          refine wp_region_quiet_below (by kernel_rfl) (by kernel_rfl) ?_
          repeat (quiet_step (first | (rw [HEXT.out]; exact cP _ _) | exact cP _ _))
          refine wpQuiet_nil ?_
          intro _ hw'
          obtain ⟨⟨dq, osq⟩, hw''⟩ := hw'
          subst hw''
          have SW2 := HSW.out.step (below_regrown W1 dq osq)
          clear cP j1
          have HWS := Lib.hid (show wordS ext.data.toList false = wordS (scR1 s true) (scNeg s) by rw [HLL.out, HNEG.out])
          generalize grow (redrawn W1 dq) osq = W2 at *
          obtain ⟨wc, hwc⟩ : ∃ wc, wc = (wordS ext.data.toList false).1 := ⟨_, rfl⟩
          obtain ⟨wz, hwz⟩ : ∃ wz, wz = (wordS ext.data.toList false).2 := ⟨_, rfl⟩
          rw [← hwc, ← hwz]
          have HWC := Lib.hid (show wc = (wordS (scR1 s true) (scNeg s)).1 by rw [hwc, HWS.out])
          have HWZ := Lib.hid (show wz = (wordS (scR1 s true) (scNeg s)).2 by rw [hwz, HWS.out])
          have hwz8 : wz ≤ 8 := by rw [hwz]; exact wordS_le _ _
          clear hwc hwz
          have HSW2 := Lib.hid SW2
          obtain ⟨_, hz2, a0, a1, a2, a3, a4, a5, af, _, _, _, _, _, _, _⟩ := SW2
          have af0 := af 0; have af1 := af 1; have af2 := af 2; have af3 := af 3; have af4 := af 4; have af5 := af 5
          clear af
          by_cases hpos : 0 < wz
          · have E := Lib.hid (show scanS (scL s) true = ⟨wc, false, [], [], 0, k + wz⟩ by
              rw [scan_word s ⟨rfl, by rw [← HWZ.out]; exact hpos⟩, HWC.out, HWZ.out, HF.out])
            go_wp2_with fail
            simp only [jumps]
            exact bodyPost_ret (v := headV ⟨wc, false, [], [], 0, k + wz⟩) (by simp [results, Tryd.results32, go_sem, a0, a1, a2, a3, a4, a5, headV]; try rfl) rfl ⟨by rw [E.out], ((((((HSW2.out.below.setCell (p := ⟨w.heap.size, 0, none⟩) (Nat.le_refl _) _).setCell (p := ⟨w.heap.size, 1, none⟩) (Nat.le_refl _) _).setCell (p := ⟨w.heap.size, 2, none⟩) (Nat.le_refl _) _).setCell (p := ⟨w.heap.size, 3, none⟩) (Nat.le_refl _) _).setCell (p := ⟨w.heap.size, 4, none⟩) (Nat.le_refl _) _).setCell (p := ⟨w.heap.size, 5, none⟩) (Nat.le_refl _) _)⟩
          · have HNWD := Lib.hid (show ¬ scWord s true from fun h => hpos (by rw [HWZ.out]; exact h.2))
            have hz0 : ¬ ((0 : Int) < (wz : Int)) := by omega
            clear hpos
            go_wp2_with fail
            go_step3
            rename_i hKK
            refine hKK _ _ ?_
            refine Code.wp_mono (jumps_mono fun l' a' w' h => ?_) (scan1 s true w hs _ ?_ _ _ ?_)
            · refine ⟨h.1, Nat.lt_of_lt_of_le h.2 ?_⟩
              show 2 * (s.size + 2) + (s.size + 1 - (intOf (.int .i64 (k : Int))).toNat) ≤ 3 * (s.size + 2) + (s.size + 1 - (intOf (.int .i64 (k : Int))).toNat)
              simp [intOf]; omega
            · unfold scBody
              unfold Tryd.f32
              simp only [findLabel]
              rfl
            · refine ⟨_, _, rfl, rfl, rfl, rfl, rfl, rfl, rfl, rfl, Or.inr (Or.inl ⟨rfl, HNWD.out, ?_, ?_, 0, Nat.zero_le _, ?_⟩)⟩
              · rw [HNEG.out]; exact HSW2.out
              · rw [HF.out]; try omega
              · rw [HF.out]; try omega
end Go.Proofs.YtpbbgmfjdachnaaDoor
