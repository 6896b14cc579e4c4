/- scan and General, by the table of words alone. -/
import Derived.Test.YtpbbgmfjdachnaaDoorScaleLaw
import Derived.Test.YtpbbgmfjdachnaaDoorScanOk
namespace Go.Proofs.YtpbbgmfjdachnaaDoor
section
open Go.RowKit
set_option maxRecDepth 100000
/-- The one table that scan reads. -/
structure TabW (w : World) : Prop where
  words : ∃ t fr, w.heap[2]? = some (.cells cWords t fr)
theorem TabW.below {w w' : World} (h : TabW w) (k : Below w.heap.size w w') : TabW w' := by
  obtain ⟨t, fr, hb⟩ := h.words
  exact ⟨t, fr, (k.block 2 (lt_of_block hb)).trans hb⟩
set_option maxRecDepth 100000 in
set_option maxHeartbeats 1600000 in
theorem wordAt_okW (s : ByteArray) (neg : Bool) (w : World) (hs : s.size ≤ 1125899906842624) (T : TabW w) :
    Calls Tryd.prog 67 #[.string s, .bool neg] w (RetBelow w (.tuple #[.int .u8 ((wordS s.data.toList neg).1 : Nat), .int .i64 ((wordS s.data.toList neg).2 : Nat)])) := by
  obtain ⟨t0, fr0, hm⟩ := T.words
  go_enter Tryd.func67, Tryd.ntmps67
  go_wp2_with (refine wpList_load_row rfl _ _ rfl 2 rfl t0 cWords fr0 _ hm Tryd.underlying122 rfl info122 ?_)
  clear hm
  go_loopw [9] (fun i wr => WordRel w s.data.toList i wr) (fun i _ => 3 - (intOf i).toNat)
  case atStart => exact ⟨0, by omega, rfl, fun j hj => by omega, Below.refl _ _⟩
  case round =>
    obtain ⟨k, hk, rfl, hlo, hb⟩ := hrel
    have HLO := Lib.hid hlo
    have HB := Lib.hid hb
    clear hlo hb
    by_cases hlt : k < 3
    · have hx := index_words k hlt
      cases hbg : begB s.data.toList (wordN k) with
      | true =>
        have R := Lib.hid (wordS_hit hlt HLO.out hbg neg)
        have HG := Lib.hid hbg
        have HW := Lib.hid (bs_list (wordN k))
        clear hbg
        by_cases h4 : wordC k = 4
        · have t4 : (wordC k == 4) = true := by rw [beq_iff_eq]; exact h4
          have H4 := Lib.hid h4
          clear h4
          cases neg with
          | true =>
            go_wp2_with (refine (begins_ok s _ _ (Nat.le_trans hs (by decide))).mono ?_; rintro e w' ⟨rfl, n, rfl⟩; rw [HW.out, HG.out])
            go_quiet (fail)
            go_wp2_with fail
            go_ret2
            refine RetBelow.mk (wpair_eq ?_ ?_) ?_
            · rw [R.out]; rw [if_pos ⟨H4.out, by trivial⟩]; rfl
            · rw [R.out]
            · exact bdrew (bdrew (HB.out.alloc HB.out.size _) _) _
          | false =>
            go_wp2_with (refine (begins_ok s _ _ (Nat.le_trans hs (by decide))).mono ?_; rintro e w' ⟨rfl, n, rfl⟩; rw [HW.out, HG.out])
            go_quiet (fail)
            go_wp2_with fail
            go_ret2
            refine RetBelow.mk (wpair_eq ?_ ?_) ?_
            · rw [R.out]; rw [if_neg (by simp)]; have := H4.out; omega
            · rw [R.out]
            · exact bdrew (bdrew (HB.out.alloc HB.out.size _) _) _
        · have t4 : (wordC k == 4) = false := by rw [beq_eq_false_iff_ne]; exact h4
          have H4 := Lib.hid h4
          have HP := Lib.hid (show 0 ≤ wordC k by obtain rfl | rfl | rfl : k = 0 ∨ k = 1 ∨ k = 2 := by omega
                                                  all_goals decide)
          clear h4
          go_wp2_with (refine (begins_ok s _ _ (Nat.le_trans hs (by decide))).mono ?_; rintro e w' ⟨rfl, n, rfl⟩; rw [HW.out, HG.out])
          go_quiet (fail)
          go_wp2_with fail
          go_ret2
          refine RetBelow.mk (wpair_eq ?_ ?_) ?_
          · rw [R.out]; rw [if_neg (by simp [H4.out])]; have := HP.out; omega
          · rw [R.out]
          · exact bdrew (bdrew (HB.out.alloc HB.out.size _) _) _
      | false =>
        have HG := Lib.hid hbg
        have HW := Lib.hid (bs_list (wordN k))
        clear hbg
        go_wp2_with (refine (begins_ok s _ _ (Nat.le_trans hs (by decide))).mono ?_; rintro e w' ⟨rfl, n, rfl⟩; rw [HW.out, HG.out])
        go_roundw
        case rel => exact ⟨k + 1, by omega, by go_num, fun j hj => by
            by_cases e : j = k
            · subst e; exact HG.out
            · exact HLO.out j (by omega), bdrew (HB.out.alloc HB.out.size _) _⟩
        case measure => simp [intOf]; omega
    · have hk3 : k = 3 := by omega
      subst hk3
      have R := Lib.hid (wordS_miss HLO.out neg)
      go_wp2_with fail
      go_ret2
      refine RetBelow.mk (wpair_eq ?_ ?_) HB.out
      · rw [R.out]; rfl
      · rw [R.out]; rfl

end

section
open Go.RowKit Go.Sort
set_option maxRecDepth 100000
set_option maxRecDepth 100000 in
set_option maxHeartbeats 1600000 in
theorem scan0W (s : ByteArray) (g : Bool) (w : World) (hs : s.size ≤ 1125899906842624) (T : TabW w) (X : Code) (hX : findLabel scBody 0 = some (Code.seq .skip X)) (a : Act) (wr : World) (hJ : ScJ s g w 0 a wr) :
    X.wp Tryd.prog (jumps (fun l' a' w' => ScJ s g w l' a' w' ∧ ScM s l' a' w' < ScM s 0 a wr) (ScQ s g w)) a wr := by
  suffices h : ∃ X, findLabel scBody 0 = some (Code.seq .skip X) ∧ X.wp Tryd.prog (jumps (fun l' a' w' => ScJ s g w l' a' w' ∧ ScM s l' a' w' < ScM s 0 a wr) (ScQ s g w)) a wr by
    obtain ⟨X', e', h'⟩ := h
    rw [e'] at hX
    cases hX
    exact h'
  unfold scBody
  unfold Tryd.f32
  simp only [findLabel]
  refine ⟨_, rfl, ?_⟩
  obtain ⟨i, f, e1, e2, e3, e4, e5, e6, e7, e8, (⟨_, hw, hf, k, hk, hi⟩ | ⟨h, _⟩ | ⟨h, _⟩ | ⟨h, _⟩)⟩ := hJ
  rotate_left
  · cases h
  · cases h
  · cases h
  obtain ⟨t, rfl⟩ := frame105 a e1 e2 e3 e4 e5 e6 e7 e8
  clear e1 e2 e3 e4 e5 e6 e7 e8
  have hpl := pos_le s g
  have hsl : scB s ≤ s.size := by unfold scF at hpl; omega
  have hk' : k ≤ spanN isBlank (scL s) := hk
  obtain rfl : i = (k : Int) := by omega
  subst hf
  have hns : k ≤ s.size := by omega
  have HW := Lib.hid hw
  have HT := Lib.hid (T.below hw.below)
  have HPL := Lib.hid hpl
  obtain ⟨_, hz, _, _, _, _, _, _, _, h0, h1, h2, h3, h4, h5, hfz⟩ := hw
  have hf1 := hfz 1
  clear hfz hi hk hpl
  obtain ⟨c, hc⟩ : ∃ c, c = atB s.data.toList k := ⟨_, rfl⟩
  have fb := Lib.hid hc.symm
  have HC := Lib.hid (show c = atB (scL s) k from hc)
  clear hc
  cases hd : isBlank c with
  | true =>
    have HK1 := Lib.hid (spanN_on hk' (by decide) (by rw [← HC.out]; exact hd))
    have hlt : k < s.size := by
      rcases Nat.lt_or_ge k s.size with h | h
      · exact h
      · exfalso
        have := fb.out
        rw [atB_end s k (by omega)] at this
        rw [← this] at hd
        exact absurd hd (by decide)
    have ht : (((c.toNat : Int) == 32) = true) ∨ ((((c.toNat : Int) == 32) = false) ∧ (((c.toNat : Int) == 9) = true)) := by
      unfold isBlank at hd
      rcases (Bool.or_eq_true _ _).mp hd with h | h
      · left; rw [beq_iff_eq] at h; subst h; rfl
      · right; rw [beq_iff_eq] at h; subst h; exact ⟨rfl, rfl⟩
    clear hd hk'
    rcases ht with t1 | ⟨t1, t2⟩
    all_goals
      go_wp2_with (refine (at_ok s k _).mono ?_; rintro e w' ⟨rfl, rfl⟩; rw [fb.out])
      go_step3
      refine ⟨⟨_, _, rfl, rfl, rfl, rfl, rfl, rfl, rfl, rfl, Or.inl ⟨rfl, HW.out, rfl, k + 1, HK1.out, by omega⟩⟩, ?_⟩
      show 3 * (s.size + 2) + (s.size + 1 - (intOf (.int .i64 ((k : Int) + 1))).toNat) < 3 * (s.size + 2) + (s.size + 1 - (intOf (.int .i64 (k : Int))).toNat)
      simp [intOf]; omega
  | false =>
    have HK1 := Lib.hid (show scB s = k from spanN_end hk' (by rw [← HC.out]; exact hd))
    have u32 : ((c.toNat : Int) == 32) = false := by
      unfold isBlank at hd; simp only [Bool.or_eq_false_iff] at hd
      rw [beq_eq_false_iff_ne]; intro h; exact (beq_eq_false_iff_ne.1 hd.1) (UInt8.toNat_inj.1 (by show _ = (32 : UInt8).toNat; simp; omega))
    have u9 : ((c.toNat : Int) == 9) = false := by
      unfold isBlank at hd; simp only [Bool.or_eq_false_iff] at hd
      rw [beq_eq_false_iff_ne]; intro h; exact (beq_eq_false_iff_ne.1 hd.2) (UInt8.toNat_inj.1 (by show _ = (9 : UInt8).toNat; simp; omega))
    have HR := Lib.hid (show c = atB (scR s) 0 by rw [HC.out]; unfold scR; rw [drop_atB, HK1.out]; rfl)
    clear hd hk'
    have byte_lit : ∀ (x : UInt8) (n : Nat), n < 256 → ((x.toNat : Int) == (n : Int)) = (x == UInt8.ofNat n) := fun x n hn => by
      rw [Bool.eq_iff_iff, beq_iff_eq, beq_iff_eq, ← UInt8.toNat_inj]
      have : (UInt8.ofNat n).toNat = n := by simp; omega
      rw [this]; omega
    cases g with
    | false =>
      cases c45 : (c == 45) with
      | true =>
        have HNEG := Lib.hid (show scNeg s = true by unfold scNeg; rw [← HR.out]; exact c45)
        have HSN := Lib.hid (show signN (scR s) false = 1 by unfold signN; rw [← HR.out, c45]; rfl)
        have HF := Lib.hid (show scF s false = k + 1 by unfold scF; rw [HSN.out, HK1.out]; try rfl)
        have hnn : k + 1 ≤ s.size := by have := HPL.out; rw [HF.out] at this; omega
        have v45 : ((c.toNat : Int) == 45) = true := by rw [← c45]; exact byte_lit c 45 (by omega)
        clear c45
        have HNWD := Lib.hid (show ¬ scWord s false from fun h => by cases h.1)
        go_wp2_with (refine (at_ok s k _).mono ?_; rintro e w' ⟨rfl, rfl⟩; rw [fb.out])
        go_step3
        rename_i hKK
        refine hKK _ _ ?_
        refine Code.wp_mono (jumps_mono fun l' a' w' h => ?_) (scan1 s false w hs _ ?_ _ _ ?_)
        · refine ⟨h.1, Nat.lt_of_lt_of_le h.2 ?_⟩
          show 2 * (s.size + 2) + (s.size + 1 - (intOf (.int .i64 ((k : Int) + 1))).toNat) ≤ 3 * (s.size + 2) + (s.size + 1 - (intOf (.int .i64 (k : Int))).toNat)
          simp [intOf]; omega
        · unfold scBody
          unfold Tryd.f32
          simp only [findLabel]
          rfl
        · refine ⟨_, _, rfl, rfl, rfl, rfl, rfl, rfl, rfl, rfl, Or.inr (Or.inl ⟨rfl, HNWD.out, ?_, ?_, 0, Nat.zero_le _, ?_⟩)⟩
          · rw [HNEG.out]; exact HW.out.neg true
          · rw [HF.out]; try omega
          · rw [HF.out]; try omega
      | false =>
        cases c43 : (c == 43) with
        | true =>
          have HNEG := Lib.hid (show scNeg s = false by unfold scNeg; rw [← HR.out]; exact c45)
          have HSN := Lib.hid (show signN (scR s) false = 0 by unfold signN; rw [← HR.out, c45, c43]; rfl)
          have HF := Lib.hid (show scF s false = k by unfold scF; rw [HSN.out, HK1.out]; try rfl)
          have hnn : k ≤ s.size := by have := HPL.out; rw [HF.out] at this; omega
          have v45 : ((c.toNat : Int) == 45) = false := by rw [← c45]; exact byte_lit c 45 (by omega)
          have v43 : ((c.toNat : Int) == 43) = true := by rw [← c43]; exact byte_lit c 43 (by omega)
          clear c45 c43
          have HNWD := Lib.hid (show ¬ scWord s false from fun h => by cases h.1)
          go_wp2_with (refine (at_ok s k _).mono ?_; rintro e w' ⟨rfl, rfl⟩; rw [fb.out])
          go_step3
          rename_i hKK
          refine hKK _ _ ?_
          refine Code.wp_mono (jumps_mono fun l' a' w' h => ?_) (scan1 s false w hs _ ?_ _ _ ?_)
          · refine ⟨h.1, Nat.lt_of_lt_of_le h.2 ?_⟩
            show 2 * (s.size + 2) + (s.size + 1 - (intOf (.int .i64 (k : Int))).toNat) ≤ 3 * (s.size + 2) + (s.size + 1 - (intOf (.int .i64 (k : Int))).toNat)
            simp [intOf]; omega
          · unfold scBody
            unfold Tryd.f32
            simp only [findLabel]
            rfl
          · refine ⟨_, _, rfl, rfl, rfl, rfl, rfl, rfl, rfl, rfl, Or.inr (Or.inl ⟨rfl, HNWD.out, ?_, ?_, 0, Nat.zero_le _, ?_⟩)⟩
            · rw [HNEG.out]; exact HW.out
            · rw [HF.out]; try omega
            · rw [HF.out]; try omega
        | false =>
          have HNEG := Lib.hid (show scNeg s = false by unfold scNeg; rw [← HR.out]; exact c45)
          have HSN := Lib.hid (show signN (scR s) false = 0 by unfold signN; rw [← HR.out, c45, c43]; rfl)
          have HF := Lib.hid (show scF s false = k by unfold scF; rw [HSN.out, HK1.out]; try rfl)
          have hnn : k ≤ s.size := by have := HPL.out; rw [HF.out] at this; omega
          have v45 : ((c.toNat : Int) == 45) = false := by rw [← c45]; exact byte_lit c 45 (by omega)
          have v43 : ((c.toNat : Int) == 43) = false := by rw [← c43]; exact byte_lit c 43 (by omega)
          clear c45 c43
          have HNWD := Lib.hid (show ¬ scWord s false from fun h => by cases h.1)
          go_wp2_with (refine (at_ok s k _).mono ?_; rintro e w' ⟨rfl, rfl⟩; rw [fb.out])
          go_step3
          rename_i hKK
          refine hKK _ _ ?_
          refine Code.wp_mono (jumps_mono fun l' a' w' h => ?_) (scan1 s false w hs _ ?_ _ _ ?_)
          · refine ⟨h.1, Nat.lt_of_lt_of_le h.2 ?_⟩
            show 2 * (s.size + 2) + (s.size + 1 - (intOf (.int .i64 (k : Int))).toNat) ≤ 3 * (s.size + 2) + (s.size + 1 - (intOf (.int .i64 (k : Int))).toNat)
            simp [intOf]; omega
          · unfold scBody
            unfold Tryd.f32
            simp only [findLabel]
            rfl
          · refine ⟨_, _, rfl, rfl, rfl, rfl, rfl, rfl, rfl, rfl, Or.inr (Or.inl ⟨rfl, HNWD.out, ?_, ?_, 0, Nat.zero_le _, ?_⟩)⟩
            · rw [HNEG.out]; exact HW.out
            · rw [HF.out]; try omega
            · rw [HF.out]; try omega
    | true =>
      cases c45 : (c == 45) with
      | true =>
        have HNEG := Lib.hid (show scNeg s = true by unfold scNeg; rw [← HR.out]; exact c45)
        have HSN := Lib.hid (show signN (scR s) true = 1 by unfold signN; rw [← HR.out, c45]; rfl)
        have HF := Lib.hid (show scF s true = k + 1 by unfold scF; rw [HSN.out, HK1.out]; try rfl)
        have hnn : k + 1 ≤ s.size := by have := HPL.out; rw [HF.out] at this; omega
        have v45 : ((c.toNat : Int) == 45) = true := by rw [← c45]; exact byte_lit c 45 (by omega)
        clear c45
        have HLL := Lib.hid (show (s.extract (k + 1) s.size).data.toList = scR1 s true by rw [extract_bs, bs_list, scR1_drop, HF.out, List.take_of_length_le (by simp)])
        have hel : (s.extract (k + 1) s.size).size ≤ 1125899906842624 := by rw [ByteArray.size_extract]; omega
        have HCW := Lib.hid (fun (W : World) (hT : TabW W) => wordAt_okW (s.extract (k + 1) s.size) true W hel hT)
        go_wp2_with (refine (at_ok s k _).mono ?_; rintro e w' ⟨rfl, rfl⟩; rw [fb.out])
        obtain ⟨m, hm⟩ : ∃ m : Nat, m = k + 1 := ⟨_, rfl⟩
        rw [← hm] at HF HLL hel HCW hnn
        rw [show ((k : Int) + 1) = (m : Int) by omega]
        have hmk : k ≤ m := by omega
        clear hm
        have SW := HW.out.neg true
        clear HW h0 h1 h2 h3 h4 h5 hf1 HT
        generalize wr.setCell ⟨w.heap.size + 1, 1, none⟩ (.bool true) = W1 at *
        have j1 := cell_regrown SW.h1
        have HSW := Lib.hid SW
        have HT1 := Lib.hid (T.below SW.below)
        clear SW
        obtain ⟨ext, hext⟩ : ∃ ext, ext = s.extract m s.size := ⟨_, rfl⟩
        rw [← hext] at HCW HLL
        have HEXT := Lib.hid hext.symm
        clear hext
        have cP : ∀ dd os, Calls Tryd.prog 67 #[.string ext, .bool true] (grow (redrawn W1 dd) os) fun e w'' => e = .returned (.tuple #[.int .u8 ((wordS ext.data.toList true).1 : Nat), .int .i64 ((wordS ext.data.toList true).2 : Nat)]) ∧ ∃ r : Regrown, w'' = grow (redrawn W1 r.d) r.os := fun dd os => Calls.regrown_of (HCW.out _ (HT1.out.below (below_regrown W1 dd os)))
        refine wp_region_quiet_below (by kernel_rfl) (by kernel_rfl) ?_
        repeat (quiet_step (first | (rw [HEXT.out]; exact cP _ _) | exact cP _ _))
        refine wpQuiet_nil ?_
        intro _ hw'
        obtain ⟨⟨dq, osq⟩, hw''⟩ := hw'
        subst hw''
        have SW2 := HSW.out.step (below_regrown W1 dq osq)
        clear cP j1
        have HWS := Lib.hid (show wordS ext.data.toList true = wordS (scR1 s true) (scNeg s) by rw [HLL.out, HNEG.out])
        generalize grow (redrawn W1 dq) osq = W2 at *
        obtain ⟨wc, hwc⟩ : ∃ wc, wc = (wordS ext.data.toList true).1 := ⟨_, rfl⟩
        obtain ⟨wz, hwz⟩ : ∃ wz, wz = (wordS ext.data.toList true).2 := ⟨_, rfl⟩
        rw [← hwc, ← hwz]
        have HWC := Lib.hid (show wc = (wordS (scR1 s true) (scNeg s)).1 by rw [hwc, HWS.out])
        have HWZ := Lib.hid (show wz = (wordS (scR1 s true) (scNeg s)).2 by rw [hwz, HWS.out])
        have hwz8 : wz ≤ 8 := by rw [hwz]; exact wordS_le _ _
        clear hwc hwz
        have HSW2 := Lib.hid SW2
        obtain ⟨_, hz2, a0, a1, a2, a3, a4, a5, af, _, _, _, _, _, _, _⟩ := SW2
        have af0 := af 0; have af1 := af 1; have af2 := af 2; have af3 := af 3; have af4 := af 4; have af5 := af 5
        clear af
        by_cases hpos : 0 < wz
        · have E := Lib.hid (show scanS (scL s) true = ⟨wc, false, [], [], 0, m + wz⟩ by
            rw [scan_word s ⟨rfl, by rw [← HWZ.out]; exact hpos⟩, HWC.out, HWZ.out, HF.out])
          go_wp2_with fail
          simp only [jumps]
          exact bodyPost_ret (v := headV ⟨wc, false, [], [], 0, m + wz⟩) (by simp [results, Tryd.results32, go_sem, a0, a1, a2, a3, a4, a5, headV]; try rfl) rfl ⟨by rw [E.out], ((((((HSW2.out.below.setCell (p := ⟨w.heap.size, 0, none⟩) (Nat.le_refl _) _).setCell (p := ⟨w.heap.size, 1, none⟩) (Nat.le_refl _) _).setCell (p := ⟨w.heap.size, 2, none⟩) (Nat.le_refl _) _).setCell (p := ⟨w.heap.size, 3, none⟩) (Nat.le_refl _) _).setCell (p := ⟨w.heap.size, 4, none⟩) (Nat.le_refl _) _).setCell (p := ⟨w.heap.size, 5, none⟩) (Nat.le_refl _) _)⟩
        · have HNWD := Lib.hid (show ¬ scWord s true from fun h => hpos (by rw [HWZ.out]; exact h.2))
          have hz0 : ¬ ((0 : Int) < (wz : Int)) := by omega
          clear hpos
          go_wp2_with fail
          go_step3
          rename_i hKK
          refine hKK _ _ ?_
          refine Code.wp_mono (jumps_mono fun l' a' w' h => ?_) (scan1 s true w hs _ ?_ _ _ ?_)
          · refine ⟨h.1, Nat.lt_of_lt_of_le h.2 ?_⟩
            show 2 * (s.size + 2) + (s.size + 1 - (intOf (.int .i64 (m : Int))).toNat) ≤ 3 * (s.size + 2) + (s.size + 1 - (intOf (.int .i64 (k : Int))).toNat)
            simp [intOf]; omega
          · unfold scBody
            unfold Tryd.f32
            simp only [findLabel]
            rfl
          · refine ⟨_, _, rfl, rfl, rfl, rfl, rfl, rfl, rfl, rfl, Or.inr (Or.inl ⟨rfl, HNWD.out, ?_, ?_, 0, Nat.zero_le _, ?_⟩)⟩
            · rw [HNEG.out]; exact HSW2.out
            · rw [HF.out]; try omega
            · rw [HF.out]; try omega
      | false =>
        cases c43 : (c == 43) with
        | true =>
          have HNEG := Lib.hid (show scNeg s = false by unfold scNeg; rw [← HR.out]; exact c45)
          have HSN := Lib.hid (show signN (scR s) true = 1 by unfold signN; rw [← HR.out, c45, c43]; rfl)
          have HF := Lib.hid (show scF s true = k + 1 by unfold scF; rw [HSN.out, HK1.out]; try rfl)
          have hnn : k + 1 ≤ s.size := by have := HPL.out; rw [HF.out] at this; omega
          have v45 : ((c.toNat : Int) == 45) = false := by rw [← c45]; exact byte_lit c 45 (by omega)
          have v43 : ((c.toNat : Int) == 43) = true := by rw [← c43]; exact byte_lit c 43 (by omega)
          clear c45 c43
          have HLL := Lib.hid (show (s.extract (k + 1) s.size).data.toList = scR1 s true by rw [extract_bs, bs_list, scR1_drop, HF.out, List.take_of_length_le (by simp)])
          have hel : (s.extract (k + 1) s.size).size ≤ 1125899906842624 := by rw [ByteArray.size_extract]; omega
          have HCW := Lib.hid (fun (W : World) (hT : TabW W) => wordAt_okW (s.extract (k + 1) s.size) false W hel hT)
          go_wp2_with (refine (at_ok s k _).mono ?_; rintro e w' ⟨rfl, rfl⟩; rw [fb.out])
          obtain ⟨m, hm⟩ : ∃ m : Nat, m = k + 1 := ⟨_, rfl⟩
          rw [← hm] at HF HLL hel HCW hnn
          rw [show ((k : Int) + 1) = (m : Int) by omega]
          have hmk : k ≤ m := by omega
          clear hm
          have SW := HW.out
          clear HW h0 h1 h2 h3 h4 h5 hf1 HT
          obtain ⟨W1, hW1⟩ : ∃ W1, W1 = wr := ⟨_, rfl⟩
          subst hW1
          have j1 := cell_regrown SW.h1
          have HSW := Lib.hid SW
          have HT1 := Lib.hid (T.below SW.below)
          clear SW
          obtain ⟨ext, hext⟩ : ∃ ext, ext = s.extract m s.size := ⟨_, rfl⟩
          rw [← hext] at HCW HLL
          have HEXT := Lib.hid hext.symm
          clear hext
          have cP : ∀ dd os, Calls Tryd.prog 67 #[.string ext, .bool false] (grow (redrawn W1 dd) os) fun e w'' => e = .returned (.tuple #[.int .u8 ((wordS ext.data.toList false).1 : Nat), .int .i64 ((wordS ext.data.toList false).2 : Nat)]) ∧ ∃ r : Regrown, w'' = grow (redrawn W1 r.d) r.os := fun dd os => Calls.regrown_of (HCW.out _ (HT1.out.below (below_regrown W1 dd os)))
          refine wp_region_quiet_below (by kernel_rfl) (by kernel_rfl) ?_
          repeat (quiet_step (first | (rw [HEXT.out]; exact cP _ _) | exact cP _ _))
          refine wpQuiet_nil ?_
          intro _ hw'
          obtain ⟨⟨dq, osq⟩, hw''⟩ := hw'
          subst hw''
          have SW2 := HSW.out.step (below_regrown W1 dq osq)
          clear cP j1
          have HWS := Lib.hid (show wordS ext.data.toList false = wordS (scR1 s true) (scNeg s) by rw [HLL.out, HNEG.out])
          generalize grow (redrawn W1 dq) osq = W2 at *
          obtain ⟨wc, hwc⟩ : ∃ wc, wc = (wordS ext.data.toList false).1 := ⟨_, rfl⟩
          obtain ⟨wz, hwz⟩ : ∃ wz, wz = (wordS ext.data.toList false).2 := ⟨_, rfl⟩
          rw [← hwc, ← hwz]
          have HWC := Lib.hid (show wc = (wordS (scR1 s true) (scNeg s)).1 by rw [hwc, HWS.out])
          have HWZ := Lib.hid (show wz = (wordS (scR1 s true) (scNeg s)).2 by rw [hwz, HWS.out])
          have hwz8 : wz ≤ 8 := by rw [hwz]; exact wordS_le _ _
          clear hwc hwz
          have HSW2 := Lib.hid SW2
          obtain ⟨_, hz2, a0, a1, a2, a3, a4, a5, af, _, _, _, _, _, _, _⟩ := SW2
          have af0 := af 0; have af1 := af 1; have af2 := af 2; have af3 := af 3; have af4 := af 4; have af5 := af 5
          clear af
          by_cases hpos : 0 < wz
          · have E := Lib.hid (show scanS (scL s) true = ⟨wc, false, [], [], 0, m + wz⟩ by
              rw [scan_word s ⟨rfl, by rw [← HWZ.out]; exact hpos⟩, HWC.out, HWZ.out, HF.out])
            go_wp2_with fail
            simp only [jumps]
            exact bodyPost_ret (v := headV ⟨wc, false, [], [], 0, m + wz⟩) (by simp [results, Tryd.results32, go_sem, a0, a1, a2, a3, a4, a5, headV]; try rfl) rfl ⟨by rw [E.out], ((((((HSW2.out.below.setCell (p := ⟨w.heap.size, 0, none⟩) (Nat.le_refl _) _).setCell (p := ⟨w.heap.size, 1, none⟩) (Nat.le_refl _) _).setCell (p := ⟨w.heap.size, 2, none⟩) (Nat.le_refl _) _).setCell (p := ⟨w.heap.size, 3, none⟩) (Nat.le_refl _) _).setCell (p := ⟨w.heap.size, 4, none⟩) (Nat.le_refl _) _).setCell (p := ⟨w.heap.size, 5, none⟩) (Nat.le_refl _) _)⟩
          · have HNWD := Lib.hid (show ¬ scWord s true from fun h => hpos (by rw [HWZ.out]; exact h.2))
            have hz0 : ¬ ((0 : Int) < (wz : Int)) := by omega
            clear hpos
            go_wp2_with fail
            go_step3
            rename_i hKK
            refine hKK _ _ ?_
            refine Code.wp_mono (jumps_mono fun l' a' w' h => ?_) (scan1 s true w hs _ ?_ _ _ ?_)
            · refine ⟨h.1, Nat.lt_of_lt_of_le h.2 ?_⟩
              show 2 * (s.size + 2) + (s.size + 1 - (intOf (.int .i64 (m : Int))).toNat) ≤ 3 * (s.size + 2) + (s.size + 1 - (intOf (.int .i64 (k : Int))).toNat)
              simp [intOf]; omega
            · unfold scBody
              unfold Tryd.f32
              simp only [findLabel]
              rfl
            · refine ⟨_, _, rfl, rfl, rfl, rfl, rfl, rfl, rfl, rfl, Or.inr (Or.inl ⟨rfl, HNWD.out, ?_, ?_, 0, Nat.zero_le _, ?_⟩)⟩
              · rw [HNEG.out]; exact HSW2.out
              · rw [HF.out]; try omega
              · rw [HF.out]; try omega
        | false =>
          have HNEG := Lib.hid (show scNeg s = false by unfold scNeg; rw [← HR.out]; exact c45)
          have HSN := Lib.hid (show signN (scR s) true = 0 by unfold signN; rw [← HR.out, c45, c43]; rfl)
          have HF := Lib.hid (show scF s true = k by unfold scF; rw [HSN.out, HK1.out]; try rfl)
          have hnn : k ≤ s.size := by have := HPL.out; rw [HF.out] at this; omega
          have v45 : ((c.toNat : Int) == 45) = false := by rw [← c45]; exact byte_lit c 45 (by omega)
          have v43 : ((c.toNat : Int) == 43) = false := by rw [← c43]; exact byte_lit c 43 (by omega)
          clear c45 c43
          have HLL := Lib.hid (show (s.extract (k) s.size).data.toList = scR1 s true by rw [extract_bs, bs_list, scR1_drop, HF.out, List.take_of_length_le (by simp)])
          have hel : (s.extract (k) s.size).size ≤ 1125899906842624 := by rw [ByteArray.size_extract]; omega
          have HCW := Lib.hid (fun (W : World) (hT : TabW W) => wordAt_okW (s.extract (k) s.size) false W hel hT)
          go_wp2_with (refine (at_ok s k _).mono ?_; rintro e w' ⟨rfl, rfl⟩; rw [fb.out])
          have SW := HW.out
          clear HW h0 h1 h2 h3 h4 h5 hf1 HT
          obtain ⟨W1, hW1⟩ : ∃ W1, W1 = wr := ⟨_, rfl⟩
          subst hW1
          have j1 := cell_regrown SW.h1
          have HSW := Lib.hid SW
          have HT1 := Lib.hid (T.below SW.below)
          clear SW
          obtain ⟨ext, hext⟩ : ∃ ext, ext = s.extract (k) s.size := ⟨_, rfl⟩
          rw [← hext] at HCW HLL
          have HEXT := Lib.hid hext.symm
          clear hext
          have cP : ∀ dd os, Calls Tryd.prog 67 #[.string ext, .bool false] (grow (redrawn W1 dd) os) fun e w'' => e = .returned (.tuple #[.int .u8 ((wordS ext.data.toList false).1 : Nat), .int .i64 ((wordS ext.data.toList false).2 : Nat)]) ∧ ∃ r : Regrown, w'' = grow (redrawn W1 r.d) r.os := fun dd os => Calls.regrown_of (HCW.out _ (HT1.out.below (below_regrown W1 dd os)))
          refine wp_region_quiet_below (by kernel_rfl) (by kernel_rfl) ?_
          repeat (quiet_step (first | (rw [HEXT.out]; exact cP _ _) | exact cP _ _))
          refine wpQuiet_nil ?_
          intro _ hw'
          obtain ⟨⟨dq, osq⟩, hw''⟩ := hw'
          subst hw''
          have SW2 := HSW.out.step (below_regrown W1 dq osq)
          clear cP j1
          have HWS := Lib.hid (show wordS ext.data.toList false = wordS (scR1 s true) (scNeg s) by rw [HLL.out, HNEG.out])
          generalize grow (redrawn W1 dq) osq = W2 at *
          obtain ⟨wc, hwc⟩ : ∃ wc, wc = (wordS ext.data.toList false).1 := ⟨_, rfl⟩
          obtain ⟨wz, hwz⟩ : ∃ wz, wz = (wordS ext.data.toList false).2 := ⟨_, rfl⟩
          rw [← hwc, ← hwz]
          have HWC := Lib.hid (show wc = (wordS (scR1 s true) (scNeg s)).1 by rw [hwc, HWS.out])
          have HWZ := Lib.hid (show wz = (wordS (scR1 s true) (scNeg s)).2 by rw [hwz, HWS.out])
          have hwz8 : wz ≤ 8 := by rw [hwz]; exact wordS_le _ _
          clear hwc hwz
          have HSW2 := Lib.hid SW2
          obtain ⟨_, hz2, a0, a1, a2, a3, a4, a5, af, _, _, _, _, _, _, _⟩ := SW2
          have af0 := af 0; have af1 := af 1; have af2 := af 2; have af3 := af 3; have af4 := af 4; have af5 := af 5
          clear af
          by_cases hpos : 0 < wz
          · have E := Lib.hid (show scanS (scL s) true = ⟨wc, false, [], [], 0, k + wz⟩ by
              rw [scan_word s ⟨rfl, by rw [← HWZ.out]; exact hpos⟩, HWC.out, HWZ.out, HF.out])
            go_wp2_with fail
            simp only [jumps]
            exact bodyPost_ret (v := headV ⟨wc, false, [], [], 0, k + wz⟩) (by simp [results, Tryd.results32, go_sem, a0, a1, a2, a3, a4, a5, headV]; try rfl) rfl ⟨by rw [E.out], ((((((HSW2.out.below.setCell (p := ⟨w.heap.size, 0, none⟩) (Nat.le_refl _) _).setCell (p := ⟨w.heap.size, 1, none⟩) (Nat.le_refl _) _).setCell (p := ⟨w.heap.size, 2, none⟩) (Nat.le_refl _) _).setCell (p := ⟨w.heap.size, 3, none⟩) (Nat.le_refl _) _).setCell (p := ⟨w.heap.size, 4, none⟩) (Nat.le_refl _) _).setCell (p := ⟨w.heap.size, 5, none⟩) (Nat.le_refl _) _)⟩
          · have HNWD := Lib.hid (show ¬ scWord s true from fun h => hpos (by rw [HWZ.out]; exact h.2))
            have hz0 : ¬ ((0 : Int) < (wz : Int)) := by omega
            clear hpos
            go_wp2_with fail
            go_step3
            rename_i hKK
            refine hKK _ _ ?_
            refine Code.wp_mono (jumps_mono fun l' a' w' h => ?_) (scan1 s true w hs _ ?_ _ _ ?_)
            · refine ⟨h.1, Nat.lt_of_lt_of_le h.2 ?_⟩
              show 2 * (s.size + 2) + (s.size + 1 - (intOf (.int .i64 (k : Int))).toNat) ≤ 3 * (s.size + 2) + (s.size + 1 - (intOf (.int .i64 (k : Int))).toNat)
              simp [intOf]; omega
            · unfold scBody
              unfold Tryd.f32
              simp only [findLabel]
              rfl
            · refine ⟨_, _, rfl, rfl, rfl, rfl, rfl, rfl, rfl, rfl, Or.inr (Or.inl ⟨rfl, HNWD.out, ?_, ?_, 0, Nat.zero_le _, ?_⟩)⟩
              · rw [HNEG.out]; exact HSW2.out
              · rw [HF.out]; try omega
              · rw [HF.out]; try omega

end

section
open Go.RowKit
set_option maxRecDepth 100000
set_option maxRecDepth 100000 in
set_option maxHeartbeats 1600000 in
theorem scan_okW (s : ByteArray) (g : Bool) (w : World) (hs : s.size ≤ 1125899906842624) (T : TabW w) :
    Calls Tryd.prog 32 #[.string s, .bool g] w (RetBelow w (headV (scanS s.data.toList g))) := by
  go_enter Tryd.func32, Tryd.ntmps32
  go_wp2_with fail
  refine wp_scope_labels (ScJ s g w) (ScM s) ?_ ?_
  · go_wp2_with fail
    go_step3
    rename_i hKK
    refine hKK _ _ ?_
    refine Code.wp_mono (jumps_mono fun l' a' w' h => h.1) (scan0W s g w hs T _ ?_ _ _ ?_)
    · unfold scBody
      unfold Tryd.f32
      simp only [findLabel]
      rfl
    · refine ⟨0, 0, rfl, rfl, rfl, rfl, rfl, rfl, rfl, rfl, Or.inl ⟨rfl, ?_, rfl, 0, Nat.zero_le _, rfl⟩⟩
      refine ⟨(((Below.refl _ _).alloc (Nat.le_refl _) _).alloc (by simp) _), by simp, ?_, ?_, ?_, ?_, ?_, ?_, ?_, ?_, ?_, ?_, ?_, ?_, ?_, ?_⟩
      all_goals first | (intro o; simp) | simp
  · intro l a w' hJ
    have pass : ∀ X, findLabel scBody l = some (Code.seq .skip X) → (Code.seq .skip X).wp Tryd.prog (jumps (fun l' a' w'' => ScJ s g w l' a' w'' ∧ ScM s l' a' w'' < ScM s l a w') (ScQ s g w)) a w' := fun X hX => by
      refine wp_seq (wp_skip ?_)
      show X.wp Tryd.prog _ a w'
      have hJ2 := hJ
      obtain ⟨_, _, _, _, _, _, _, _, _, _, (⟨rfl, _⟩ | ⟨rfl, _⟩ | ⟨rfl, _⟩ | ⟨rfl, _⟩)⟩ := hJ2
      · exact scan0W s g w hs T X hX a w' hJ
      · exact scan1 s g w hs X hX a w' hJ
      · exact scan3 s g w hs X hX a w' hJ
      · exact scan2 s g w hs X hX a w' hJ
    have ex : ∃ X, findLabel scBody l = some (Code.seq .skip X) := by
      obtain ⟨_, _, _, _, _, _, _, _, _, _, (⟨rfl, _⟩ | ⟨rfl, _⟩ | ⟨rfl, _⟩ | ⟨rfl, _⟩)⟩ := hJ
      all_goals
        unfold scBody
        unfold Tryd.f32
        simp only [findLabel]
        exact ⟨_, rfl⟩
    obtain ⟨X, hX⟩ := ex
    exact ⟨_, hX, pass X hX⟩

end

section
open Go.RowKit
set_option maxRecDepth 100000
set_option maxHeartbeats 1600000 in
theorem general_zeroW (s : ByteArray) (w : World) (hs : s.size ≤ 1000000) (T : TabW w) (hz : numD (scanS s.data.toList true) = []) : Calls Tryd.prog 17 #[.string s] w (RetBelow w (genV (scanS s.data.toList true))) := by
  have ok := scanS_ok s true (by omega)
  have SC := Lib.hid (fun (W : World) (hT : TabW W) => scan_okW s true W (by omega) hT)
  have EG := Lib.hid (show genV (scanS s.data.toList true) = .agg #[.int .u8 (scanS s.data.toList true).cls, .bool false, .string ⟨#[]⟩, .int .i64 0, .int .i64 (scanS s.data.toList true).size] by unfold genV; rw [if_pos hz])
  rw [EG.out]
  clear EG
  generalize scanS s.data.toList true = h at *
  have NC := Lib.hid (fun W : World => number_ok h W ok.whole ok.frac ok.exp)
  have ZC := Lib.hid (fun W : World => digZero_ok (bs (numW h)) (bs (numF h)) W (by rw [bs_size]; have := numW_le h; have := ok.whole; omega) (by rw [bs_size]; have := numF_le h; have := ok.frac; omega))
  rw [numD_nil, hz] at ZC
  have HT := Lib.hid T
  have A0 := CellsAt.new w [.int .u8 0, .bool false, .string ⟨#[]⟩, .int .i64 0, .int .i64 0] 29
  have B0 := Lib.hid ((Below.refl w.heap.size w).alloc (Nat.le_refl _) (Obj.cells #[.int .u8 0, .bool false, .string ⟨#[]⟩, .int .i64 0, .int .i64 0] 29))
  have HA0 := Lib.hid A0
  clear A0 T ok hz
  unfold headV at SC NC
  generalize bs (numW h) = W at *
  generalize bs (numF h) = F at *
  generalize bs h.whole = Wh at *
  generalize bs h.frac = Fr at *
  go_enter Tryd.func17, Tryd.ntmps17
  go_wp2_with fail
  refine (SC.out _ (HT.out.below B0.out)).mono ?_
  rintro e w1 ⟨rfl, hb1⟩
  have A1 := Lib.hid (HA0.out.step hb1)
  have B1 := Lib.hid (B0.out.trans (hb1.mono (by simp)))
  clear hb1
  have A3 := Lib.hid ((CellsAt.new w1 [.int .u8 h.cls, .bool h.neg, .string Wh, .string Fr, .int .i64 h.exp, .int .i64 h.size] 54).alloc (Obj.cells #[.int .u8 h.cls, .bool false, .string ⟨#[]⟩, .int .i64 0, .int .i64 h.size] 29))
  have A4 := CellsAt.new (w1.alloc (Obj.cells #[.int .u8 h.cls, .bool h.neg, .string Wh, .string Fr, .int .i64 h.exp, .int .i64 h.size] 54)) [.int .u8 h.cls, .bool false, .string ⟨#[]⟩, .int .i64 0, .int .i64 h.size] 29
  rw [show (w1.alloc (Obj.cells #[.int .u8 h.cls, .bool h.neg, .string Wh, .string Fr, .int .i64 h.exp, .int .i64 h.size] 54)).heap.size = w1.heap.size + 1 by simp] at A4
  have HA4 := Lib.hid A4
  have A2 := Lib.hid ((A1.out.alloc (Obj.cells #[.int .u8 h.cls, .bool h.neg, .string Wh, .string Fr, .int .i64 h.exp, .int .i64 h.size] 54)).alloc (Obj.cells #[.int .u8 h.cls, .bool false, .string ⟨#[]⟩, .int .i64 0, .int .i64 h.size] 29))
  have B2 := Lib.hid ((B1.out.alloc B1.out.size (Obj.cells #[.int .u8 h.cls, .bool h.neg, .string Wh, .string Fr, .int .i64 h.exp, .int .i64 h.size] 54)).alloc (by have := B1.out.size; simp; omega) (Obj.cells #[.int .u8 h.cls, .bool false, .string ⟨#[]⟩, .int .i64 0, .int .i64 h.size] 29))
  clear A4 A1 HA0 B0
  go_wp2_with fail
  generalize (w1.alloc (Obj.cells #[.int .u8 h.cls, .bool h.neg, .string Wh, .string Fr, .int .i64 h.exp, .int .i64 h.size] 54)).alloc (Obj.cells #[.int .u8 h.cls, .bool false, .string ⟨#[]⟩, .int .i64 0, .int .i64 h.size] 29) = w2 at *
  refine (NC.out _).mono ?_
  rintro e w3 ⟨rfl, hb3⟩
  have A53 := Lib.hid ((A3.out.step hb3).alloc (Obj.cells #[.string W, .string F] 58))
  have A54 := Lib.hid ((HA4.out.step hb3).alloc (Obj.cells #[.string W, .string F] 58))
  have A52 := Lib.hid ((A2.out.step hb3).alloc (Obj.cells #[.string W, .string F] 58))
  have A55 := Lib.hid (CellsAt.new w3 [.string W, .string F] 58)
  have B3 := Lib.hid ((B2.out.trans (hb3.mono B2.out.size)).alloc (Nat.le_trans B2.out.size hb3.size) (Obj.cells #[.string W, .string F] 58))
  clear hb3 A3 HA4 A2
  go_wp2_with fail
  generalize hw4 : w3.alloc (Obj.cells #[.string W, .string F] 58) = w4 at *
  have hz3 : w3.heap.size < w4.heap.size := by rw [← hw4]; simp
  clear hw4
  refine (ZC.out _).mono ?_
  rintro e w5 ⟨rfl, hb5⟩
  have D2 := Lib.hid (A52.out.step hb5)
  have D3 := Lib.hid (A53.out.step hb5)
  have D4 := Lib.hid (A54.out.step hb5)
  have D5 := Lib.hid (A55.out.step hb5)
  have B5 := Lib.hid (B3.out.trans (hb5.mono B3.out.size))
  clear hb5 A52 A53 A54 A55
  have l2 := D2.out.lt
  have hw1 := B1.out.size
  have a0 := D2.out.cell 0 _ rfl
  have a1 := D2.out.cell 1 _ rfl
  have a2 := D2.out.cell 2 _ rfl
  have a3 := D2.out.cell 3 _ rfl
  have a4 := D2.out.cell 4 _ rfl
  have f0 := D2.out.free 0
  have f1 := D2.out.free 1
  have f2 := D2.out.free 2
  have f3 := D2.out.free 3
  have f4 := D2.out.free 4
  have e0 := D4.out.cell 0 _ rfl
  have e1 := D4.out.cell 1 _ rfl
  have e2 := D4.out.cell 2 _ rfl
  have e3 := D4.out.cell 3 _ rfl
  have e4 := D4.out.cell 4 _ rfl
  go_wp2_with fail
  exact bodyPost_ret (v := .agg #[.int .u8 h.cls, .bool false, .string ⟨#[]⟩, .int .i64 0, .int .i64 h.size]) (by simp [results, Tryd.results17, go_sem, a0, a1, a2, a3, a4]) rfl ⟨rfl, ((((B5.out.setCell (p := ⟨w.heap.size, 0, none⟩) (by simp) _).setCell (p := ⟨w.heap.size, 1, none⟩) (by simp) _).setCell (p := ⟨w.heap.size, 2, none⟩) (by simp) _).setCell (p := ⟨w.heap.size, 3, none⟩) (by simp) _).setCell (p := ⟨w.heap.size, 4, none⟩) (by simp) _⟩

set_option maxHeartbeats 1600000 in
theorem general_numW (s : ByteArray) (w : World) (hs : s.size ≤ 1000000) (T : TabW w) (hz : numD (scanS s.data.toList true) ≠ []) : Calls Tryd.prog 17 #[.string s] w (RetBelow w (genV (scanS s.data.toList true))) := by
  have ok := scanS_ok s true (by omega)
  have SC := Lib.hid (fun (W : World) (hT : TabW W) => scan_okW s true W (by omega) hT)
  have EG := Lib.hid (show genV (scanS s.data.toList true) = .agg #[.int .u8 (scanS s.data.toList true).cls, .bool (scanS s.data.toList true).neg, .string (bs (numD (scanS s.data.toList true))), .int .i64 (numE (scanS s.data.toList true)), .int .i64 (scanS s.data.toList true).size] by unfold genV; rw [if_neg hz])
  rw [EG.out]
  clear EG
  have pk := scanS_parts s.data.toList true
  rw [← Lib.size_eq] at pk
  generalize scanS s.data.toList true = h at *
  have NC := Lib.hid (fun W : World => number_ok h W ok.whole ok.frac ok.exp)
  have ZC := Lib.hid (fun W : World => digZero_ok (bs (numW h)) (bs (numF h)) W (by rw [bs_size]; have := numW_le h; have := ok.whole; omega) (by rw [bs_size]; have := numF_le h; have := ok.frac; omega))
  rw [numD_nil, decide_eq_false hz] at ZC
  have DT := Lib.hid (fun X : World => digText_ok (bs (numW h)) (bs (numF h)) X (by rw [bs_size]; have := numW_le h; have := pk.wl; omega) (by rw [bs_size]; have := numF_le h; have := pk.fl; omega) (by rw [bs_list, bs_list]; exact hz))
  rw [bs_list, bs_list] at DT
  have EDD := Lib.hid (show bs (numD h) = bs (numW h ++ numF h) from rfl)
  rw [EDD.out]
  clear EDD pk
  generalize bs (numW h ++ numF h) = DD at *
  have HT := Lib.hid T
  have A0 := CellsAt.new w [.int .u8 0, .bool false, .string ⟨#[]⟩, .int .i64 0, .int .i64 0] 29
  have B0 := Lib.hid ((Below.refl w.heap.size w).alloc (Nat.le_refl _) (Obj.cells #[.int .u8 0, .bool false, .string ⟨#[]⟩, .int .i64 0, .int .i64 0] 29))
  have HA0 := Lib.hid A0
  clear A0 T ok hz
  generalize numE h = XE at *
  unfold headV at SC NC
  generalize bs (numW h) = W at *
  generalize bs (numF h) = F at *
  generalize bs h.whole = Wh at *
  generalize bs h.frac = Fr at *
  go_enter Tryd.func17, Tryd.ntmps17
  go_wp2_with fail
  refine (SC.out _ (HT.out.below B0.out)).mono ?_
  rintro e w1 ⟨rfl, hb1⟩
  have A1 := Lib.hid (HA0.out.step hb1)
  have B1 := Lib.hid (B0.out.trans (hb1.mono (by simp)))
  clear hb1
  have A1LT := Lib.hid (show w.heap.size + 1 ≤ w1.heap.size from A1.out.lt)
  have A3 := Lib.hid ((CellsAt.new w1 [.int .u8 h.cls, .bool h.neg, .string Wh, .string Fr, .int .i64 h.exp, .int .i64 h.size] 54).alloc (Obj.cells #[.int .u8 h.cls, .bool false, .string ⟨#[]⟩, .int .i64 0, .int .i64 h.size] 29))
  have A4 := CellsAt.new (w1.alloc (Obj.cells #[.int .u8 h.cls, .bool h.neg, .string Wh, .string Fr, .int .i64 h.exp, .int .i64 h.size] 54)) [.int .u8 h.cls, .bool false, .string ⟨#[]⟩, .int .i64 0, .int .i64 h.size] 29
  rw [show (w1.alloc (Obj.cells #[.int .u8 h.cls, .bool h.neg, .string Wh, .string Fr, .int .i64 h.exp, .int .i64 h.size] 54)).heap.size = w1.heap.size + 1 by simp] at A4
  have HA4 := Lib.hid A4
  have A2 := Lib.hid ((A1.out.alloc (Obj.cells #[.int .u8 h.cls, .bool h.neg, .string Wh, .string Fr, .int .i64 h.exp, .int .i64 h.size] 54)).alloc (Obj.cells #[.int .u8 h.cls, .bool false, .string ⟨#[]⟩, .int .i64 0, .int .i64 h.size] 29))
  have B2 := Lib.hid ((B1.out.alloc B1.out.size (Obj.cells #[.int .u8 h.cls, .bool h.neg, .string Wh, .string Fr, .int .i64 h.exp, .int .i64 h.size] 54)).alloc (by have := B1.out.size; simp; omega) (Obj.cells #[.int .u8 h.cls, .bool false, .string ⟨#[]⟩, .int .i64 0, .int .i64 h.size] 29))
  clear A4 A1 HA0 B0
  go_wp2_with fail
  generalize (w1.alloc (Obj.cells #[.int .u8 h.cls, .bool h.neg, .string Wh, .string Fr, .int .i64 h.exp, .int .i64 h.size] 54)).alloc (Obj.cells #[.int .u8 h.cls, .bool false, .string ⟨#[]⟩, .int .i64 0, .int .i64 h.size] 29) = w2 at *
  refine (NC.out _).mono ?_
  rintro e w3 ⟨rfl, hb3⟩
  have A53 := Lib.hid ((A3.out.step hb3).alloc (Obj.cells #[.string W, .string F] 58))
  have A54 := Lib.hid ((HA4.out.step hb3).alloc (Obj.cells #[.string W, .string F] 58))
  have A52 := Lib.hid ((A2.out.step hb3).alloc (Obj.cells #[.string W, .string F] 58))
  have A55 := Lib.hid (CellsAt.new w3 [.string W, .string F] 58)
  have B3 := Lib.hid ((B2.out.trans (hb3.mono B2.out.size)).alloc (Nat.le_trans B2.out.size hb3.size) (Obj.cells #[.string W, .string F] 58))
  have LW := Lib.hid (show w1.heap.size + 1 < w3.heap.size from (HA4.out.step hb3).lt)
  clear hb3 A3 HA4 A2
  go_wp2_with fail
  generalize hw4 : w3.alloc (Obj.cells #[.string W, .string F] 58) = w4 at *
  have hz3 : w3.heap.size < w4.heap.size := by rw [← hw4]; simp
  clear hw4
  refine (ZC.out _).mono ?_
  rintro e w5 ⟨rfl, hb5⟩
  have D2 := Lib.hid (A52.out.step hb5)
  have D3 := Lib.hid (A53.out.step hb5)
  have D4 := Lib.hid (A54.out.step hb5)
  have D5 := Lib.hid (A55.out.step hb5)
  have B5 := Lib.hid (B3.out.trans (hb5.mono B3.out.size))
  clear hb5 A52 A53 A54 A55
  have l2 := D2.out.lt
  have hw1 : w.heap.size + 1 ≤ w1.heap.size := A1LT.out
  have a0 := D2.out.cell 0 _ rfl
  have a1 := D2.out.cell 1 _ rfl
  have a2 := D2.out.cell 2 _ rfl
  have a3 := D2.out.cell 3 _ rfl
  have a4 := D2.out.cell 4 _ rfl
  have f0 := D2.out.free 0
  have f1 := D2.out.free 1
  have f2 := D2.out.free 2
  have f3 := D2.out.free 3
  have f4 := D2.out.free 4
  have e0 := D4.out.cell 0 _ rfl
  have e1 := D4.out.cell 1 _ rfl
  have e2 := D4.out.cell 2 _ rfl
  have e3 := D4.out.cell 3 _ rfl
  have e4 := D4.out.cell 4 _ rfl
  have lw := LW.out
  have ne43 : w1.heap.size + 1 ≠ w1.heap.size := by omega
  have ne45 : w1.heap.size + 1 ≠ w3.heap.size := by omega
  have ne42 : w1.heap.size + 1 ≠ w.heap.size := by omega
  have hBw : w.heap.size ≤ w1.heap.size + 1 := by omega
  have g1 := D3.out.cell 1 _ rfl
  have k0 := D5.out.cell 0 _ rfl
  have k1 := D5.out.cell 1 _ rfl
  go_wp2_with fail
  go_region_held3 (fun w' => w'.cell? ⟨w1.heap.size, 1, none⟩ = some (.bool h.neg) ∧ w'.cell? ⟨w3.heap.size, 0, none⟩ = some (.string W) ∧ w'.cell? ⟨w3.heap.size, 1, none⟩ = some (.string F))
    (first | exact ⟨g19, k09, k19⟩ | go_keep)
    ((first
      | (go_at_call 36; ((with_reducible refine (DT.out w5.drew).mono ?_); rintro e w9 ⟨rfl, hbb⟩; have hb9 := hbb; have q3 := (D3.out.step ((Below.refl _ _).drew)).step hbb; have q5 := (D5.out.step ((Below.refl _ _).drew)).step hbb; have q2 := (D2.out.step ((Below.refl _ _).drew)).step hbb; have q4 := (D4.out.step ((Below.refl _ _).drew)).step hbb; have g19 := q3.cell 1 _ rfl; have k09 := q5.cell 0 _ rfl; have k19 := q5.cell 1 _ rfl; have u0 := q4.cell 0 _ rfl; have uf0 := q4.free 0; have u1 := q4.cell 1 _ rfl; have uf1 := q4.free 1; have u2 := q4.cell 2 _ rfl; have uf2 := q4.free 2; have u3 := q4.cell 3 _ rfl; have uf3 := q4.free 3; have u4 := q4.cell 4 _ rfl; have uf4 := q4.free 4; have r0 := q2.cell 0 _ rfl; have rf0 := q2.free 0; have r1 := q2.cell 1 _ rfl; have rf1 := q2.free 1; have r2 := q2.cell 2 _ rfl; have rf2 := q2.free 2; have r3 := q2.cell 3 _ rfl; have rf3 := q2.free 3; have r4 := q2.cell 4 _ rfl; have rf4 := q2.free 4; have B9 := Lib.hid ((B5.out.drew).trans (hb9.mono (B5.out.drew).size)); have q2l := q2.lt))
      | (go_at_call 36; ((with_reducible refine (DT.out (w5.setCell ⟨w1.heap.size + 1, 1, none⟩ (.bool h.neg)).drew).mono ?_); rintro e w9 ⟨rfl, hbb⟩; have hb9 := hbb; have q3 := ((D3.out.other ne43 1 (.bool h.neg)).step ((Below.refl _ _).drew)).step hbb; have q5 := ((D5.out.other ne45 1 (.bool h.neg)).step ((Below.refl _ _).drew)).step hbb; have q2 := ((D2.out.other ne42 1 (.bool h.neg)).step ((Below.refl _ _).drew)).step hbb; have q4 := ((D4.out.set 1 (.bool h.neg) (by decide)).step ((Below.refl _ _).drew)).step hbb; have g19 := q3.cell 1 _ rfl; have k09 := q5.cell 0 _ rfl; have k19 := q5.cell 1 _ rfl; have u0 := q4.cell 0 _ rfl; have uf0 := q4.free 0; have u1 := q4.cell 1 _ rfl; have uf1 := q4.free 1; have u2 := q4.cell 2 _ rfl; have uf2 := q4.free 2; have u3 := q4.cell 3 _ rfl; have uf3 := q4.free 3; have u4 := q4.cell 4 _ rfl; have uf4 := q4.free 4; have r0 := q2.cell 0 _ rfl; have rf0 := q2.free 0; have r1 := q2.cell 1 _ rfl; have rf1 := q2.free 1; have r2 := q2.cell 2 _ rfl; have rf2 := q2.free 2; have r3 := q2.cell 3 _ rfl; have rf3 := q2.free 3; have r4 := q2.cell 4 _ rfl; have rf4 := q2.free 4; have B9 := Lib.hid (((B5.out.setCell (p := ⟨w1.heap.size + 1, 1, none⟩) hBw (.bool h.neg)).drew).trans (hb9.mono ((B5.out.setCell (p := ⟨w1.heap.size + 1, 1, none⟩) hBw (.bool h.neg)).drew).size)); have q2l := q2.lt))
      | (go_at_call 36; ((with_reducible refine (DT.out (w5.setCell ⟨w1.heap.size + 1, 3, none⟩ (.int .i64 XE)).drew).mono ?_); rintro e w9 ⟨rfl, hbb⟩; have hb9 := hbb; have q3 := ((D3.out.other ne43 3 (.int .i64 XE)).step ((Below.refl _ _).drew)).step hbb; have q5 := ((D5.out.other ne45 3 (.int .i64 XE)).step ((Below.refl _ _).drew)).step hbb; have q2 := ((D2.out.other ne42 3 (.int .i64 XE)).step ((Below.refl _ _).drew)).step hbb; have q4 := ((D4.out.set 3 (.int .i64 XE) (by decide)).step ((Below.refl _ _).drew)).step hbb; have g19 := q3.cell 1 _ rfl; have k09 := q5.cell 0 _ rfl; have k19 := q5.cell 1 _ rfl; have u0 := q4.cell 0 _ rfl; have uf0 := q4.free 0; have u1 := q4.cell 1 _ rfl; have uf1 := q4.free 1; have u2 := q4.cell 2 _ rfl; have uf2 := q4.free 2; have u3 := q4.cell 3 _ rfl; have uf3 := q4.free 3; have u4 := q4.cell 4 _ rfl; have uf4 := q4.free 4; have r0 := q2.cell 0 _ rfl; have rf0 := q2.free 0; have r1 := q2.cell 1 _ rfl; have rf1 := q2.free 1; have r2 := q2.cell 2 _ rfl; have rf2 := q2.free 2; have r3 := q2.cell 3 _ rfl; have rf3 := q2.free 3; have r4 := q2.cell 4 _ rfl; have rf4 := q2.free 4; have B9 := Lib.hid (((B5.out.setCell (p := ⟨w1.heap.size + 1, 3, none⟩) hBw (.int .i64 XE)).drew).trans (hb9.mono ((B5.out.setCell (p := ⟨w1.heap.size + 1, 3, none⟩) hBw (.int .i64 XE)).drew).size)); have q2l := q2.lt))
      | (go_at_call 36; ((with_reducible refine (DT.out ((w5.setCell ⟨w1.heap.size + 1, 1, none⟩ (.bool h.neg)).setCell ⟨w1.heap.size + 1, 3, none⟩ (.int .i64 XE)).drew).mono ?_); rintro e w9 ⟨rfl, hbb⟩; have hb9 := hbb; have q3 := (((D3.out.other ne43 1 (.bool h.neg)).other ne43 3 (.int .i64 XE)).step ((Below.refl _ _).drew)).step hbb; have q5 := (((D5.out.other ne45 1 (.bool h.neg)).other ne45 3 (.int .i64 XE)).step ((Below.refl _ _).drew)).step hbb; have q2 := (((D2.out.other ne42 1 (.bool h.neg)).other ne42 3 (.int .i64 XE)).step ((Below.refl _ _).drew)).step hbb; have q4 := (((D4.out.set 1 (.bool h.neg) (by decide)).set 3 (.int .i64 XE) (by decide)).step ((Below.refl _ _).drew)).step hbb; have g19 := q3.cell 1 _ rfl; have k09 := q5.cell 0 _ rfl; have k19 := q5.cell 1 _ rfl; have u0 := q4.cell 0 _ rfl; have uf0 := q4.free 0; have u1 := q4.cell 1 _ rfl; have uf1 := q4.free 1; have u2 := q4.cell 2 _ rfl; have uf2 := q4.free 2; have u3 := q4.cell 3 _ rfl; have uf3 := q4.free 3; have u4 := q4.cell 4 _ rfl; have uf4 := q4.free 4; have r0 := q2.cell 0 _ rfl; have rf0 := q2.free 0; have r1 := q2.cell 1 _ rfl; have rf1 := q2.free 1; have r2 := q2.cell 2 _ rfl; have rf2 := q2.free 2; have r3 := q2.cell 3 _ rfl; have rf3 := q2.free 3; have r4 := q2.cell 4 _ rfl; have rf4 := q2.free 4; have B9 := Lib.hid ((((B5.out.setCell (p := ⟨w1.heap.size + 1, 1, none⟩) hBw (.bool h.neg)).setCell (p := ⟨w1.heap.size + 1, 3, none⟩) hBw (.int .i64 XE)).drew).trans (hb9.mono (((B5.out.setCell (p := ⟨w1.heap.size + 1, 1, none⟩) hBw (.bool h.neg)).setCell (p := ⟨w1.heap.size + 1, 3, none⟩) hBw (.int .i64 XE)).drew).size)); have q2l := q2.lt))
      | (go_at_call 36; ((with_reducible refine (DT.out ((w5.setCell ⟨w1.heap.size + 1, 3, none⟩ (.int .i64 XE)).setCell ⟨w1.heap.size + 1, 1, none⟩ (.bool h.neg)).drew).mono ?_); rintro e w9 ⟨rfl, hbb⟩; have hb9 := hbb; have q3 := (((D3.out.other ne43 3 (.int .i64 XE)).other ne43 1 (.bool h.neg)).step ((Below.refl _ _).drew)).step hbb; have q5 := (((D5.out.other ne45 3 (.int .i64 XE)).other ne45 1 (.bool h.neg)).step ((Below.refl _ _).drew)).step hbb; have q2 := (((D2.out.other ne42 3 (.int .i64 XE)).other ne42 1 (.bool h.neg)).step ((Below.refl _ _).drew)).step hbb; have q4 := (((D4.out.set 3 (.int .i64 XE) (by decide)).set 1 (.bool h.neg) (by decide)).step ((Below.refl _ _).drew)).step hbb; have g19 := q3.cell 1 _ rfl; have k09 := q5.cell 0 _ rfl; have k19 := q5.cell 1 _ rfl; have u0 := q4.cell 0 _ rfl; have uf0 := q4.free 0; have u1 := q4.cell 1 _ rfl; have uf1 := q4.free 1; have u2 := q4.cell 2 _ rfl; have uf2 := q4.free 2; have u3 := q4.cell 3 _ rfl; have uf3 := q4.free 3; have u4 := q4.cell 4 _ rfl; have uf4 := q4.free 4; have r0 := q2.cell 0 _ rfl; have rf0 := q2.free 0; have r1 := q2.cell 1 _ rfl; have rf1 := q2.free 1; have r2 := q2.cell 2 _ rfl; have rf2 := q2.free 2; have r3 := q2.cell 3 _ rfl; have rf3 := q2.free 3; have r4 := q2.cell 4 _ rfl; have rf4 := q2.free 4; have B9 := Lib.hid ((((B5.out.setCell (p := ⟨w1.heap.size + 1, 3, none⟩) hBw (.int .i64 XE)).setCell (p := ⟨w1.heap.size + 1, 1, none⟩) hBw (.bool h.neg)).drew).trans (hb9.mono (((B5.out.setCell (p := ⟨w1.heap.size + 1, 3, none⟩) hBw (.int .i64 XE)).setCell (p := ⟨w1.heap.size + 1, 1, none⟩) hBw (.bool h.neg)).drew).size)); have q2l := q2.lt))))
  trace "behind"
  all_goals
    go_wp2_with fail
    refine gen_end _ _ w _ _ _ _ _ rfl rfl ?_ ?_
    · repeat (first | exact q2 | refine CellsAt.other ?_ ne42 _ _)
    · repeat (first | exact B9.out | refine Below.setCell ?_ (by simp; try omega) _)
theorem general_okW (s : ByteArray) (w : World) (hs : s.size ≤ 1000000) (T : TabW w) : Calls Tryd.prog 17 #[.string s] w (RetBelow w (genV (scanS s.data.toList true))) := by
  by_cases h : numD (scanS s.data.toList true) = []
  · exact general_zeroW s w hs T h
  · exact general_numW s w hs T h

end
end Go.Proofs.YtpbbgmfjdachnaaDoor
