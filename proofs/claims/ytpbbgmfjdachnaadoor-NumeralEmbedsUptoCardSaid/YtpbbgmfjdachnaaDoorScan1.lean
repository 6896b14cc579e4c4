/- numeral scan, at the digits ahead of the point. -/
import Derived.Test.YtpbbgmfjdachnaaDoorScan3
namespace Go.Proofs.YtpbbgmfjdachnaaDoor
open Go.RowKit

theorem scR1_drop (s : ByteArray) (g : Bool) : scR1 s g = s.data.toList.drop (scF s g) := by
  unfold scR1 scF scR scL
  rw [List.drop_drop]

set_option maxRecDepth 100000 in
set_option maxHeartbeats 1600000 in
theorem scan1 (s : ByteArray) (g : Bool) (w : World) (hs : s.size ≤ 1125899906842624) (X : Code) (hX : findLabel scBody 1 = some (Code.seq .skip X)) (a : Act) (wr : World) (hJ : ScJ s g w 1 a wr) :
    X.wp Tryd.prog (jumps (fun l' a' w' => ScJ s g w l' a' w' ∧ ScM s l' a' w' < ScM s 1 a wr) (ScQ s g w)) a wr := by
  suffices h : ∃ X, findLabel scBody 1 = some (Code.seq .skip X) ∧ X.wp Tryd.prog (jumps (fun l' a' w' => ScJ s g w l' a' w' ∧ ScM s l' a' w' < ScM s 1 a wr) (ScQ s g w)) a wr by
    obtain ⟨X', e', h'⟩ := h
    rw [e'] at hX
    cases hX
    exact h'
  unfold scBody
  unfold Tryd.f32
  simp only [findLabel]
  refine ⟨_, rfl, ?_⟩
  obtain ⟨i, f, e1, e2, e3, e4, e5, e6, e7, e8, (⟨h, _⟩ | ⟨_, hnw, hw, hf, k, hk, hi⟩ | ⟨h, _⟩ | ⟨h, _⟩)⟩ := hJ
  · cases h
  rotate_left
  · cases h
  · cases h
  obtain ⟨t, rfl⟩ := frame105 a e1 e2 e3 e4 e5 e6 e7 e8
  clear e1 e2 e3 e4 e5 e6 e7 e8
  have hpl := pos_le s g
  have hk' : k ≤ spanN isDig (scR1 s g) := hk
  obtain ⟨b, hb⟩ : ∃ b : Nat, b = scF s g := ⟨_, rfl⟩
  obtain ⟨n, hn⟩ : ∃ n : Nat, n = b + k := ⟨_, rfl⟩
  obtain rfl : i = (n : Int) := by omega
  obtain rfl : f = (b : Int) := by omega
  have hns : n ≤ s.size := by omega
  have hbn : b ≤ n := by omega
  have fb := Lib.hid (show atB s.data.toList n = atB (scR1 s g) k by
    rw [scR1_drop, drop_atB, hn, hb])
  have HW := Lib.hid hw
  have HNW := Lib.hid hnw
  have HB := Lib.hid hb
  have HN := Lib.hid hn
  obtain ⟨_, hz, _, _, _, _, _, _, _, h0, h1, h2, h3, h4, h5, hfz⟩ := hw
  have hf2 := hfz 2
  clear hfz hnw hb hn hf hi hpl hk
  obtain ⟨c, hc⟩ : ∃ c, c = atB (scR1 s g) k := ⟨_, rfl⟩
  rw [← hc] at fb
  have HC := Lib.hid hc
  clear hc
  cases hd : isDig c with
  | true =>
    have HD := Lib.hid hd
    have HK1 := Lib.hid (spanN_on hk' (by decide) (by rw [← HC.out]; exact hd))
    clear hd hk'
    have hlt : n < s.size := by
      rcases Nat.lt_or_ge n s.size with h | h
      · exact h
      · exfalso
        have := fb.out
        rw [atB_end s n (by omega)] at this
        have hd := HD.out
        rw [← this] at hd
        exact absurd hd (by decide)
    go_wp2_with (first | (go_at_call 66; refine (at_ok s n _).mono ?_; rintro e w' ⟨rfl, rfl⟩; rw [fb.out]) | (go_at_call 68; refine (isDigit_ok _ _).mono ?_; rintro e w' ⟨rfl, rfl⟩; rw [HD.out]))
    go_step3
    refine ⟨⟨_, _, rfl, rfl, rfl, rfl, rfl, rfl, rfl, rfl, Or.inr (Or.inl ⟨rfl, HNW.out, HW.out, by rw [HB.out], k + 1, HK1.out, by have := HN.out; have := HB.out; omega⟩)⟩, ?_⟩
    show 2 * (s.size + 2) + (s.size + 1 - (intOf (.int .i64 ((n : Int) + 1))).toNat) < 2 * (s.size + 2) + (s.size + 1 - (intOf (.int .i64 (n : Int))).toNat)
    simp [intOf]; omega
  | false =>
    have HD := Lib.hid hd
    have HK1 := Lib.hid (spanN_end hk' (by rw [← HC.out]; exact hd))
    clear hd hk'
    have EX := Lib.hid (show s.extract b n = bs (scWhole s g) by
      rw [extract_bs]
      congr 1
      unfold scWhole
      rw [← take_spanN, HK1.out, HN.out, Nat.add_sub_cancel_left, scR1_drop, HB.out])
    have E2 := Lib.hid (show c = atB (scR2 s g) 0 by
      rw [HC.out, scR2_at, scR1_drop, drop_atB]
      unfold scL scW
      rw [HK1.out]; rfl)
    by_cases hdot : c = 46
    · have t1 : ((c.toNat : Int) != 46) = false := by rw [hdot]; rfl
      have HDOT := Lib.hid hdot
      have hlt : n < s.size := by
        rcases Nat.lt_or_ge n s.size with h | h
        · exact h
        · exfalso
          have := fb.out
          rw [atB_end s n (by omega), hdot] at this
          exact absurd this (by decide)
      clear hdot
      go_wp2_with (first | (go_at_call 66; refine (at_ok s n _).mono ?_; rintro e w' ⟨rfl, rfl⟩; rw [fb.out]) | (go_at_call 68; refine (isDigit_ok _ _).mono ?_; rintro e w' ⟨rfl, rfl⟩; rw [HD.out]))
      go_step3
      rename_i hKK
      refine hKK _ _ ?_
      refine Code.wp_mono (jumps_mono fun l' a' w' h => ?_) (scan3 s g w hs _ ?_ _ _ ?_)
      · refine ⟨h.1, Nat.lt_of_lt_of_le h.2 ?_⟩
        show 1 * (s.size + 2) + (s.size + 1 - (intOf (.int .i64 ((n : Int) + 1))).toNat) ≤ 2 * (s.size + 2) + (s.size + 1 - (intOf (.int .i64 (n : Int))).toNat)
        simp [intOf]; omega
      · unfold scBody
        unfold Tryd.f32
        simp only [findLabel]
        rfl
      · refine ⟨_, _, rfl, rfl, rfl, rfl, rfl, rfl, rfl, rfl, Or.inr (Or.inr (Or.inl ⟨rfl, HNW.out, E2.out.symm.trans HDOT.out, ?_, ?_, 0, Nat.zero_le _, ?_⟩))⟩
        · rw [EX.out]; exact HW.out.whole _
        · have := HN.out; have := HB.out; have := HK1.out; unfold scW; omega
        · have := HN.out; have := HB.out; have := HK1.out; unfold scW; omega
    · have t1 : ((c.toNat : Int) != 46) = true := by
        rw [bne_iff_ne]; intro h; exact hdot (UInt8.toNat_inj.1 (by show _ = (46 : UInt8).toNat; simp; omega))
      have HDOT := Lib.hid (show (atB (scR2 s g) 0 == 46) = false by rw [← E2.out, beq_eq_false_iff_ne]; exact hdot)
      clear hdot
      go_wp2_with (first | (go_at_call 66; refine (at_ok s n _).mono ?_; rintro e w' ⟨rfl, rfl⟩; rw [fb.out]) | (go_at_call 68; refine (isDigit_ok _ _).mono ?_; rintro e w' ⟨rfl, rfl⟩; rw [HD.out]))
      go_step3
      refine ⟨⟨_, _, rfl, rfl, rfl, rfl, rfl, rfl, rfl, rfl, Or.inr (Or.inr (Or.inr ⟨rfl, HNW.out, ?_, ?_⟩))⟩, ?_⟩
      · have e0 : fracS (scR2 s g) = [] := by unfold fracS; rw [HDOT.out]; rfl
        rw [EX.out, e0]; exact HW.out.whole _
      · have e0 : fracN (scR2 s g) = 0 := by unfold fracN; rw [HDOT.out]; rfl
        have := HN.out; have := HB.out; have := HK1.out; unfold scW; omega
      · show 0 * (s.size + 2) + (s.size + 1 - (intOf (.int .i64 (n : Int))).toNat) < 2 * (s.size + 2) + (s.size + 1 - (intOf (.int .i64 (n : Int))).toNat)
        omega
end Go.Proofs.YtpbbgmfjdachnaaDoor
