/- numeral scan, at the digits behind the point. -/
import Derived.Test.YtpbbgmfjdachnaaDoorScan
namespace Go.Proofs.YtpbbgmfjdachnaaDoor
open Go.RowKit

theorem scR2_drop (s : ByteArray) (g : Bool) : scR2 s g = s.data.toList.drop (scF s g + scW s g) := by
  unfold scR2 scF scW
  rw [← drop_spanN]
  unfold scR1 scR scL
  rw [List.drop_drop, List.drop_drop]
  congr 1
  omega
theorem scR2_at (s : ByteArray) (g : Bool) (k : Nat) : atB (scR2 s g) k = atB (scL s) (scF s g + scW s g + k) := by
  rw [scR2_drop, drop_atB]; rfl

set_option maxRecDepth 100000 in
set_option maxHeartbeats 1600000 in
theorem scan3 (s : ByteArray) (g : Bool) (w : World) (hs : s.size ≤ 1125899906842624) (X : Code) (hX : findLabel scBody 3 = some (Code.seq .skip X)) (a : Act) (wr : World) (hJ : ScJ s g w 3 a wr) :
    X.wp Tryd.prog (jumps (fun l' a' w' => ScJ s g w l' a' w' ∧ ScM s l' a' w' < ScM s 3 a wr) (ScQ s g w)) a wr := by
  suffices h : ∃ X, findLabel scBody 3 = some (Code.seq .skip X) ∧ X.wp Tryd.prog (jumps (fun l' a' w' => ScJ s g w l' a' w' ∧ ScM s l' a' w' < ScM s 3 a wr) (ScQ s g w)) a wr by
    obtain ⟨X', e', h'⟩ := h
    rw [e'] at hX
    cases hX
    exact h'
  unfold scBody
  unfold Tryd.f32
  simp only [findLabel]
  refine ⟨_, rfl, ?_⟩
  obtain ⟨i, f, e1, e2, e3, e4, e5, e6, e7, e8, (⟨h, _⟩ | ⟨h, _⟩ | ⟨_, hnw, hdot, hw, hf, k, hk, hi⟩ | ⟨h, _⟩)⟩ := hJ
  · cases h
  · cases h
  rotate_left
  · cases h
  obtain ⟨t, rfl⟩ := frame105 a e1 e2 e3 e4 e5 e6 e7 e8
  clear e1 e2 e3 e4 e5 e6 e7 e8
  have hsp := spanN_le isDig ((scR2 s g).drop 1)
  have hpl := pos_le s g
  have hfn : fracN (scR2 s g) = 1 + spanN isDig ((scR2 s g).drop 1) := by unfold fracN; rw [hdot]; rfl
  obtain ⟨b, hb⟩ : ∃ b : Nat, b = scF s g + scW s g + 1 := ⟨_, rfl⟩
  obtain ⟨n, hn⟩ : ∃ n : Nat, n = b + k := ⟨_, rfl⟩
  obtain rfl : i = (n : Int) := by omega
  obtain rfl : f = (b : Int) := by omega
  have hns : n ≤ s.size := by omega
  have hbn : b ≤ n := by omega
  have fb := Lib.hid (show atB s.data.toList n = atB ((scR2 s g).drop 1) k by
    rw [drop_atB, scR2_at, hn, hb]; unfold scL; congr 1; omega)
  have HW := Lib.hid hw
  have HNW := Lib.hid hnw
  have HDOT := Lib.hid hdot
  have HFN := Lib.hid hfn
  have HB := Lib.hid hb
  have HN := Lib.hid hn
  have HK := Lib.hid hk
  obtain ⟨_, hz, _, _, _, _, _, _, _, h0, h1, h2, h3, h4, h5, hfz⟩ := hw
  have hf3 := hfz 3
  clear hfz hnw hdot hfn hb hn hf hi hpl hsp
  obtain ⟨c, hc⟩ : ∃ c, c = atB ((scR2 s g).drop 1) k := ⟨_, rfl⟩
  rw [← hc] at fb
  have HC := Lib.hid hc
  clear hc
  cases hd : isDig c with
  | true =>
    have HD := Lib.hid hd
    have HK1 := Lib.hid (spanN_on hk (by decide) (by rw [← HC.out]; exact hd))
    clear hd hk
    have hlt : n < s.size := by
      rcases Nat.lt_or_ge n s.size with h | h
      · exact h
      · exfalso
        have := fb.out
        rw [atB_end s n (by omega)] at this
        have hd := HD.out
        rw [← this] at hd
        exact absurd hd (by decide)
    go_wp2_with (first | (go_at_call 66; refine (at_ok s n _).mono ?_; rintro e w' ⟨rfl, rfl⟩; rw [fb.out]) | (go_at_call 68; refine (isDigit_ok _ _).mono ?_; rintro e w' ⟨rfl, rfl⟩; rw [HD.out]))
    go_step3
    refine ⟨⟨_, _, rfl, rfl, rfl, rfl, rfl, rfl, rfl, rfl, Or.inr (Or.inr (Or.inl ⟨rfl, HNW.out, HDOT.out, HW.out, by rw [HB.out]; omega, k + 1, HK1.out, by have := HN.out; have := HB.out; omega⟩))⟩, ?_⟩
    show 1 * (s.size + 2) + (s.size + 1 - (intOf (.int .i64 ((n : Int) + 1))).toNat) < 1 * (s.size + 2) + (s.size + 1 - (intOf (.int .i64 (n : Int))).toNat)
    simp [intOf]; omega
  | false =>
    have HD := Lib.hid hd
    have HK1 := Lib.hid (spanN_end hk (by rw [← HC.out]; exact hd))
    clear hd hk
    have EX := Lib.hid (show s.extract b n = bs (fracS (scR2 s g)) by
      rw [extract_bs]
      congr 1
      unfold fracS
      rw [HDOT.out, if_pos (by rfl), ← take_spanN, HK1.out, HN.out, Nat.add_sub_cancel_left]
      congr 1
      rw [scR2_drop, HB.out, List.drop_drop])
    go_wp2_with (first | (go_at_call 66; refine (at_ok s n _).mono ?_; rintro e w' ⟨rfl, rfl⟩; rw [fb.out]) | (go_at_call 68; refine (isDigit_ok _ _).mono ?_; rintro e w' ⟨rfl, rfl⟩; rw [HD.out]))
    go_step3
    rename_i hKK
    refine hKK _ _ ?_
    refine Code.wp_mono (jumps_mono fun l' a' w' h => ?_) (scan2 s g w hs _ ?_ _ _ ?_)
    · refine ⟨h.1, Nat.lt_of_lt_of_le h.2 ?_⟩
      show 0 * (s.size + 2) + (s.size + 1 - (intOf (.int .i64 (n : Int))).toNat) ≤ 1 * (s.size + 2) + (s.size + 1 - (intOf (.int .i64 (n : Int))).toNat)
      omega
    · unfold scBody
      unfold Tryd.f32
      simp only [findLabel]
      rfl
    · refine ⟨_, _, rfl, rfl, rfl, rfl, rfl, rfl, rfl, rfl, Or.inr (Or.inr (Or.inr ⟨rfl, HNW.out, ?_, ?_⟩))⟩
      · rw [EX.out]; exact HW.out.frac _
      · have := HN.out; have := HB.out; have := HFN.out; have := HK1.out; omega
end Go.Proofs.YtpbbgmfjdachnaaDoor
