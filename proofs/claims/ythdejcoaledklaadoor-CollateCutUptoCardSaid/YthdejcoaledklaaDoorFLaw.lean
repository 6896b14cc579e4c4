/- CollateFields: the walk. -/
import Derived.Test.YthdejcoaledklaaDoorRefF
import Derived.Test.YthdejcoaledklaaDoorSame
namespace Go.Proofs.YthdejcoaledklaaDoor
open Go.RowKit

set_option maxRecDepth 100000
theorem fields_lo (s : ByteArray) (I : Int) (h : I < -1) (w : World) : Calls Tryd.prog 5 #[.string s, .int .i64 I] w (RetSpans w []) := by
  have t1 : decide (I < -1) = true := by simpa using h
  clear h
  go_enter Tryd.func5, Tryd.ntmps5
  go_wp2_with fail
  go_ret
  exact ⟨_, rfl, World.ownsRow_nil _ _ _ _, Below.refl _ _⟩
theorem fields_hi (s : ByteArray) (I : Int) (h : 255 < I) (w : World) : Calls Tryd.prog 5 #[.string s, .int .i64 I] w (RetSpans w []) := by
  have t0 : decide (I < -1) = false := by simp only [decide_eq_false_iff_not]; omega
  have t1 : decide (255 < I) = true := by simpa using h
  clear h
  go_enter Tryd.func5, Tryd.ntmps5
  go_wp2_with fail
  go_ret
  exact ⟨_, rfl, World.ownsRow_nil _ _ _ _, Below.refl _ _⟩
theorem fields_no (w : World) : Calls Tryd.prog 5 #[.string ⟨#[]⟩, .int .i64 (-1)] w (RetSpans w []) := by
  go_enter Tryd.func5, Tryd.ntmps5
  go_wp2_with fail
  go_ret
  exact ⟨_, rfl, World.ownsRow_nil _ _ _ _, Below.refl _ _⟩
theorem ref_lo (s : ByteArray) (I : Int) (h : I < -1) (w : World) : Calls Tryd.prog 6 #[.string s, .int .i64 I] w (RetSpans w []) := by
  have t1 : decide (I < -1) = true := by simpa using h
  clear h
  go_enter Tryd.func6, Tryd.ntmps6
  go_wp2_with fail
  go_ret
  exact ⟨_, rfl, World.ownsRow_nil _ _ _ _, Below.refl _ _⟩
theorem ref_hi (s : ByteArray) (I : Int) (h : 255 < I) (w : World) : Calls Tryd.prog 6 #[.string s, .int .i64 I] w (RetSpans w []) := by
  have t0 : decide (I < -1) = false := by simp only [decide_eq_false_iff_not]; omega
  have t1 : decide (255 < I) = true := by simpa using h
  clear h
  go_enter Tryd.func6, Tryd.ntmps6
  go_wp2_with fail
  go_ret
  exact ⟨_, rfl, World.ownsRow_nil _ _ _ _, Below.refl _ _⟩
theorem ref_no (w : World) : Calls Tryd.prog 6 #[.string ⟨#[]⟩, .int .i64 (-1)] w (RetSpans w []) := by
  go_enter Tryd.func6, Tryd.ntmps6
  go_wp2_with fail
  refine wp_loop_rounds 1 ?_; rw [rounds_succ]
  go_wp2_with fail
  go_ret
  exact ⟨_, rfl, World.ownsRow_nil _ _ _ _, Below.refl _ _⟩
theorem empty_of (s : ByteArray) (h : s.size = 0) : s = ⟨#[]⟩ := by
  have h1 : s.data.toList = [] := List.eq_nil_of_length_eq_zero (by rw [← Lib.size_eq]; exact h)
  obtain ⟨⟨l⟩⟩ := s
  cases h1
  rfl
theorem both_ok (s : ByteArray) (I : Int) (hs : s.size ≤ 1048576) : ∃ L, L.length ≤ s.size + 1 ∧ (∀ w, Tabs w → Calls Tryd.prog 5 #[.string s, .int .i64 I] w (RetSpans w L)) ∧ ∀ w, Calls Tryd.prog 6 #[.string s, .int .i64 I] w (RetSpans w L) := by
  by_cases h1 : I < -1
  · exact ⟨[], by simp, fun w _ => fields_lo s I h1 w, fun w => ref_lo s I h1 w⟩
  · by_cases h2 : 255 < I
    · exact ⟨[], by simp, fun w _ => fields_hi s I h2 w, fun w => ref_hi s I h2 w⟩
    · by_cases h3 : I = -1
      · subst h3
        by_cases h4 : s.size = 0
        · obtain rfl := empty_of s h4
          exact ⟨[], by simp, fun w _ => fields_no w, fun w => ref_no w⟩
        · exact ⟨_, spans_len _ _ _ _, fun w T => fields_some none s w hs (fun _ => h4) T, fun w => ref_none s w hs h4⟩
      · obtain ⟨t, rfl⟩ : ∃ t : UInt8, I = t.toNat := ⟨UInt8.ofNat I.toNat, by simp; omega⟩
        exact ⟨_, spans_len _ _ _ _, fun w T => fields_some (some t) s w hs (fun h => by cases h) T, fun w => ref_tab t s w hs⟩

theorem collateFields_ok (s : ByteArray) (I : Int) (w : World) (hs : s.size ≤ 1048576) (T : Tabs w) : Calls Tryd.prog 4 #[.string s, .int .i64 I] w (RetBelow w (.bool true)) := by
  obtain ⟨L, hL, c1, c2⟩ := both_ok s I hs
  have C1 := Lib.hid (c1 w T)
  have C2 := Lib.hid c2
  clear c1 c2 T
  go_enter Tryd.func4, Tryd.ntmps4
  go_wp2_with fail
  refine C1.out.mono ?_
  rintro e w1 ⟨v1, rfl, h1, b1⟩
  have H1 := Lib.hid h1
  have B1 := Lib.hid b1
  clear h1 b1
  go_wp2_with fail
  refine (C2.out w1).mono ?_
  rintro e w2 ⟨v2, rfl, h2, b2⟩
  have H2 := Lib.hid h2
  have B2 := Lib.hid b2
  clear h2 b2
  by_cases h0 : L.length = 0
  · obtain ⟨a1, p1, rfl⟩ := own_slice H1.out
    obtain ⟨a2, p2, rfl⟩ := own_slice H2.out
    rw [h0]
    clear h0
    go_wp2_with fail
    refine (same_none _ _ _ _ w2).mono ?_
    rintro e w3 ⟨rfl, b3⟩
    have B3 := Lib.hid (B1.out.trans ((B2.out.trans (b3.mono B2.out.size)).mono B1.out.size))
    clear b3
    go_wp2_with fail
    go_ret
    exact ⟨rfl, B3.out⟩
  · obtain ⟨g1, p1, rfl, l1, u1, r1⟩ := own_row H1.out h0
    obtain ⟨g2, p2, rfl, l2, u2, r2⟩ := own_row H2.out h0
    have R1 := Lib.hid (range_below r1 B2.out u1)
    have R2 := Lib.hid r2
    have hg : g1 < w2.heap.size := Nat.lt_of_lt_of_le u1 B2.out.size
    clear r1 r2 h0
    go_wp2_with fail
    refine (same_some L g1 g2 p1 p2 w2 hg u2 R1.out R2.out (by omega)).mono ?_
    rintro e w3 ⟨rfl, b3⟩
    have B3 := Lib.hid (B1.out.trans ((B2.out.trans (b3.mono B2.out.size)).mono B1.out.size))
    clear b3
    go_wp2_with fail
    go_ret
    exact ⟨rfl, B3.out⟩
theorem collateFields_card (s : ByteArray) (I : Int) (hs : s.size ≤ 1048576) (_ : -9223372036854775808 ≤ I ∧ I ≤ 9223372036854775807) (w : World) (T : Tabs w) : Calls Tryd.prog 4 #[.string s, .int .i64 I] w (RetBelow w (.bool true)) := collateFields_ok s I w hs T
end Go.Proofs.YthdejcoaledklaaDoor
