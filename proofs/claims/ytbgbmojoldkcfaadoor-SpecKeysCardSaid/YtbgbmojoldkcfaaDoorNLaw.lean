/- SpecNames: the walk. -/
import Derived.Test.YtbgbmojoldkcfaaDoorBb
namespace Go.Proofs.YtbgbmojoldkcfaaDoor
open Go.RowKit

def RetB (w : World) (v : Value) (e : Ending) (w' : World) : Prop := e = .returned v ∧ Below w.heap.size w w'
theorem clone_ok (s : ByteArray) (w : World) (hs : s.size ≤ 281474976710656) : Calls Tryd.prog 37 #[.string s] w (RetB w (.string s)) := by
  have C := Lib.hid (Tryd.stringslite_Clone s w hs)
  go_enter Tryd.func37, Tryd.ntmps37
  go_wp2_with fail
  refine C.out.mono ?_
  rintro e w1 ⟨rfl, hb⟩
  have HB := Lib.hid hb
  clear hb
  go_wp2_with fail
  go_ret
  exact ⟨rfl, HB.out⟩
theorem text_ok (s : ByteArray) (w : World) (hs : s.size ≤ 281474976710656) : Calls Tryd.prog 18 #[.string s] w (RetB w (.string s)) := by
  have C := Lib.hid (clone_ok s w hs)
  go_enter Tryd.func18, Tryd.ntmps18
  go_wp2_with fail
  refine C.out.mono ?_
  rintro e w1 ⟨rfl, hb⟩
  have HB := Lib.hid hb
  clear hb
  go_wp2_with fail
  go_ret
  exact ⟨rfl, HB.out⟩
theorem names_short : ∀ x ∈ oNames, x.length ≤ 100 := by decide +kernel
theorem fS_short (s : Bs) : ∀ (L : List Bs) (f : Bs), f.length ≤ 100 → (∀ x ∈ L, x.length ≤ 100) → (fS s f L).1.length ≤ 100
  | [], f, hf, _ => by
    rw [fS]
    split
    · simp
    · exact hf
  | x :: r, f, hf, hL => by
    have hx := hL x (List.mem_cons_self ..)
    have hr : ∀ y ∈ r, y.length ≤ 100 := fun y hy => hL y (List.mem_cons_of_mem _ hy)
    rw [fS]
    split
    · split
      · exact fS_short s r x hx hr
      · split
        · exact fS_short s r f hf hr
        · simp
    · exact fS_short s r f hf hr
theorem prog_short (s : Bs) : (progLong s).1.length ≤ 100 := by
  unfold progLong
  split
  · rename_i h; exact names_short s h
  · split
    · simp
    · exact fS_short s _ _ (by simp) names_short
theorem long_ok (s : ByteArray) (w : World) (T : Tabs w) : Calls Tryd.prog 8 #[.string s] w (RetStr w (progLong s.data.toList)) := by
  have C := Lib.hid (byBeg_ok s w T)
  have hsh := prog_short s.data.toList
  clear T
  generalize progLong s.data.toList = p at *
  obtain ⟨nm, er⟩ := p
  have TX := Lib.hid (fun w => text_ok (bs nm) w (by rw [bs_size]; simp only at hsh; omega))
  go_enter Tryd.func8, Tryd.ntmps8
  go_wp2_with fail
  refine C.out.mono ?_
  rintro e w1 ⟨l, wa, lo, rfl, hb⟩
  have HB := Lib.hid hb
  clear hb
  go_wp2_with fail
  refine (TX.out _).mono ?_
  rintro e w2 ⟨rfl, hb2⟩
  have HB2 := Lib.hid ((HB.out.alloc HB.out.size (.cells #[.string (bs nm), .int .u8 l, .bool wa, .string lo] 47)).trans (hb2.mono (by have := HB.out.size; simp; omega)))
  clear hb2
  go_wp2_with fail
  go_ret2
  exact ⟨rfl, HB2.out⟩
theorem num_ok (x : Int) (w : World) : Calls Tryd.prog 10 #[.int .i64 x] w fun e w' => e = .returned (.int .i64 x) ∧ w = w' := by
  go_enter Tryd.func10, Tryd.ntmps10
  go_wp2_with fail
  go_ret
  exact ⟨rfl, rfl⟩

set_option maxHeartbeats 800000 in
theorem names_law (s : ByteArray) (w : World) (hs : s.size ≤ 140737488351232) (T : Tabs w) : Calls Tryd.prog 3 #[.string s] w (RetB w (.bool true)) := by
  have C1 := Lib.hid (size_ok s w hs)
  have C2 := Lib.hid (refSize_ok s w hs)
  have C3 := Lib.hid (long_ok s w T)
  have C4 := Lib.hid (fun w' (k : Below w.heap.size w w') => refLong_ok s w' (T.below k))
  rw [← long_same] at C4
  clear T
  generalize progLong s.data.toList = p at *
  obtain ⟨nm, er⟩ := p
  generalize sizeS s.data.toList = n at *
  generalize sizeE s.data.toList = e0 at *
  go_enter Tryd.func3, Tryd.ntmps3
  go_wp2_with fail
  refine C1.out.mono ?_
  rintro e w1 ⟨rfl, rfl⟩
  go_wp2_with fail
  refine C2.out.mono ?_
  rintro e w1 ⟨rfl, rfl⟩
  go_wp2_with fail
  refine C3.out.mono ?_
  rintro e w3 ⟨rfl, hb3⟩
  have H4 := Lib.hid (C4.out w3 hb3)
  have B3 := Lib.hid hb3
  clear hb3
  go_wp2_with fail
  refine H4.out.mono ?_
  rintro e w4 ⟨rfl, hb4⟩
  have B4 := Lib.hid (B3.out.trans (hb4.mono B3.out.size))
  clear hb4
  go_wp2_with (first | (go_at_call 10; refine (num_ok _ _).mono ?_; rintro e w' ⟨rfl, rfl⟩))
  go_ret
  exact ⟨rfl, B4.out⟩
theorem specNames_card (s : ByteArray) (hs : s.size ≤ 140737488351232) (w : World) (T : Tabs w) : Calls Tryd.prog 3 #[.string s] w (RetB w (.bool true)) := names_law s w hs T
end Go.Proofs.YtbgbmojoldkcfaaDoor
