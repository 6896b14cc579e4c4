/- NumeralPreorder: the walk. -/
import Derived.Test.YtpbbgmfjdachnaaDoorAlive
namespace Go.Proofs.YtpbbgmfjdachnaaDoor
open Go.RowKit

set_option maxRecDepth 100000 in
set_option maxHeartbeats 3200000 in
theorem preorder_vals (kind : Nat) (a b c : ByteArray) (w : World) (T : Tabs w) (ab bc ac : Int)
    (C1 : Hid (∀ W, Tabs W → Calls Tryd.prog 21 #[.int .u16 kind, .string a, .string b] W (RetBelow W (.int .i64 ab))))
    (C2 : Hid (∀ W, Tabs W → Calls Tryd.prog 21 #[.int .u16 kind, .string b, .string c] W (RetBelow W (.int .i64 bc))))
    (C3 : Hid (∀ W, Tabs W → Calls Tryd.prog 21 #[.int .u16 kind, .string a, .string c] W (RetBelow W (.int .i64 ac))))
    (C4 : Hid (∀ W, Tabs W → Calls Tryd.prog 21 #[.int .u16 kind, .string a, .string a] W (RetBelow W (.int .i64 0))))
    (C5 : Hid (∀ W, Tabs W → Calls Tryd.prog 21 #[.int .u16 kind, .string b, .string a] W (RetBelow W (.int .i64 (-ab)))))
    (h1 : ab = -1 ∨ ab = 0 ∨ ab = 1) (h2 : bc = -1 ∨ bc = 0 ∨ bc = 1) (h3 : ac = -1 ∨ ac = 0 ∨ ac = 1) (h4 : ab ≤ 0 → bc ≤ 0 → ac ≤ 0) (h5 : ab = 0 → ac = bc) :
    Calls Tryd.prog 5 #[.int .u16 kind, .string a, .string b, .string c] w (RetBelow w (.bool true)) := by
  have HT := Lib.hid T
  clear T
  rcases h1 with rfl | rfl | rfl <;> rcases h2 with rfl | rfl | rfl <;> rcases h3 with rfl | rfl | rfl
  all_goals first
    | (exfalso; omega)
    | (clear h4 h5
       go_enter Tryd.func5, Tryd.ntmps5
       go_wp2_with fail
       refine (C1.out _ HT.out).mono ?_
       rintro e w1 ⟨rfl, hb1⟩
       have B1 := Lib.hid hb1
       clear hb1
       go_wp2_with fail
       refine (C2.out _ (HT.out.below B1.out)).mono ?_
       rintro e w2 ⟨rfl, hb2⟩
       have B2 := Lib.hid (B1.out.trans (hb2.mono B1.out.size))
       clear hb2
       go_wp2_with fail
       refine (C3.out _ (HT.out.below B2.out)).mono ?_
       rintro e w3 ⟨rfl, hb3⟩
       have B3 := Lib.hid (B2.out.trans (hb3.mono B2.out.size))
       clear hb3
       go_wp2_with fail
       refine (alive_ok _ (HT.out.below B3.out)).mono ?_
       rintro e w4 ⟨rfl, hb4⟩
       have B4 := Lib.hid (B3.out.trans (hb4.mono B3.out.size))
       clear hb4
       go_wp2_with fail
       refine (C4.out _ (HT.out.below B4.out)).mono ?_
       rintro e w5 ⟨rfl, hb5⟩
       have B5 := Lib.hid (B4.out.trans (hb5.mono B4.out.size))
       clear hb5
       go_wp2_with fail
       refine (C5.out _ (HT.out.below B5.out)).mono ?_
       rintro e w6 ⟨rfl, hb6⟩
       have B6 := Lib.hid (B5.out.trans (hb6.mono B5.out.size))
       clear hb6
       go_wp2_with fail
       go_ret
       exact ⟨rfl, B6.out⟩)

theorem three {x : Int} (h1 : -1 ≤ x) (h2 : x ≤ 1) : x = -1 ∨ x = 0 ∨ x = 1 := by omega

theorem preorder_card (k : Int) (a b c : ByteArray) (hk : 0 ≤ k ∧ k < 65536) (ha : a.size ≤ 140737488351232) (hb : b.size ≤ 140737488351232) (hc : c.size ≤ 140737488351232) (w : World) (T : Tabs w) :
    Calls Tryd.prog 5 #[.int .u16 k, .string a, .string b, .string c] w (RetBelow w (.bool true)) := by
  obtain ⟨kind, rfl⟩ : ∃ n : Nat, k = n := ⟨k.toNat, by omega⟩
  have is := cmpS_is kind
  have e4 := is.refl a.data.toList
  have e5 := is.anti a.data.toList b.data.toList
  refine preorder_vals kind a b c w T _ _ _ (Lib.hid fun W hT => compare_ok kind a b W ha hb hT) (Lib.hid fun W hT => compare_ok kind b c W hb hc hT) (Lib.hid fun W hT => compare_ok kind a c W ha hc hT)
    (Lib.hid fun W hT => ?_) (Lib.hid fun W hT => ?_) (three (is.lo _ _) (is.hi _ _)) (three (is.lo _ _) (is.hi _ _)) (three (is.lo _ _) (is.hi _ _)) (is.trans _ _ _) (is.alike _ _ _)
  · rw [← e4]; exact compare_ok kind a a W ha ha hT
  · rw [← e5]; exact compare_ok kind b a W hb ha hT
end Go.Proofs.YtpbbgmfjdachnaaDoor
