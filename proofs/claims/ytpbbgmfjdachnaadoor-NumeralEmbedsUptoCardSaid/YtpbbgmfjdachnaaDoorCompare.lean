/- numeral's Compare, of every kind and every two texts. -/
import Derived.Test.YtpbbgmfjdachnaaDoorCmpV
namespace Go.Proofs.YtpbbgmfjdachnaaDoor
open Go.RowKit

theorem valS_ok (kind : Nat) (s : ByteArray) (hs : s.size ≤ 1125899906842624) : VlOk (valS kind s.data.toList) := by
  have ok := scanS_ok s (kind == 32) hs
  have h1 := numW_le (scanS s.data.toList (kind == 32))
  have h2 := numF_le (scanS s.data.toList (kind == 32))
  have m : ∀ c : Prop, [Decidable c] → ∀ x y : Val, VlOk x → VlOk y → VlOk (if c then x else y) := fun c _ x y hx hy => by
    split
    · exact hx
    · exact hy
  have z : ∀ n, VlOk ⟨n, 0, 0, [], []⟩ := fun n => ⟨by show 0 ≤ _; omega, by show 0 ≤ _; omega⟩
  unfold valS valH
  exact m _ _ _ (z _) (m _ _ _ (z _) (m _ _ _ (z _) (m _ _ _ (z _) (m _ _ _ (z _) ⟨Nat.le_trans h1 ok.whole, Nat.le_trans h2 ok.frac⟩))))

set_option maxHeartbeats 1600000 in
theorem compare_ok (kind : Nat) (s t : ByteArray) (w : World) (hs : s.size ≤ 1125899906842624) (ht : t.size ≤ 1125899906842624) (T : Tabs w) :
    Calls Tryd.prog 21 #[.int .u16 kind, .string s, .string t] w (RetBelow w (.int .i64 (cmpS kind s.data.toList t.data.toList))) := by
  have HT := Lib.hid T
  clear T
  have k16 : ((kind : Int) == 16) = decide (kind = 16) := by rw [Bool.eq_iff_iff, beq_iff_eq, decide_eq_true_iff]; omega
  have k32 : ((kind : Int) == 32) = decide (kind = 32) := by rw [Bool.eq_iff_iff, beq_iff_eq, decide_eq_true_iff]; omega
  have k64 : ((kind : Int) == 64) = decide (kind = 64) := by rw [Bool.eq_iff_iff, beq_iff_eq, decide_eq_true_iff]; omega
  have k128 : ((kind : Int) == 128) = decide (kind = 128) := by rw [Bool.eq_iff_iff, beq_iff_eq, decide_eq_true_iff]; omega
  have k256 : ((kind : Int) == 256) = decide (kind = 256) := by rw [Bool.eq_iff_iff, beq_iff_eq, decide_eq_true_iff]; omega
  have tt : ∀ p : Prop, [Decidable p] → p → decide p = true := fun p _ h => decide_eq_true h
  have ff : ∀ p : Prop, [Decidable p] → ¬ p → decide p = false := fun p _ h => decide_eq_false h
  by_cases hn : kind = 16 ∨ kind = 32 ∨ kind = 64
  · have E := Lib.hid (show cmpS kind s.data.toList t.data.toList = cmpVal (valS kind s.data.toList) (valS kind t.data.toList) by unfold cmpS; rw [if_pos hn])
    have V1 := Lib.hid (fun (W : World) (hT : Tabs W) => valueOf_ok kind s W hs hT)
    have V2 := Lib.hid (fun (W : World) (hT : Tabs W) => valueOf_ok kind t W ht hT)
    have VC := Lib.hid (fun W : World => valueCompare_ok (valS kind s.data.toList) (valS kind t.data.toList) W (valS_ok kind s hs) (valS_ok kind t ht))
    have go : Calls Tryd.prog 21 #[.int .u16 kind, .string s, .string t] w (RetBelow w (.int .i64 (cmpVal (valS kind s.data.toList) (valS kind t.data.toList)))) := by
      generalize valS kind s.data.toList = x at *
      generalize valS kind t.data.toList = y at *
      rcases hn with h | h | h
      · rw [tt _ h] at k16
        clear k32 k64 k128 k256 tt ff h
        go_enter Tryd.func21, Tryd.ntmps21
        go_wp2_with fail
        refine (V1.out _ HT.out).mono ?_
        rintro e w1 ⟨rfl, hb1⟩
        have B1 := Lib.hid hb1
        clear hb1
        go_wp2_with fail
        refine (V2.out _ (HT.out.below B1.out)).mono ?_
        rintro e w2 ⟨rfl, hb2⟩
        have B2 := Lib.hid (B1.out.trans (hb2.mono B1.out.size))
        clear hb2
        go_wp2_with fail
        refine (VC.out _).mono ?_
        rintro e w3 ⟨rfl, hb3⟩
        have B3 := Lib.hid (B2.out.trans (hb3.mono B2.out.size))
        clear hb3
        go_wp2_with fail
        go_ret
        exact ⟨rfl, B3.out⟩
      · have n16 : ¬ kind = 16 := by omega
        rw [tt _ h] at k32
        rw [ff _ n16] at k16
        clear k64 k128 k256 tt ff h n16
        go_enter Tryd.func21, Tryd.ntmps21
        go_wp2_with fail
        refine (V1.out _ HT.out).mono ?_
        rintro e w1 ⟨rfl, hb1⟩
        have B1 := Lib.hid hb1
        clear hb1
        go_wp2_with fail
        refine (V2.out _ (HT.out.below B1.out)).mono ?_
        rintro e w2 ⟨rfl, hb2⟩
        have B2 := Lib.hid (B1.out.trans (hb2.mono B1.out.size))
        clear hb2
        go_wp2_with fail
        refine (VC.out _).mono ?_
        rintro e w3 ⟨rfl, hb3⟩
        have B3 := Lib.hid (B2.out.trans (hb3.mono B2.out.size))
        clear hb3
        go_wp2_with fail
        go_ret
        exact ⟨rfl, B3.out⟩
      · have n16 : ¬ kind = 16 := by omega
        have n32 : ¬ kind = 32 := by omega
        rw [tt _ h] at k64
        rw [ff _ n16] at k16
        rw [ff _ n32] at k32
        clear k128 k256 tt ff h n16 n32
        go_enter Tryd.func21, Tryd.ntmps21
        go_wp2_with fail
        refine (V1.out _ HT.out).mono ?_
        rintro e w1 ⟨rfl, hb1⟩
        have B1 := Lib.hid hb1
        clear hb1
        go_wp2_with fail
        refine (V2.out _ (HT.out.below B1.out)).mono ?_
        rintro e w2 ⟨rfl, hb2⟩
        have B2 := Lib.hid (B1.out.trans (hb2.mono B1.out.size))
        clear hb2
        go_wp2_with fail
        refine (VC.out _).mono ?_
        rintro e w3 ⟨rfl, hb3⟩
        have B3 := Lib.hid (B2.out.trans (hb3.mono B2.out.size))
        clear hb3
        go_wp2_with fail
        go_ret
        exact ⟨rfl, B3.out⟩
    rw [E.out]
    exact go
  · have n16 : ¬ kind = 16 := fun h => hn (Or.inl h)
    have n32 : ¬ kind = 32 := fun h => hn (Or.inr (Or.inl h))
    have n64 : ¬ kind = 64 := fun h => hn (Or.inr (Or.inr h))
    rw [ff _ n16] at k16
    rw [ff _ n32] at k32
    rw [ff _ n64] at k64
    by_cases h128 : kind = 128
    · have E := Lib.hid (show cmpS kind s.data.toList t.data.toList = cmpI (monthS s.data.toList) (monthS t.data.toList) by unfold cmpS; rw [if_neg hn, if_pos h128])
      rw [tt _ h128] at k128
      clear k256 tt ff n16 n32 n64 hn h128
      have hsm : s.size ≤ maxLen := Nat.le_trans hs (by decide)
      have htm : t.size ≤ maxLen := Nat.le_trans ht (by decide)
      go_enter Tryd.func21, Tryd.ntmps21
      go_wp2_with fail
      refine (month_ok s w hsm HT.out).mono ?_
      rintro e w1 ⟨rfl, hb1⟩
      have B1 := Lib.hid hb1
      clear hb1
      go_wp2_with fail
      refine (month_ok t w1 htm (HT.out.below B1.out)).mono ?_
      rintro e w2 ⟨rfl, hb2⟩
      have B2 := Lib.hid (B1.out.trans (hb2.mono B1.out.size))
      clear hb2
      go_wp2_with fail
      refine (cmpInt_ok _ _ _).mono ?_
      rintro e w3 ⟨rfl, rfl⟩
      go_wp2_with fail
      go_ret
      exact ⟨by rw [E.out]; rfl, B2.out⟩
    · rw [ff _ h128] at k128
      by_cases h256 : kind = 256
      · have E := Lib.hid (show cmpS kind s.data.toList t.data.toList = cmpVer s.data.toList t.data.toList by unfold cmpS; rw [if_neg hn, if_neg h128, if_pos h256])
        rw [tt _ h256] at k256
        clear tt ff n16 n32 n64 hn h128 h256
        go_enter Tryd.func21, Tryd.ntmps21
        go_wp2_with fail
        refine (compareVersions_ok s t w hs ht HT.out).mono ?_
        rintro e w1 ⟨rfl, hb1⟩
        have B1 := Lib.hid hb1
        clear hb1
        go_wp2_with fail
        go_ret
        exact ⟨by rw [E.out]; rfl, B1.out⟩
      · have E := Lib.hid (show cmpS kind s.data.toList t.data.toList = cmpL s.data.toList t.data.toList by unfold cmpS; rw [if_neg hn, if_neg h128, if_neg h256])
        rw [ff _ h256] at k256
        clear tt ff n16 n32 n64 hn h128 h256
        go_enter Tryd.func21, Tryd.ntmps21
        go_wp2_with fail
        refine (strCompare_ok s t w).mono ?_
        rintro e w1 ⟨rfl, rfl⟩
        go_wp2_with fail
        go_ret
        exact ⟨by rw [E.out]; rfl, Below.refl _ _⟩
end Go.Proofs.YtpbbgmfjdachnaaDoor
