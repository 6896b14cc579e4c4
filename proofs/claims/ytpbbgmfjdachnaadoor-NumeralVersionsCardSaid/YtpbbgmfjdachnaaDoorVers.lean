/- NumeralVersions: the walk. -/
import Derived.Test.YtpbbgmfjdachnaaDoorAlive
import Derived.Test.YtpbbgmfjdachnaaDoorDeciS
namespace Go.Proofs.YtpbbgmfjdachnaaDoor
open Go.RowKit

set_option maxRecDepth 100000
set_option maxHeartbeats 1600000 in
theorem vers_vals (B x y : ByteArray) (a b : Int) (i : Nat) (Wa Wb : ByteArray) (c : Int) (hB : B.size ≤ 140737488351232) (hx : x.size ≤ 140737488351232) (hy : y.size ≤ 140737488351232) (hWa : Wa.size ≤ 60) (hWb : Wb.size ≤ 60) (w : World) (T : Tabs w)
    (ra0 : 0 ≤ a) (ra : a < 4611686018427387904) (rb0 : 0 ≤ b) (rb : b < 4611686018427387904) (ri : i ≤ 20)
    (W1 : Hid (∀ W, Calls Tryd.prog 15 #[.int .i64 a, .int .i64 i] W (RetBelow W (.string Wa))))
    (W2 : Hid (∀ W, Calls Tryd.prog 15 #[.int .i64 b, .int .i64 (0 : Nat)] W (RetBelow W (.string Wb))))
    (C1 : Hid (∀ W, Tabs W → Calls Tryd.prog 21 #[.int .u16 256, .string (B ++ Wa ++ (⟨#[45]⟩ ++ x)), .string (B ++ Wb ++ (⟨#[45]⟩ ++ y))] W (RetBelow W (.int .i64 c))))
    (C2 : Hid (a = b → ∀ W, Tabs W → Calls Tryd.prog 21 #[.int .u16 256, .string (⟨#[45]⟩ ++ x), .string (⟨#[45]⟩ ++ y)] W (RetBelow W (.int .i64 c))))
    (C3 : Hid (∀ W, Tabs W → Calls Tryd.prog 21 #[.int .u16 256, .string B, .string (B ++ Wa)] W (RetBelow W (.int .i64 (-1)))))
    (C4 : Hid (∀ W, Tabs W → Calls Tryd.prog 21 #[.int .u16 256, .string (B ++ ⟨#[126]⟩), .string B] W (RetBelow W (.int .i64 (-1)))))
    (hv : (a < b ∧ c = -1) ∨ a = b ∨ (b < a ∧ c = 1)) :
    Calls Tryd.prog 9 #[.string B, .int .i64 a, .int .i64 b, .int .i64 i, .string x, .string y] w (RetBelow w (.bool true)) := by
  have HT := Lib.hid T
  clear T
  have hcat : ∀ a b : ByteArray, (a ++ b).size = a.size + b.size := fun a b => by simp
  have z1 : (⟨#[45]⟩ : ByteArray).size = 1 := rfl
  have z2 : (⟨#[126]⟩ : ByteArray).size = 1 := rfl
  have s1 : ¬ 9223372036854775807 < 1 + x.size := by omega
  have s2 : ¬ 9223372036854775807 < 1 + y.size := by omega
  have s3 : ¬ 9223372036854775807 < B.size + Wa.size := by omega
  have s4 : ¬ 9223372036854775807 < B.size + Wb.size := by omega
  have s5 : ¬ 9223372036854775807 < B.size + Wa.size + (1 + x.size) := by omega
  have s6 : ¬ 9223372036854775807 < B.size + Wb.size + (1 + y.size) := by omega
  have s7 : ¬ 9223372036854775807 < B.size + 1 := by omega
  clear hB hx hy hWa hWb z1 z2 hcat
  have HV := Lib.hid hv
  clear hv
  by_cases hB0 : B.data.toList = []
  · have e1 : B.toList = [] := by rw [Lib.toList_data]; exact hB0
    have e2 : B.toList.isEmpty = true := by rw [e1]; rfl
    have HB0 := Lib.hid hB0
    clear hB0
    go_enter Tryd.func9, Tryd.ntmps9
    go_wp2_with fail
    refine (W1.out _).mono ?_
    rintro e w1 ⟨rfl, hb1⟩
    have B1 := Lib.hid hb1
    clear hb1
    go_wp2_with fail
    refine (W2.out _).mono ?_
    rintro e w2 ⟨rfl, hb2⟩
    have B2 := Lib.hid (B1.out.trans (hb2.mono B1.out.size))
    clear hb2
    go_wp2_with fail
    refine (C1.out _ (HT.out.below B2.out)).mono ?_
    rintro e w3 ⟨rfl, hb3⟩
    have B3 := Lib.hid (B2.out.trans (hb3.mono B2.out.size))
    clear hb3
    rcases HV.out with ⟨hc, rfl⟩ | rfl | ⟨hc, rfl⟩
    · have n1 : ¬ a = b := by omega
      have n2 : decide (a = b) = false := by simpa using n1
      have n3 : decide (a < b) = true := by simpa using hc
      clear HV
      go_wp2_with fail
      go_ret
      exact ⟨rfl, B3.out⟩
    · clear HV
      go_wp2_with fail
      refine (C2.out (by first | rfl | trivial) _ (HT.out.below B3.out)).mono ?_
      rintro e w4 ⟨rfl, hb4⟩
      have B4 := Lib.hid (B3.out.trans (hb4.mono B3.out.size))
      clear hb4
      go_wp2_with fail
      refine (W1.out _).mono ?_
      rintro e wm ⟨rfl, hbm⟩
      have BM := Lib.hid (B4.out.trans (hbm.mono B4.out.size))
      clear hbm
      go_wp2_with fail
      refine (C3.out _ (HT.out.below BM.out)).mono ?_
      rintro e w5 ⟨rfl, hb5⟩
      have B5 := Lib.hid (BM.out.trans (hb5.mono BM.out.size))
      clear hb5
      go_wp2_with fail
      refine (C4.out _ (HT.out.below B5.out)).mono ?_
      rintro e w6 ⟨rfl, hb6⟩
      have B6 := Lib.hid (B5.out.trans (hb6.mono B5.out.size))
      clear hb6
      go_wp2_with fail
      go_ret
      exact ⟨rfl, B6.out⟩
    · have n1 : ¬ a = b := by omega
      have n2 : decide (a = b) = false := by simpa using n1
      have n3 : decide (a < b) = false := by simp; omega
      clear HV
      go_wp2_with fail
      go_ret
      exact ⟨rfl, B3.out⟩
  · have e1 : ¬ B.toList = [] := by rw [Lib.toList_data]; exact hB0
    have e2 : B.toList.isEmpty = false := by rw [Lib.toList_data]; cases hx : B.data.toList <;> simp_all
    have hpos : 0 < B.size := by rw [Lib.size_eq]; exact List.length_pos_iff.2 hB0
    have hlt : B.size - 1 < B.size := by omega
    clear hB0
    have hlt2 : (B.size : Int) - 1 < B.size := by omega
    have hlt3 : (0 : Int) ≤ (B.size : Int) - 1 := by omega
    go_enter Tryd.func9, Tryd.ntmps9
    go_wp2_with fail
    all_goals first
      | (go_ret; exact ⟨rfl, Below.refl _ _⟩)
      | skip
    all_goals
      refine (W1.out _).mono ?_
      rintro e w1 ⟨rfl, hb1⟩
      have B1 := Lib.hid hb1
      clear hb1
      go_wp2_with fail
      refine (W2.out _).mono ?_
      rintro e w2 ⟨rfl, hb2⟩
      have B2 := Lib.hid (B1.out.trans (hb2.mono B1.out.size))
      clear hb2
      go_wp2_with fail
      refine (C1.out _ (HT.out.below B2.out)).mono ?_
      rintro e w3 ⟨rfl, hb3⟩
      have B3 := Lib.hid (B2.out.trans (hb3.mono B2.out.size))
      clear hb3
      rcases HV.out with ⟨hc, rfl⟩ | rfl | ⟨hc, rfl⟩
      · have n1 : ¬ a = b := by omega
        have n2 : decide (a = b) = false := by simpa using n1
        have n3 : decide (a < b) = true := by simpa using hc
        clear HV
        go_wp2_with fail
        go_ret
        exact ⟨rfl, B3.out⟩
      · clear HV
        go_wp2_with fail
        refine (C2.out (by first | rfl | trivial) _ (HT.out.below B3.out)).mono ?_
        rintro e w4 ⟨rfl, hb4⟩
        have B4 := Lib.hid (B3.out.trans (hb4.mono B3.out.size))
        clear hb4
        go_wp2_with fail
        refine (W1.out _).mono ?_
        rintro e wm ⟨rfl, hbm⟩
        have BM := Lib.hid (B4.out.trans (hbm.mono B4.out.size))
        clear hbm
        go_wp2_with fail
        refine (C3.out _ (HT.out.below BM.out)).mono ?_
        rintro e w5 ⟨rfl, hb5⟩
        have B5 := Lib.hid (BM.out.trans (hb5.mono BM.out.size))
        clear hb5
        go_wp2_with fail
        refine (C4.out _ (HT.out.below B5.out)).mono ?_
        rintro e w6 ⟨rfl, hb6⟩
        have B6 := Lib.hid (B5.out.trans (hb6.mono B5.out.size))
        clear hb6
        go_wp2_with fail
        go_ret
        exact ⟨rfl, B6.out⟩
      · have n1 : ¬ a = b := by omega
        have n2 : decide (a = b) = false := by simpa using n1
        have n3 : decide (a < b) = false := by simp; omega
        clear HV
        go_wp2_with fail
        go_ret
        exact ⟨rfl, B3.out⟩

theorem vers_digit (B x y : ByteArray) (a b i : Int) (hB : B.size ≤ 140737488351232) (h0 : ¬ B.data.toList = []) (hd : ∀ h : B.size - 1 < B.size, 48 ≤ (B[B.size - 1].toNat : Int) ∧ (B[B.size - 1].toNat : Int) ≤ 57) (w : World)
    (ra0 : 0 ≤ a) (ra : a < 4611686018427387904) (rb0 : 0 ≤ b) (rb : b < 4611686018427387904) (ri0 : 0 ≤ i) (ri : i ≤ 20) :
    Calls Tryd.prog 9 #[.string B, .int .i64 a, .int .i64 b, .int .i64 i, .string x, .string y] w (RetBelow w (.bool true)) := by
  have e1 : ¬ B.toList = [] := by rw [Lib.toList_data]; exact h0
  have e2 : B.toList.isEmpty = false := by rw [Lib.toList_data]; cases hx : B.data.toList <;> simp_all
  have hpos : 0 < B.size := by rw [Lib.size_eq]; exact List.length_pos_iff.2 h0
  have hlt : B.size - 1 < B.size := by omega
  obtain ⟨d1, d2⟩ := hd hlt
  clear h0 hd
  have hlt2 : (B.size : Int) - 1 < B.size := by omega
  have hlt3 : (0 : Int) ≤ (B.size : Int) - 1 := by omega
  go_enter Tryd.func9, Tryd.ntmps9
  go_wp2_with fail
  go_ret
  exact ⟨rfl, Below.refl _ _⟩

set_option maxHeartbeats 800000 in
theorem vers_out (B x y : ByteArray) (a b i : Int) (w : World) (h : ¬ (¬ a < 0 ∧ ¬ b < 0 ∧ ¬ 4611686018427387904 ≤ a ∧ ¬ 4611686018427387904 ≤ b ∧ ¬ i < 0 ∧ ¬ 20 < i)) :
    Calls Tryd.prog 9 #[.string B, .int .i64 a, .int .i64 b, .int .i64 i, .string x, .string y] w (RetBelow w (.bool true)) := by
  by_cases c0 : a < 0
  · clear h
    go_enter Tryd.func9, Tryd.ntmps9
    go_wp2_with fail
    go_ret
    exact ⟨rfl, Below.refl _ _⟩
  by_cases c1 : b < 0
  · clear h
    go_enter Tryd.func9, Tryd.ntmps9
    go_wp2_with fail
    go_ret
    exact ⟨rfl, Below.refl _ _⟩
  by_cases c2 : 4611686018427387904 ≤ a
  · clear h
    go_enter Tryd.func9, Tryd.ntmps9
    go_wp2_with fail
    go_ret
    exact ⟨rfl, Below.refl _ _⟩
  by_cases c3 : 4611686018427387904 ≤ b
  · clear h
    go_enter Tryd.func9, Tryd.ntmps9
    go_wp2_with fail
    go_ret
    exact ⟨rfl, Below.refl _ _⟩
  by_cases c4 : i < 0
  · clear h
    go_enter Tryd.func9, Tryd.ntmps9
    go_wp2_with fail
    go_ret
    exact ⟨rfl, Below.refl _ _⟩
  by_cases c5 : 20 < i
  · clear h
    go_enter Tryd.func9, Tryd.ntmps9
    go_wp2_with fail
    go_ret
    exact ⟨rfl, Below.refl _ _⟩
  exact absurd ⟨c0, c1, c2, c3, c4, c5⟩ h

theorem vers_card (B : ByteArray) (a b i : Int) (x y : ByteArray) (hB : B.size ≤ 140737488351232) (_ : -9223372036854775808 ≤ a ∧ a ≤ 9223372036854775807) (_ : -9223372036854775808 ≤ b ∧ b ≤ 9223372036854775807) (_ : -9223372036854775808 ≤ i ∧ i ≤ 9223372036854775807)
    (hx : x.size ≤ 140737488351232) (hy : y.size ≤ 140737488351232) (w : World) (T : Tabs w) :
    Calls Tryd.prog 9 #[.string B, .int .i64 a, .int .i64 b, .int .i64 i, .string x, .string y] w (RetBelow w (.bool true)) := by
  by_cases h : ¬ a < 0 ∧ ¬ b < 0 ∧ ¬ 4611686018427387904 ≤ a ∧ ¬ 4611686018427387904 ≤ b ∧ ¬ i < 0 ∧ ¬ 20 < i
  · obtain ⟨h1, h2, h3, h4, h5, h6⟩ := h
    by_cases hB0 : B.data.toList = [] ∨ ∃ B' c, B.data.toList = B' ++ [c] ∧ isDig c = false
    · obtain ⟨i, rfl⟩ : ∃ n : Nat, i = n := ⟨i.toNat, by omega⟩
      have len : ∀ (n : Int) (z : Nat), -4611686018427387904 < n → n < 4611686018427387904 → z ≤ 40 → (bs (writ n z)).size ≤ 60 := fun n z h1 h2 h3 => by
        rw [bs_size, writ_sg, List.length_append]
        have e1 : (sgL (decide (n < 0))).length ≤ 1 := by unfold sgL; split <;> simp
        have e2 : (zdg z n.natAbs).length = z + (dg n.natAbs).length := by unfold zdg; simp
        have e3 := dg_len n.natAbs (by omega)
        omega
      have lx := len a i (by omega) (by omega) (by omega)
      have ly := len b 0 (by omega) (by omega) (by omega)
      have cat : ∀ a b : ByteArray, (a ++ b).data.toList = a.data.toList ++ b.data.toList := fun a b => by simp
      have hcat : ∀ a b : ByteArray, (a ++ b).size = a.size + b.size := fun a b => by simp
      have z1 : (⟨#[45]⟩ : ByteArray).size = 1 := rfl
      have z2 : (⟨#[126]⟩ : ByteArray).size = 1 := rfl
      have wa : ∀ (n : Int) (z : Nat), 0 ≤ n → writ n z = zdg z n.natAbs := fun n z h => by rw [writ_zdg, if_neg (by omega)]; rfl
      have e1 : (a.natAbs : Int) = a := by omega
      have e2 : (b.natAbs : Int) = b := by omega
      obtain ⟨v1, v2, v3⟩ := versions_of B.data.toList hB0 a.natAbs b.natAbs i x.data.toList y.data.toList
      rw [e1, e2] at v1
      have K : ∀ s t W, s.size ≤ 1125899906842624 → t.size ≤ 1125899906842624 → Tabs W → Calls Tryd.prog 21 #[.int .u16 256, .string s, .string t] W (RetBelow W (.int .i64 (cmpVer s.data.toList t.data.toList))) := fun s t W hs ht hT => compare_ok 256 s t W hs ht hT
      refine vers_vals B x y a b i (bs (writ a i)) (bs (writ b 0)) (thenC (cmpI a b) (cmpVer (45 :: x.data.toList) (45 :: y.data.toList))) hB hx hy lx ly w T (by omega) (by omega) (by omega) (by omega) (by omega)
        (Lib.hid fun W => written_ok a ⟨by omega, by omega⟩ i (by omega) W) (Lib.hid fun W => written_ok b ⟨by omega, by omega⟩ 0 (by omega) W)
        (Lib.hid fun W hT => ?_) (Lib.hid fun q W hT => ?_) (Lib.hid fun W hT => ?_) (Lib.hid fun W hT => ?_) ?_
      · have k := K (B ++ bs (writ a i) ++ (⟨#[45]⟩ ++ x)) (B ++ bs (writ b 0) ++ (⟨#[45]⟩ ++ y)) W (by rw [hcat, hcat, hcat]; omega) (by rw [hcat, hcat, hcat]; omega) hT
        rw [cat, cat, cat, cat, cat, cat, bs_list, bs_list, wa a i (by omega), wa b 0 (by omega), List.append_assoc, List.append_assoc] at k
        rw [← v1, wa a i (by omega), wa b 0 (by omega)]
        exact k
      · have k := K (⟨#[45]⟩ ++ x) (⟨#[45]⟩ ++ y) W (by rw [hcat]; omega) (by rw [hcat]; omega) hT
        rw [cat, cat] at k
        rw [q, cmpI_is.refl, thenC_zero]
        exact k
      · have k := K B (B ++ bs (writ a i)) W (by omega) (by rw [hcat]; omega) hT
        rw [cat, bs_list, wa a i (by omega), v2] at k
        rw [wa a i (by omega)]
        exact k
      · have k := K (B ++ ⟨#[126]⟩) B W (by rw [hcat]; omega) (by omega) hT
        have e : (B ++ ⟨#[126]⟩ : ByteArray).data.toList = B.data.toList ++ [126] := cat B ⟨#[126]⟩
        rw [e, v3] at k
        exact k
      · by_cases c1 : a < b
        · refine Or.inl ⟨c1, ?_⟩
          have : cmpI a b = -1 := by unfold cmpI; rw [if_pos c1]
          rw [this]; rfl
        · by_cases c2 : b < a
          · refine Or.inr (Or.inr ⟨c2, ?_⟩)
            have : cmpI a b = 1 := by unfold cmpI; rw [if_neg c1, if_pos c2]
            rw [this]; rfl
          · exact Or.inr (Or.inl (by omega))
    · refine vers_digit B x y a b i hB (fun h => hB0 (Or.inl h)) (fun hlt => ?_) w (by omega) (by omega) (by omega) (by omega) (by omega) (by omega)
      have hl : B.data.toList.getLast? = some B[B.size - 1] := by
        rw [List.getLast?_eq_getElem?, ← Lib.size_eq, Array.getElem?_toList]
        exact Array.getElem?_eq_getElem (by exact hlt)
      obtain ⟨B', e⟩ := List.getLast?_eq_some_iff.1 hl
      cases hd : isDig B[B.size - 1] with
      | true => have := isDig_iff.1 hd; exact ⟨by omega, by omega⟩
      | false => exact absurd (Or.inr ⟨B', _, e, hd⟩) hB0
  · exact vers_out B x y a b i w h
end Go.Proofs.YtpbbgmfjdachnaaDoor
