/- NumeralWhole: the walk. -/
import Derived.Test.YtpbbgmfjdachnaaDoorAlive
import Derived.Test.YtpbbgmfjdachnaaDoorDeciS
namespace Go.Proofs.YtpbbgmfjdachnaaDoor
open Go.RowKit

set_option maxRecDepth 100000
set_option maxHeartbeats 1600000 in
theorem whole_vals (a b : Int) (i j : Nat) (X Y : ByteArray) (v : Int) (hX : X.size ≤ 60) (hY : Y.size ≤ 60) (w : World) (T : Tabs w)
    (ra : -4611686018427387904 < a ∧ a < 4611686018427387904) (rb : -4611686018427387904 < b ∧ b < 4611686018427387904) (ri : i ≤ 40) (rj : j ≤ 40)
    (W1 : Hid (∀ W, Calls Tryd.prog 15 #[.int .i64 a, .int .i64 i] W (RetBelow W (.string X))))
    (W2 : Hid (∀ W, Calls Tryd.prog 15 #[.int .i64 b, .int .i64 j] W (RetBelow W (.string Y))))
    (C1 : Hid (∀ W, Tabs W → Calls Tryd.prog 21 #[.int .u16 16, .string (X ++ ⟨#[120]⟩), .string (⟨#[32, 32]⟩ ++ Y ++ ⟨#[47]⟩)] W (RetBelow W (.int .i64 v))))
    (C2 : Hid (∀ W, Tabs W → Calls Tryd.prog 21 #[.int .u16 32, .string (⟨#[9]⟩ ++ X ++ ⟨#[120]⟩), .string (Y ++ ⟨#[47]⟩)] W (RetBelow W (.int .i64 v))))
    (C3 : Hid (∀ W, Tabs W → Calls Tryd.prog 21 #[.int .u16 64, .string (X ++ ⟨#[120]⟩), .string (⟨#[32]⟩ ++ Y ++ ⟨#[47]⟩)] W (RetBelow W (.int .i64 v))))
    (C4 : Hid (0 ≤ a → 0 ≤ b → ∀ W, Tabs W → Calls Tryd.prog 21 #[.int .u16 256, .string X, .string Y] W (RetBelow W (.int .i64 v))))
    (hv : (a < b ∧ v = -1) ∨ (a = b ∧ v = 0) ∨ (b < a ∧ v = 1)) :
    Calls Tryd.prog 6 #[.int .i64 a, .int .i64 b, .int .i64 i, .int .i64 j] w (RetBelow w (.bool true)) := by
  have HT := Lib.hid T
  clear T
  have hcat : ∀ a b : ByteArray, (a ++ b).size = a.size + b.size := fun a b => by simp
  have z1 : (⟨#[120]⟩ : ByteArray).size = 1 := rfl
  have z2 : (⟨#[47]⟩ : ByteArray).size = 1 := rfl
  have z3 : (⟨#[32, 32]⟩ : ByteArray).size = 2 := rfl
  have z4 : (⟨#[32]⟩ : ByteArray).size = 1 := rfl
  have z5 : (⟨#[9]⟩ : ByteArray).size = 1 := rfl
  have s1 : ¬ 9223372036854775807 < X.size + 1 := by omega
  have s2 : ¬ 9223372036854775807 < Y.size + 1 := by omega
  have s3 : ¬ 9223372036854775807 < 2 + Y.size := by omega
  have s4 : ¬ 9223372036854775807 < 2 + Y.size + 1 := by omega
  have s5 : ¬ 9223372036854775807 < 1 + X.size := by omega
  have s6 : ¬ 9223372036854775807 < 1 + X.size + 1 := by omega
  have s7 : ¬ 9223372036854775807 < 1 + Y.size := by omega
  have s8 : ¬ 9223372036854775807 < 1 + Y.size + 1 := by omega
  clear hX hY z1 z2 z3 z4 z5 hcat
  obtain ⟨ra1, ra2⟩ := ra
  obtain ⟨rb1, rb2⟩ := rb
  rcases hv with ⟨hc, rfl⟩ | ⟨rfl, rfl⟩ | ⟨hc, rfl⟩
  all_goals
    go_enter Tryd.func6, Tryd.ntmps6
    go_wp2_with fail
    refine (W1.out _).mono ?_
    rintro e w1 ⟨rfl, hb1⟩
    have B1 := Lib.hid hb1
    clear hb1
    go_wp2_with fail
    refine (W2.out _).mono ?_
    rintro e w2 ⟨rfl, hb2⟩
    have B2 := Lib.hid (B1.out.trans (hb2.mono B1.out.size))
    clear hb2
    go_wp2_with fail
    refine (C1.out _ (HT.out.below B2.out)).mono ?_
    rintro e w3 ⟨rfl, hb3⟩
    have B3 := Lib.hid (B2.out.trans (hb3.mono B2.out.size))
    clear hb3
    go_wp2_with fail
    refine (C2.out _ (HT.out.below B3.out)).mono ?_
    rintro e w4 ⟨rfl, hb4⟩
    have B4 := Lib.hid (B3.out.trans (hb4.mono B3.out.size))
    clear hb4
    go_wp2_with fail
    refine (C3.out _ (HT.out.below B4.out)).mono ?_
    rintro e w5 ⟨rfl, hb5⟩
    have B5 := Lib.hid (B4.out.trans (hb5.mono B4.out.size))
    clear hb5
    go_wp2_with fail
    all_goals first
      | (go_ret; exact ⟨rfl, B5.out⟩)
      | (refine (C4.out (by omega) (by omega) _ (HT.out.below B5.out)).mono ?_
         rintro e w6 ⟨rfl, hb6⟩
         have B6 := Lib.hid (B5.out.trans (hb6.mono B5.out.size))
         clear hb6
         go_wp2_with fail
         go_ret
         exact ⟨rfl, B6.out⟩)

set_option maxHeartbeats 800000 in
theorem whole_out (a b i j : Int) (w : World) (h : ¬ (¬ a ≤ -4611686018427387904 ∧ ¬ 4611686018427387904 ≤ a ∧ ¬ b ≤ -4611686018427387904 ∧ ¬ 4611686018427387904 ≤ b ∧ ¬ i < 0 ∧ ¬ 40 < i ∧ ¬ j < 0 ∧ ¬ 40 < j)) :
    Calls Tryd.prog 6 #[.int .i64 a, .int .i64 b, .int .i64 i, .int .i64 j] w (RetBelow w (.bool true)) := by
  by_cases c0 : a ≤ -4611686018427387904
  · clear h
    go_enter Tryd.func6, Tryd.ntmps6
    go_wp2_with fail
    go_ret
    exact ⟨rfl, Below.refl _ _⟩
  by_cases c1 : 4611686018427387904 ≤ a
  · clear h
    go_enter Tryd.func6, Tryd.ntmps6
    go_wp2_with fail
    go_ret
    exact ⟨rfl, Below.refl _ _⟩
  by_cases c2 : b ≤ -4611686018427387904
  · clear h
    go_enter Tryd.func6, Tryd.ntmps6
    go_wp2_with fail
    go_ret
    exact ⟨rfl, Below.refl _ _⟩
  by_cases c3 : 4611686018427387904 ≤ b
  · clear h
    go_enter Tryd.func6, Tryd.ntmps6
    go_wp2_with fail
    go_ret
    exact ⟨rfl, Below.refl _ _⟩
  by_cases c4 : i < 0
  · clear h
    go_enter Tryd.func6, Tryd.ntmps6
    go_wp2_with fail
    go_ret
    exact ⟨rfl, Below.refl _ _⟩
  by_cases c5 : 40 < i
  · clear h
    go_enter Tryd.func6, Tryd.ntmps6
    go_wp2_with fail
    go_ret
    exact ⟨rfl, Below.refl _ _⟩
  by_cases c6 : j < 0
  · clear h
    go_enter Tryd.func6, Tryd.ntmps6
    go_wp2_with fail
    go_ret
    exact ⟨rfl, Below.refl _ _⟩
  by_cases c7 : 40 < j
  · clear h
    go_enter Tryd.func6, Tryd.ntmps6
    go_wp2_with fail
    go_ret
    exact ⟨rfl, Below.refl _ _⟩
  exact absurd ⟨c0, c1, c2, c3, c4, c5, c6, c7⟩ h

theorem whole_card (a b i j : Int) (_ : -9223372036854775808 ≤ a ∧ a ≤ 9223372036854775807) (_ : -9223372036854775808 ≤ b ∧ b ≤ 9223372036854775807) (_ : -9223372036854775808 ≤ i ∧ i ≤ 9223372036854775807) (_ : -9223372036854775808 ≤ j ∧ j ≤ 9223372036854775807) (w : World) (T : Tabs w) :
    Calls Tryd.prog 6 #[.int .i64 a, .int .i64 b, .int .i64 i, .int .i64 j] w (RetBelow w (.bool true)) := by
  by_cases h : ¬ a ≤ -4611686018427387904 ∧ ¬ 4611686018427387904 ≤ a ∧ ¬ b ≤ -4611686018427387904 ∧ ¬ 4611686018427387904 ≤ b ∧ ¬ i < 0 ∧ ¬ 40 < i ∧ ¬ j < 0 ∧ ¬ 40 < j
  · obtain ⟨h1, h2, h3, h4, h5, h6, h7, h8⟩ := h
    obtain ⟨i, rfl⟩ : ∃ n : Nat, i = n := ⟨i.toNat, by omega⟩
    obtain ⟨j, rfl⟩ : ∃ n : Nat, j = n := ⟨j.toNat, by omega⟩
    have len : ∀ (n : Int) (z : Nat), -4611686018427387904 < n → n < 4611686018427387904 → z ≤ 40 → (bs (writ n z)).size ≤ 60 := fun n z h1 h2 h3 => by
      rw [bs_size, writ_sg, List.length_append]
      have e1 : (sgL (decide (n < 0))).length ≤ 1 := by unfold sgL; split <;> simp
      have e2 : (zdg z n.natAbs).length = z + (dg n.natAbs).length := by unfold zdg; simp
      have e3 := dg_len n.natAbs (by omega)
      omega
    have lx := len a i (by omega) (by omega) (by omega)
    have ly := len b j (by omega) (by omega) (by omega)
    have cat : ∀ a b : ByteArray, (a ++ b).data.toList = a.data.toList ++ b.data.toList := fun a b => by simp
    have hcat : ∀ a b : ByteArray, (a ++ b).size = a.size + b.size := fun a b => by simp
    have z1 : (⟨#[120]⟩ : ByteArray).size = 1 := rfl
    have z2 : (⟨#[47]⟩ : ByteArray).size = 1 := rfl
    have z3 : (⟨#[32, 32]⟩ : ByteArray).size = 2 := rfl
    have z4 : (⟨#[32]⟩ : ByteArray).size = 1 := rfl
    have z5 : (⟨#[9]⟩ : ByteArray).size = 1 := rfl
    refine whole_vals a b i j (bs (writ a i)) (bs (writ b j)) (cmpI a b) lx ly w T ⟨by omega, by omega⟩ ⟨by omega, by omega⟩ (by omega) (by omega)
      (Lib.hid fun W => written_ok a ⟨by omega, by omega⟩ i (by omega) W) (Lib.hid fun W => written_ok b ⟨by omega, by omega⟩ j (by omega) W)
      (Lib.hid fun W hT => ?_) (Lib.hid fun W hT => ?_) (Lib.hid fun W hT => ?_) (Lib.hid fun p q W hT => ?_) ?_
    · have e := whole_cmp 16 (by simp) [] [32, 32] (by simp) (by simp [isBlank]) a b i j
      have k := compare_ok 16 (bs (writ a i) ++ ⟨#[120]⟩) (⟨#[32, 32]⟩ ++ bs (writ b j) ++ ⟨#[47]⟩) W (by rw [hcat]; omega) (by rw [hcat, hcat]; omega) hT
      rw [cat, cat, cat, bs_list, bs_list, List.append_assoc [32, 32]] at k
      rw [← e]; exact k
    · have e := whole_cmp 32 (by simp) [9] [] (by simp [isBlank]) (by simp) a b i j
      have k := compare_ok 32 (⟨#[9]⟩ ++ bs (writ a i) ++ ⟨#[120]⟩) (bs (writ b j) ++ ⟨#[47]⟩) W (by rw [hcat, hcat]; omega) (by rw [hcat]; omega) hT
      rw [cat, cat, cat, bs_list, bs_list, List.append_assoc [9]] at k
      rw [← e]; exact k
    · have e := whole_cmp 64 (by simp) [] [32] (by simp) (by simp [isBlank]) a b i j
      have k := compare_ok 64 (bs (writ a i) ++ ⟨#[120]⟩) (⟨#[32]⟩ ++ bs (writ b j) ++ ⟨#[47]⟩) W (by rw [hcat]; omega) (by rw [hcat, hcat]; omega) hT
      rw [cat, cat, cat, bs_list, bs_list, List.append_assoc [32]] at k
      rw [← e]; exact k
    · have k := compare_ok 256 (bs (writ a i)) (bs (writ b j)) W (by omega) (by omega) hT
      have e := whole_ver a.natAbs b.natAbs i j
      have wa : ∀ (n : Int) (z : Nat), 0 ≤ n → writ n z = zdg z n.natAbs := fun n z h => by rw [writ_zdg, if_neg (by omega)]; rfl
      have e1 : (a.natAbs : Int) = a := by omega
      have e2 : (b.natAbs : Int) = b := by omega
      rw [e1, e2] at e
      rw [bs_list, bs_list, wa a i p, wa b j q] at k
      rw [wa a i p, wa b j q, ← e]
      exact k
    · unfold cmpI
      by_cases c1 : a < b
      · exact Or.inl ⟨c1, if_pos c1⟩
      · by_cases c2 : b < a
        · exact Or.inr (Or.inr ⟨c2, by rw [if_neg c1, if_pos c2]⟩)
        · exact Or.inr (Or.inl ⟨by omega, by rw [if_neg c1, if_neg c2]⟩)
  · exact whole_out a b i j w h
end Go.Proofs.YtpbbgmfjdachnaaDoor
