/- Does a byte count (Ct: 35), a text's copy (Cz: 33, 47), the text of a span (Cu: 28), Order.Filter and Order.Span (Of: 20, 16), millref5.Filter (Mi: 21). -/
import Derived.Test.YtgpcmlbmmcnkjaaGreatDoorFxA
import Derived.Test.YtgpcmlbmmcnkjaaGreatDoorSq
import Derived.Test.YtgpcmlbmmcnkjaaGreatDoorProg
import Derived.Shelf.Strconv.Clone
import Derived.Ground.Names2Prog
import Derived.Test.YtgpcmlbmmcnkjaaGreatDoorOs
import Derived.Deep.RegionHeld3
namespace Go.Proofs.YtgpcmlbmmcnkjaaGreatDoor
section
open Go.RowKit
set_option maxRecDepth 100000

theorem cnt2_bl {c : UInt8} (h : isBl c = true) : cntB 2 c = true := by
  unfold isBl at h
  rw [Bool.or_eq_true, beq_iff_eq, beq_iff_eq] at h
  rcases h with rfl | rfl <;> rfl
theorem cnt2_no {c : UInt8} (h : isBl c = false) : cntB 2 c = ((decide (48 ≤ c.toNat) && decide (c.toNat ≤ 57)) || (decide (65 ≤ c.toNat) && decide (c.toNat ≤ 90)) || (decide (97 ≤ c.toNat) && decide (c.toNat ≤ 122))) := by
  unfold isBl at h
  rw [Bool.or_eq_false_iff, beq_eq_false_iff_ne, beq_eq_false_iff_ne] at h
  have h9 : (c.toNat == 9) = false := by rw [beq_eq_false_iff_ne]; intro e; exact h.1 (UInt8.toNat_inj.1 e)
  have h32 : (c.toNat == 32) = false := by rw [beq_eq_false_iff_ne]; intro e; exact h.2 (UInt8.toNat_inj.1 e)
  unfold cntB cntN
  rw [if_pos rfl, h9, h32, Bool.false_or, Bool.false_or]
theorem has2 {m x : Nat} (hm : m < 65536) (hx : x < 65536) {b : Bool} (h : decide (m &&& x = 0) = b) (w : World) : Calls Tryz.prog 29 #[.int .u16 (m : Int), .int .i64 (x : Int)] w (RetV w (.bool (!b))) := by
  rw [← h]; exact has_ok m x hm hx w
theorem counts_0 (c : UInt8) (m : Nat) (H2 : Hid (∀ w, Calls Tryz.prog 29 #[.int .u16 (m : Int), .int .i64 2] w (RetV w (.bool false)))) (H8 : Hid (∀ w, Calls Tryz.prog 29 #[.int .u16 (m : Int), .int .i64 8] w (RetV w (.bool false)))) (w : World) : Calls Tryz.prog 35 #[.int .u8 c.toNat, .int .u16 (m : Int)] w (RetBk w (.bool true)) := by
  go_enter Tryz.func35, Tryz.ntmps35
  go_wp2_with fail
  refine (H2.out _).mono ?_
  rintro e w' ⟨rfl, rfl⟩
  go_wp2_with fail
  refine (H8.out _).mono ?_
  rintro e w' ⟨rfl, rfl⟩
  go_wp2_with fail
  go_ret
  exact ⟨rfl, Below.refl _ _⟩
theorem counts_4a (c : UInt8) (m : Nat) (H2 : Hid (∀ w, Calls Tryz.prog 29 #[.int .u16 (m : Int), .int .i64 2] w (RetV w (.bool false)))) (H8 : Hid (∀ w, Calls Tryz.prog 29 #[.int .u16 (m : Int), .int .i64 8] w (RetV w (.bool true)))) (h : c.toNat < 32) (w : World) : Calls Tryz.prog 35 #[.int .u8 c.toNat, .int .u16 (m : Int)] w (RetBk w (.bool false)) := by
  have t32 : decide ((32 : Int) ≤ (c.toNat : Int)) = false := by rw [decide_eq_false_iff_not]; omega
  clear h
  go_enter Tryz.func35, Tryz.ntmps35
  go_wp2_with fail
  refine (H2.out _).mono ?_
  rintro e w' ⟨rfl, rfl⟩
  go_wp2_with fail
  refine (H8.out _).mono ?_
  rintro e w' ⟨rfl, rfl⟩
  go_wp2_with fail
  go_ret
  exact ⟨rfl, Below.refl _ _⟩
theorem counts_4b (c : UInt8) (m : Nat) (H2 : Hid (∀ w, Calls Tryz.prog 29 #[.int .u16 (m : Int), .int .i64 2] w (RetV w (.bool false)))) (H8 : Hid (∀ w, Calls Tryz.prog 29 #[.int .u16 (m : Int), .int .i64 8] w (RetV w (.bool true)))) (h : 32 ≤ c.toNat ∧ c.toNat ≤ 126) (w : World) : Calls Tryz.prog 35 #[.int .u8 c.toNat, .int .u16 (m : Int)] w (RetBk w (.bool true)) := by
  have t32 : decide ((32 : Int) ≤ (c.toNat : Int)) = true := by rw [decide_eq_true_eq]; omega
  have t126 : decide ((c.toNat : Int) ≤ 126) = true := by rw [decide_eq_true_eq]; omega
  clear h
  go_enter Tryz.func35, Tryz.ntmps35
  go_wp2_with fail
  refine (H2.out _).mono ?_
  rintro e w' ⟨rfl, rfl⟩
  go_wp2_with fail
  refine (H8.out _).mono ?_
  rintro e w' ⟨rfl, rfl⟩
  go_wp2_with fail
  go_ret
  exact ⟨rfl, Below.refl _ _⟩
theorem counts_4c (c : UInt8) (m : Nat) (H2 : Hid (∀ w, Calls Tryz.prog 29 #[.int .u16 (m : Int), .int .i64 2] w (RetV w (.bool false)))) (H8 : Hid (∀ w, Calls Tryz.prog 29 #[.int .u16 (m : Int), .int .i64 8] w (RetV w (.bool true)))) (h : 126 < c.toNat) (w : World) : Calls Tryz.prog 35 #[.int .u8 c.toNat, .int .u16 (m : Int)] w (RetBk w (.bool false)) := by
  have t32 : decide ((32 : Int) ≤ (c.toNat : Int)) = true := by rw [decide_eq_true_eq]; omega
  have t126 : decide ((c.toNat : Int) ≤ 126) = false := by rw [decide_eq_false_iff_not]; omega
  clear h
  go_enter Tryz.func35, Tryz.ntmps35
  go_wp2_with fail
  refine (H2.out _).mono ?_
  rintro e w' ⟨rfl, rfl⟩
  go_wp2_with fail
  refine (H8.out _).mono ?_
  rintro e w' ⟨rfl, rfl⟩
  go_wp2_with fail
  go_ret
  exact ⟨rfl, Below.refl _ _⟩
theorem counts_2t (c : UInt8) (m : Nat) (H2 : Hid (∀ w, Calls Tryz.prog 29 #[.int .u16 (m : Int), .int .i64 2] w (RetV w (.bool true)))) (HB : Hid (∀ w, Calls Tryz.prog 46 #[.int .u8 c.toNat] w (RetV w (.bool true)))) (w : World) : Calls Tryz.prog 35 #[.int .u8 c.toNat, .int .u16 (m : Int)] w (RetBk w (.bool true)) := by
  go_enter Tryz.func35, Tryz.ntmps35
  go_wp2_with fail
  refine (H2.out _).mono ?_
  rintro e w' ⟨rfl, rfl⟩
  go_wp2_with fail
  refine (HB.out _).mono ?_
  rintro e w' ⟨rfl, rfl⟩
  go_wp2_with fail
  go_ret
  exact ⟨rfl, Below.refl _ _⟩
theorem counts_20 (c : UInt8) (m : Nat) (H2 : Hid (∀ w, Calls Tryz.prog 29 #[.int .u16 (m : Int), .int .i64 2] w (RetV w (.bool true)))) (HB : Hid (∀ w, Calls Tryz.prog 46 #[.int .u8 c.toNat] w (RetV w (.bool false)))) (h : c.toNat < 48) (w : World) : Calls Tryz.prog 35 #[.int .u8 c.toNat, .int .u16 (m : Int)] w (RetBk w (.bool false)) := by
  have t48 : decide ((48 : Int) ≤ (c.toNat : Int)) = false := by rw [decide_eq_false_iff_not]; omega
  have t65 : decide ((65 : Int) ≤ (c.toNat : Int)) = false := by rw [decide_eq_false_iff_not]; omega
  have t97 : decide ((97 : Int) ≤ (c.toNat : Int)) = false := by rw [decide_eq_false_iff_not]; omega
  clear h
  go_enter Tryz.func35, Tryz.ntmps35
  go_wp2_with fail
  refine (H2.out _).mono ?_
  rintro e w' ⟨rfl, rfl⟩
  go_wp2_with fail
  refine (HB.out _).mono ?_
  rintro e w' ⟨rfl, rfl⟩
  go_wp2_with fail
  go_ret
  exact ⟨rfl, Below.refl _ _⟩
theorem counts_21 (c : UInt8) (m : Nat) (H2 : Hid (∀ w, Calls Tryz.prog 29 #[.int .u16 (m : Int), .int .i64 2] w (RetV w (.bool true)))) (HB : Hid (∀ w, Calls Tryz.prog 46 #[.int .u8 c.toNat] w (RetV w (.bool false)))) (h : 48 ≤ c.toNat ∧ c.toNat ≤ 57) (w : World) : Calls Tryz.prog 35 #[.int .u8 c.toNat, .int .u16 (m : Int)] w (RetBk w (.bool true)) := by
  have t48 : decide ((48 : Int) ≤ (c.toNat : Int)) = true := by rw [decide_eq_true_eq]; omega
  have t57 : decide ((c.toNat : Int) ≤ 57) = true := by rw [decide_eq_true_eq]; omega
  clear h
  go_enter Tryz.func35, Tryz.ntmps35
  go_wp2_with fail
  refine (H2.out _).mono ?_
  rintro e w' ⟨rfl, rfl⟩
  go_wp2_with fail
  refine (HB.out _).mono ?_
  rintro e w' ⟨rfl, rfl⟩
  go_wp2_with fail
  go_ret
  exact ⟨rfl, Below.refl _ _⟩
theorem counts_22 (c : UInt8) (m : Nat) (H2 : Hid (∀ w, Calls Tryz.prog 29 #[.int .u16 (m : Int), .int .i64 2] w (RetV w (.bool true)))) (HB : Hid (∀ w, Calls Tryz.prog 46 #[.int .u8 c.toNat] w (RetV w (.bool false)))) (h : 57 < c.toNat ∧ c.toNat < 65) (w : World) : Calls Tryz.prog 35 #[.int .u8 c.toNat, .int .u16 (m : Int)] w (RetBk w (.bool false)) := by
  have t48 : decide ((48 : Int) ≤ (c.toNat : Int)) = true := by rw [decide_eq_true_eq]; omega
  have t57 : decide ((c.toNat : Int) ≤ 57) = false := by rw [decide_eq_false_iff_not]; omega
  have t65 : decide ((65 : Int) ≤ (c.toNat : Int)) = false := by rw [decide_eq_false_iff_not]; omega
  have t97 : decide ((97 : Int) ≤ (c.toNat : Int)) = false := by rw [decide_eq_false_iff_not]; omega
  clear h
  go_enter Tryz.func35, Tryz.ntmps35
  go_wp2_with fail
  refine (H2.out _).mono ?_
  rintro e w' ⟨rfl, rfl⟩
  go_wp2_with fail
  refine (HB.out _).mono ?_
  rintro e w' ⟨rfl, rfl⟩
  go_wp2_with fail
  go_ret
  exact ⟨rfl, Below.refl _ _⟩
theorem counts_23 (c : UInt8) (m : Nat) (H2 : Hid (∀ w, Calls Tryz.prog 29 #[.int .u16 (m : Int), .int .i64 2] w (RetV w (.bool true)))) (HB : Hid (∀ w, Calls Tryz.prog 46 #[.int .u8 c.toNat] w (RetV w (.bool false)))) (h : 65 ≤ c.toNat ∧ c.toNat ≤ 90) (w : World) : Calls Tryz.prog 35 #[.int .u8 c.toNat, .int .u16 (m : Int)] w (RetBk w (.bool true)) := by
  have t48 : decide ((48 : Int) ≤ (c.toNat : Int)) = true := by rw [decide_eq_true_eq]; omega
  have t57 : decide ((c.toNat : Int) ≤ 57) = false := by rw [decide_eq_false_iff_not]; omega
  have t65 : decide ((65 : Int) ≤ (c.toNat : Int)) = true := by rw [decide_eq_true_eq]; omega
  have t90 : decide ((c.toNat : Int) ≤ 90) = true := by rw [decide_eq_true_eq]; omega
  clear h
  go_enter Tryz.func35, Tryz.ntmps35
  go_wp2_with fail
  refine (H2.out _).mono ?_
  rintro e w' ⟨rfl, rfl⟩
  go_wp2_with fail
  refine (HB.out _).mono ?_
  rintro e w' ⟨rfl, rfl⟩
  go_wp2_with fail
  go_ret
  exact ⟨rfl, Below.refl _ _⟩
theorem counts_24 (c : UInt8) (m : Nat) (H2 : Hid (∀ w, Calls Tryz.prog 29 #[.int .u16 (m : Int), .int .i64 2] w (RetV w (.bool true)))) (HB : Hid (∀ w, Calls Tryz.prog 46 #[.int .u8 c.toNat] w (RetV w (.bool false)))) (h : 90 < c.toNat ∧ c.toNat < 97) (w : World) : Calls Tryz.prog 35 #[.int .u8 c.toNat, .int .u16 (m : Int)] w (RetBk w (.bool false)) := by
  have t48 : decide ((48 : Int) ≤ (c.toNat : Int)) = true := by rw [decide_eq_true_eq]; omega
  have t57 : decide ((c.toNat : Int) ≤ 57) = false := by rw [decide_eq_false_iff_not]; omega
  have t65 : decide ((65 : Int) ≤ (c.toNat : Int)) = true := by rw [decide_eq_true_eq]; omega
  have t90 : decide ((c.toNat : Int) ≤ 90) = false := by rw [decide_eq_false_iff_not]; omega
  have t97 : decide ((97 : Int) ≤ (c.toNat : Int)) = false := by rw [decide_eq_false_iff_not]; omega
  clear h
  go_enter Tryz.func35, Tryz.ntmps35
  go_wp2_with fail
  refine (H2.out _).mono ?_
  rintro e w' ⟨rfl, rfl⟩
  go_wp2_with fail
  refine (HB.out _).mono ?_
  rintro e w' ⟨rfl, rfl⟩
  go_wp2_with fail
  go_ret
  exact ⟨rfl, Below.refl _ _⟩
theorem counts_25 (c : UInt8) (m : Nat) (H2 : Hid (∀ w, Calls Tryz.prog 29 #[.int .u16 (m : Int), .int .i64 2] w (RetV w (.bool true)))) (HB : Hid (∀ w, Calls Tryz.prog 46 #[.int .u8 c.toNat] w (RetV w (.bool false)))) (h : 97 ≤ c.toNat ∧ c.toNat ≤ 122) (w : World) : Calls Tryz.prog 35 #[.int .u8 c.toNat, .int .u16 (m : Int)] w (RetBk w (.bool true)) := by
  have t48 : decide ((48 : Int) ≤ (c.toNat : Int)) = true := by rw [decide_eq_true_eq]; omega
  have t57 : decide ((c.toNat : Int) ≤ 57) = false := by rw [decide_eq_false_iff_not]; omega
  have t65 : decide ((65 : Int) ≤ (c.toNat : Int)) = true := by rw [decide_eq_true_eq]; omega
  have t90 : decide ((c.toNat : Int) ≤ 90) = false := by rw [decide_eq_false_iff_not]; omega
  have t97 : decide ((97 : Int) ≤ (c.toNat : Int)) = true := by rw [decide_eq_true_eq]; omega
  have t122 : decide ((c.toNat : Int) ≤ 122) = true := by rw [decide_eq_true_eq]; omega
  clear h
  go_enter Tryz.func35, Tryz.ntmps35
  go_wp2_with fail
  refine (H2.out _).mono ?_
  rintro e w' ⟨rfl, rfl⟩
  go_wp2_with fail
  refine (HB.out _).mono ?_
  rintro e w' ⟨rfl, rfl⟩
  go_wp2_with fail
  go_ret
  exact ⟨rfl, Below.refl _ _⟩
theorem counts_26 (c : UInt8) (m : Nat) (H2 : Hid (∀ w, Calls Tryz.prog 29 #[.int .u16 (m : Int), .int .i64 2] w (RetV w (.bool true)))) (HB : Hid (∀ w, Calls Tryz.prog 46 #[.int .u8 c.toNat] w (RetV w (.bool false)))) (h : 122 < c.toNat) (w : World) : Calls Tryz.prog 35 #[.int .u8 c.toNat, .int .u16 (m : Int)] w (RetBk w (.bool false)) := by
  have t48 : decide ((48 : Int) ≤ (c.toNat : Int)) = true := by rw [decide_eq_true_eq]; omega
  have t57 : decide ((c.toNat : Int) ≤ 57) = false := by rw [decide_eq_false_iff_not]; omega
  have t65 : decide ((65 : Int) ≤ (c.toNat : Int)) = true := by rw [decide_eq_true_eq]; omega
  have t90 : decide ((c.toNat : Int) ≤ 90) = false := by rw [decide_eq_false_iff_not]; omega
  have t97 : decide ((97 : Int) ≤ (c.toNat : Int)) = true := by rw [decide_eq_true_eq]; omega
  have t122 : decide ((c.toNat : Int) ≤ 122) = false := by rw [decide_eq_false_iff_not]; omega
  clear h
  go_enter Tryz.func35, Tryz.ntmps35
  go_wp2_with fail
  refine (H2.out _).mono ?_
  rintro e w' ⟨rfl, rfl⟩
  go_wp2_with fail
  refine (HB.out _).mono ?_
  rintro e w' ⟨rfl, rfl⟩
  go_wp2_with fail
  go_ret
  exact ⟨rfl, Below.refl _ _⟩
theorem counts_ok (c : UInt8) (m : Nat) (hm : m < 65536) (w : World) : Calls Tryz.prog 35 #[.int .u8 c.toNat, .int .u16 (m : Int)] w (RetBk w (.bool (cntB (letsS m) c))) := by
  by_cases h2 : m &&& 2 = 0
  · have H2 := Lib.hid (has2 hm (show 2 < 65536 by omega) (decide_eq_true h2))
    by_cases h8 : m &&& 8 = 0
    · have E : cntB (letsS m) c = true := by unfold letsS; rw [if_pos h2, if_pos h8]; rfl
      rw [E]
      exact counts_0 c m H2 (Lib.hid (has2 hm (show 8 < 65536 by omega) (decide_eq_true h8))) w
    · have H8 := Lib.hid (has2 hm (show 8 < 65536 by omega) (decide_eq_false h8))
      have E : cntB (letsS m) c = (decide (32 ≤ c.toNat) && decide (c.toNat ≤ 126)) := by unfold letsS; rw [if_pos h2, if_neg h8]; rfl
      rw [E]
      by_cases a : c.toNat < 32
      · rw [decide_eq_false (p := 32 ≤ c.toNat) (by omega)]
        exact counts_4a c m H2 H8 a w
      · rw [decide_eq_true (p := 32 ≤ c.toNat) (by omega)]
        by_cases b : c.toNat ≤ 126
        · rw [decide_eq_true b]
          exact counts_4b c m H2 H8 ⟨by omega, b⟩ w
        · rw [decide_eq_false b]
          exact counts_4c c m H2 H8 (by omega) w
  · have H2 := Lib.hid (has2 hm (show 2 < 65536 by omega) (decide_eq_false h2))
    have E0 : letsS m = 2 := by unfold letsS; rw [if_neg h2]
    rw [E0]
    cases hb : isBl c with
    | true =>
      rw [cnt2_bl hb]
      exact counts_2t c m H2 (Lib.hid (fun w => by have := blank_ok c w; rw [hb] at this; exact this.mono (fun e w' h => ⟨h.1, h.2⟩))) w
    | false =>
      have HB := Lib.hid (show ∀ w, Calls Tryz.prog 46 #[.int .u8 c.toNat] w (RetV w (.bool false)) from fun w => by have := blank_ok c w; rw [hb] at this; exact this.mono (fun e w' h => ⟨h.1, h.2⟩))
      rw [cnt2_no hb]
      have hcase : (c.toNat < 48) ∨ (48 ≤ c.toNat ∧ c.toNat ≤ 57) ∨ (57 < c.toNat ∧ c.toNat < 65) ∨ (65 ≤ c.toNat ∧ c.toNat ≤ 90) ∨ (90 < c.toNat ∧ c.toNat < 97) ∨ (97 ≤ c.toNat ∧ c.toNat ≤ 122) ∨ (122 < c.toNat) := by omega
      rcases hcase with h | h | h | h | h | h | h
      · have e : ((decide (48 ≤ c.toNat) && decide (c.toNat ≤ 57)) || (decide (65 ≤ c.toNat) && decide (c.toNat ≤ 90)) || (decide (97 ≤ c.toNat) && decide (c.toNat ≤ 122))) = false := by
          simp only [Bool.or_eq_false_iff, Bool.and_eq_false_iff, decide_eq_false_iff_not]; omega
        rw [e]
        exact counts_20 c m H2 HB h w
      · have e : ((decide (48 ≤ c.toNat) && decide (c.toNat ≤ 57)) || (decide (65 ≤ c.toNat) && decide (c.toNat ≤ 90)) || (decide (97 ≤ c.toNat) && decide (c.toNat ≤ 122))) = true := by
          simp only [Bool.or_eq_true, Bool.and_eq_true, decide_eq_true_eq]; omega
        rw [e]
        exact counts_21 c m H2 HB h w
      · have e : ((decide (48 ≤ c.toNat) && decide (c.toNat ≤ 57)) || (decide (65 ≤ c.toNat) && decide (c.toNat ≤ 90)) || (decide (97 ≤ c.toNat) && decide (c.toNat ≤ 122))) = false := by
          simp only [Bool.or_eq_false_iff, Bool.and_eq_false_iff, decide_eq_false_iff_not]; omega
        rw [e]
        exact counts_22 c m H2 HB h w
      · have e : ((decide (48 ≤ c.toNat) && decide (c.toNat ≤ 57)) || (decide (65 ≤ c.toNat) && decide (c.toNat ≤ 90)) || (decide (97 ≤ c.toNat) && decide (c.toNat ≤ 122))) = true := by
          simp only [Bool.or_eq_true, Bool.and_eq_true, decide_eq_true_eq]; omega
        rw [e]
        exact counts_23 c m H2 HB h w
      · have e : ((decide (48 ≤ c.toNat) && decide (c.toNat ≤ 57)) || (decide (65 ≤ c.toNat) && decide (c.toNat ≤ 90)) || (decide (97 ≤ c.toNat) && decide (c.toNat ≤ 122))) = false := by
          simp only [Bool.or_eq_false_iff, Bool.and_eq_false_iff, decide_eq_false_iff_not]; omega
        rw [e]
        exact counts_24 c m H2 HB h w
      · have e : ((decide (48 ≤ c.toNat) && decide (c.toNat ≤ 57)) || (decide (65 ≤ c.toNat) && decide (c.toNat ≤ 90)) || (decide (97 ≤ c.toNat) && decide (c.toNat ≤ 122))) = true := by
          simp only [Bool.or_eq_true, Bool.and_eq_true, decide_eq_true_eq]; omega
        rw [e]
        exact counts_25 c m H2 HB h w
      · have e : ((decide (48 ≤ c.toNat) && decide (c.toNat ≤ 57)) || (decide (65 ≤ c.toNat) && decide (c.toNat ≤ 90)) || (decide (97 ≤ c.toNat) && decide (c.toNat ≤ 122))) = false := by
          simp only [Bool.or_eq_false_iff, Bool.and_eq_false_iff, decide_eq_false_iff_not]; omega
        rw [e]
        exact counts_26 c m H2 HB h w
end
section
open Go.Shelf
end
section
open Go.RowKit
set_option maxRecDepth 100000
set_option maxHeartbeats 1600000 in
theorem cut_g (s : ByteArray) (pv : Value) (p q : Nat) (w : World) (hpq : p ≤ q) (hq : q ≤ s.size)
    (KS : Hid (∀ W, Below w.heap.size w W → Calls Tryz.prog 30 #[pv, .string s] W (RetBk W (.agg #[.int .i64 (p : Int), .int .i64 (q : Int)])))) :
    Calls Tryz.prog 28 #[pv, .string s] w (RetBk w (.string (s.extract p q))) := by
  go_enter Tryz.func28, Tryz.ntmps28
  go_wp2_with fail
  refine (KS.out _ (Below.refl _ _)).mono ?_
  rintro e w1 ⟨rfl, b1⟩
  have B := Lib.hid (b1.alloc b1.size (.cells #[.int .i64 (p : Int), .int .i64 (q : Int)] 41))
  clear KS b1
  go_wp2_with fail
  go_ret
  exact ⟨rfl, B.out⟩
end
section
open Go.RowKit
set_option maxRecDepth 100000
structure FlAt (w W : World) (gg k : Nat) (lets : Nat) (fold : Bool) : Prop where
  c7 : W.cell? ⟨gg, k + 7, none⟩ = some (.int .u8 (lets : Int))
  c8 : W.cell? ⟨gg, k + 8, none⟩ = some (.bool fold)
  lt : gg < W.heap.size
  bel : Below w.heap.size w W
theorem FlAt.step {w W W' : World} {gg k lets : Nat} {fold : Bool} (h : FlAt w W gg k lets fold) (b : Below W.heap.size W W') : FlAt w W' gg k lets fold :=
  ⟨(b.cell (p := ⟨gg, _, none⟩) h.lt).trans h.c7, (b.cell (p := ⟨gg, _, none⟩) h.lt).trans h.c8, Nat.lt_of_lt_of_le h.lt b.size, h.bel.trans (b.mono h.bel.size)⟩
end
section
open Go.RowKit
set_option maxRecDepth 100000
theorem filt_no {lets : Nat} {fold : Bool} {l : List UInt8} {i : Nat} (hi : i < l.length) (hc : cntB lets l[i] = false) : filtS lets fold (l.take (i + 1)) = filtS lets fold (l.take i) := by
  unfold filtS
  rw [List.take_succ_eq_append_getElem hi, List.filter_append, List.map_append]
  simp [hc]
theorem ex_list (s : ByteArray) (p q : Nat) : (s.extract p q).data.toList = (s.data.toList.drop p).take (q - p) := by
  rw [ByteArray.data_extract, Array.toList_extract, List.extract_eq_take_drop]
theorem ex_len (s : ByteArray) (p q : Nat) (hq : q ≤ s.size) : (s.extract p q).data.toList.length = q - p := by
  rw [ex_list, List.length_take, List.length_drop, ← Lib.size_eq]; omega
theorem ex_at (s : ByteArray) (p q j : Nat) (hj : j < (s.extract p q).data.toList.length) (hk : p + j < s.size) : (s.extract p q).data.toList[j] = s[p + j] := by
  have h := ex_list s p q
  have : (s.extract p q).data.toList[j]? = s.data.toList[p + j]? := by
    rw [h] at hj ⊢
    rw [List.length_take] at hj
    rw [List.getElem?_take_of_lt (by omega), List.getElem?_drop]
  rw [List.getElem?_eq_getElem hj, List.getElem?_eq_getElem (by rw [← Lib.size_eq]; exact hk)] at this
  injection this
def MfRel (w w2 : World) (ks : List Value) (g2 p q lets : Nat) (fold : Bool) (X : List UInt8) (o i : Value) (wr : World) : Prop :=
  ∃ j : Nat, j ≤ X.length ∧ i = .int .i64 ((p + j : Nat) : Int) ∧ OwnB wr w2.heap.size o (filtS lets fold (X.take j)) ∧ CellsAt wr w.heap.size ks ∧ CellsAt wr g2 [.int .i64 (p : Int), .int .i64 (q : Int)] ∧ Below w.heap.size w wr
set_option maxHeartbeats 6400000 in
theorem mfilter_g (s : ByteArray) (f c ef ec t : Int) (m : Nat) (b : Bool) (p q lets : Nat) (fold : Bool) (w : World) (hs : s.size ≤ 1048576) (hpq : p ≤ q) (hq : q ≤ s.size) (X : List UInt8) (hXX : X = (s.extract p q).data.toList)
    (MS : Hid (∀ W, Calls Tryz.prog 17 #[.string s, .agg #[.int .i64 f, .int .i64 c, .int .i64 ef, .int .i64 ec, .int .u16 (m : Int), .bool b], .int .i64 t] W (RetBk W (.agg #[.int .i64 (p : Int), .int .i64 (q : Int)]))))
    (CN : Hid (∀ (c : UInt8) W, Calls Tryz.prog 35 #[.int .u8 c.toNat, .int .u16 (m : Int)] W (RetBk W (.bool (cntB lets c)))))
    (H4 : Hid (∀ W, Calls Tryz.prog 29 #[.int .u16 (m : Int), .int .i64 4] W (RetV W (.bool fold)))) :
    Calls Tryz.prog 21 #[.string s, .agg #[.int .i64 f, .int .i64 c, .int .i64 ef, .int .i64 ec, .int .u16 (m : Int), .bool b], .int .i64 t] w (RetBk w (.string (bs (filtS lets fold X)))) := by
  have XL := Lib.hid (show X.length = q - p by rw [hXX]; exact ex_len s p q hq)
  have XA := Lib.hid (show ∀ j (h : j < X.length) (h2 : p + j < s.size), X[j] = s[p + j] from fun j h h2 => by subst hXX; exact ex_at s p q j h h2)
  clear hXX
  obtain ⟨ks, hks⟩ : ∃ ks : List Value, ks = [.int .i64 f, .int .i64 c, .int .i64 ef, .int .i64 ec, .int .u16 (m : Int), .bool b] := ⟨_, rfl⟩
  have A0 := Lib.hid (CellsAt.new w ks 35)
  have B0 := Lib.hid ((Below.refl w.heap.size w).alloc (Nat.le_refl _) (Obj.cells ks.toArray 35))
  have HK := Lib.hid hks
  have a0 := A0.out.cell 0 (.int .i64 f) (by rw [hks]; rfl)
  have a1 := A0.out.cell 1 (.int .i64 c) (by rw [hks]; rfl)
  have a2 := A0.out.cell 2 (.int .i64 ef) (by rw [hks]; rfl)
  have a3 := A0.out.cell 3 (.int .i64 ec) (by rw [hks]; rfl)
  have a4 := A0.out.cell 4 (.int .u16 (m : Int)) (by rw [hks]; rfl)
  have a5 := A0.out.cell 5 (.bool b) (by rw [hks]; rfl)
  rw [hks] at a0 a1 a2 a3 a4 a5 A0 B0
  go_enter Tryz.func21, Tryz.ntmps21
  clear HK
  subst hks
  go_upto_region 1 with fail
  generalize hX : w.alloc (Obj.cells #[.int .i64 f, .int .i64 c, .int .i64 ef, .int .i64 ec, .int .u16 (m : Int), .bool b] 35) = x at *
  have A1 := Lib.hid (show CellsAt x w.heap.size [.int .i64 f, .int .i64 c, .int .i64 ef, .int .i64 ec, .int .u16 (m : Int), .bool b] by rw [← hX]; exact CellsAt.new w _ 35)
  have B1 := Lib.hid (show Below w.heap.size w x by rw [← hX]; exact (Below.refl _ _).alloc (Nat.le_refl _) _)
  clear hX A0 B0
  go_wp2_with fail
  refine (MS.out _).mono ?_
  rintro e w1 ⟨rfl, b1⟩
  have A2 := Lib.hid ((A1.out.step b1).step ((Below.refl w1.heap.size w1).alloc (Nat.le_refl _) (.cells #[.int .i64 (p : Int), .int .i64 (q : Int)] 41)))
  have B2 := Lib.hid ((B1.out.trans (b1.mono B1.out.size)).alloc (Nat.le_trans B1.out.size b1.size) (.cells #[.int .i64 (p : Int), .int .i64 (q : Int)] 41))
  have S2 := Lib.hid (CellsAt.new w1 [.int .i64 (p : Int), .int .i64 (q : Int)] 41)
  have G2 := Lib.hid (show w.heap.size < w1.heap.size from Nat.lt_of_lt_of_le A1.out.lt b1.size)
  clear a0 a1 a2 a3 a4 a5 A1 B1 b1 MS
  go_upto_region 3 with fail
  generalize hX : w1.alloc (Obj.cells #[.int .i64 (p : Int), .int .i64 (q : Int)] 41) = w2 at *
  have L2 := Lib.hid (show w1.heap.size < w2.heap.size from S2.out.lt)
  clear hX
  generalize w1.heap.size = g2 at *
  have r0 := S2.out.cell 0 _ rfl
  have N0 : OwnB w2 w2.heap.size (.slice none 0 0) [] := OwnB.nil w2
  have R0 : MfRel w w2 [.int .i64 f, .int .i64 c, .int .i64 ef, .int .i64 ec, .int .u16 (m : Int), .bool b] g2 p q lets fold X (.slice none 0 0) (.int .i64 (p : Int)) w2 :=
    ⟨0, Nat.zero_le _, rfl, N0, A2.out, S2.out, B2.out⟩
  have HR := Lib.hid R0
  clear R0 N0 A2 S2 B2
  go_wp2_with fail
  clear r0
  go_loopw [8, 9] (fun o i wr => MfRel w w2 [.int .i64 f, .int .i64 c, .int .i64 ef, .int .i64 ec, .int .u16 (m : Int), .bool b] g2 p q lets fold X o i wr) (fun _ i _ => q - (intOf i).toNat)
  case atStart => exact HR.out
  case round =>
    obtain ⟨j, hj, rfl, ho, ha, hS, hb⟩ := hrel
    have s0 := hS.cell 0 _ rfl
    have s1 := hS.cell 1 _ rfl
    have a4 := ha.cell 4 _ rfl
    have HA := Lib.hid ha
    have HS := Lib.hid hS
    have HB := Lib.hid hb
    have HO := Lib.hid ho
    clear ha hb hS ho HR
    by_cases hlt : j < X.length
    · have hk : p + j < s.size := by have := XL.out; omega
      have t0 : decide (p + j < q) = true := by rw [decide_eq_true_eq]; have := XL.out; omega
      have E1 := XA.out j hlt hk
      have E0 : wrap64 (((p + j : Nat) : Int) + 1) = ((p + (j + 1) : Nat) : Int) := by unfold wrap64; omega
      have FL := filt_len lets fold (X.take j)
      have FL1 := Lib.hid (show (filtS lets fold (X.take j)).length + 1 ≤ 140737488355328 by rw [List.length_take] at FL; omega)
      have EQ := Lib.hid (show q - (p + (j + 1)) < q - (p + j) by have := XL.out; omega)
      have e2 : ∀ m : Nat, (intOf (.int .i64 (m : Int))).toNat = m := fun m => by show ((m : Int)).toNat = m; exact Int.toNat_natCast m
      clear FL
      generalize hk1 : p + j = k at *
      generalize hk2 : p + (j + 1) = k1 at *
      have e5 : (k : Int) + 1 = (k1 : Int) := by omega
      go_wp2_with fail
      refine (CN.out (s[k]'hk) _).mono ?_
      rintro e w3 ⟨rfl, b3⟩
      have A3 := Lib.hid (HA.out.step b3)
      have S3 := Lib.hid (HS.out.step b3)
      have B3 := Lib.hid (HB.out.trans (b3.mono HB.out.size))
      have O3 := Lib.hid (HO.out.below b3)
      have r4 := A3.out.cell 4 _ rfl
      clear a4 s0 s1 HA HS HB HO b3
      cases hc : cntB lets s[k] with
      | false =>
        have F1 := Lib.hid (filt_no (fold := fold) hlt (by rw [E1]; exact hc))
        go_wp2_with fail
        refine ⟨⟨j + 1, hlt, by rw [hk2], by rw [F1.out]; exact O3.out, A3.out, S3.out, B3.out⟩, ?_⟩
        rw [e2, e2]
        exact EQ.out
      | true =>
        have F1 := Lib.hid (filt_one (fold := fold) hlt (by rw [E1]; exact hc))
        rw [E1] at F1
        go_wp2_with fail
        refine (H4.out _).mono ?_
        rintro e w4 ⟨rfl, rfl⟩
        have HT : ∀ (c2 : UInt8) (v : Value) (w5 : World), c2 = turnB fold s[k] → OwnB w5 w2.heap.size v (filtS lets fold (X.take j) ++ [c2]) → Below w2.heap.size w3 w5 → MfRel w w2 [.int .i64 f, .int .i64 c, .int .i64 ef, .int .i64 ec, .int .u16 (m : Int), .bool b] g2 p q lets fold X v (.int .i64 (k1 : Int)) w5 := by
          intro c2 v w5 hc2 ho hb
          refine ⟨j + 1, hlt, by rw [hk2], by rw [F1.out, ← hc2]; exact ho, A3.out.keep hb (Nat.lt_trans G2.out L2.out), S3.out.keep hb L2.out, B3.out.trans (hb.mono (Nat.le_of_lt (Nat.lt_trans G2.out L2.out)))⟩
        have HH := Lib.hid HT
        clear HT A3 S3 B3 F1
        have hcl := (s[k]).toNat_lt
        cases fold with
        | false =>
          go_wp2_with (first | (at_builtin; refine wp_app rfl _ _ rfl w2.heap.size u8 _ rfl O3.out [s[k]] _ rfl rfl (by have := FL1.out; simp only [List.length_singleton]; omega) ?_))
          intro v5 w5 ho hb _
          go_wp2_with fail
          refine ⟨HH.out (s[k]) v5 w5 rfl ho hb, ?_⟩
          rw [e2, e2]
          exact EQ.out
        | true =>
          by_cases h1 : 97 ≤ (s[k]).toNat
          · have t97 : decide ((97 : Int) ≤ ((s[k]).toNat : Int)) = true := by rw [decide_eq_true_eq]; omega
            by_cases h2 : (s[k]).toNat ≤ 122
            · have t122 : decide (((s[k]).toNat : Int) ≤ 122) = true := by rw [decide_eq_true_eq]; omega
              have T := Lib.hid (show UInt8.ofNat ((s[k]).toNat - 32) = turnB true s[k] by unfold turnB; rw [if_pos ⟨rfl, h1, h2⟩])
              have W1 : IntKind.u8.wrap (((s[k]).toNat : Int) - 32) = ((UInt8.ofNat ((s[k]).toNat - 32)).toNat : Int) := by rw [UInt8.toNat_ofNat']; simp [IntKind.wrap, IntKind.bits, IntKind.signed]; omega
              clear h1 h2
              generalize UInt8.ofNat ((s[k]).toNat - 32) = c2 at *
              go_wp2_with (first | (at_builtin; refine wp_app rfl _ _ rfl w2.heap.size u8 _ rfl O3.out [c2] _ rfl rfl (by have := FL1.out; simp only [List.length_singleton]; omega) ?_))
              intro v5 w5 ho hb _
              go_wp2_with fail
              refine ⟨HH.out (c2) v5 w5 T.out ho hb, ?_⟩
              rw [e2, e2]
              exact EQ.out
            · have t122 : decide (((s[k]).toNat : Int) ≤ 122) = false := by rw [decide_eq_false_iff_not]; omega
              have T := Lib.hid (show s[k] = turnB true s[k] by unfold turnB; rw [if_neg (fun q => h2 q.2.2)])
              clear h1 h2
              go_wp2_with (first | (at_builtin; refine wp_app rfl _ _ rfl w2.heap.size u8 _ rfl O3.out [s[k]] _ rfl rfl (by have := FL1.out; simp only [List.length_singleton]; omega) ?_))
              intro v5 w5 ho hb _
              go_wp2_with fail
              refine ⟨HH.out (s[k]) v5 w5 T.out ho hb, ?_⟩
              rw [e2, e2]
              exact EQ.out
          · have t97 : decide ((97 : Int) ≤ ((s[k]).toNat : Int)) = false := by rw [decide_eq_false_iff_not]; omega
            have T := Lib.hid (show s[k] = turnB true s[k] by unfold turnB; rw [if_neg (fun q => h1 q.2.1)])
            clear h1
            go_wp2_with (first | (at_builtin; refine wp_app rfl _ _ rfl w2.heap.size u8 _ rfl O3.out [s[k]] _ rfl rfl (by have := FL1.out; simp only [List.length_singleton]; omega) ?_))
            intro v5 w5 ho hb _
            go_wp2_with fail
            refine ⟨HH.out (s[k]) v5 w5 T.out ho hb, ?_⟩
            rw [e2, e2]
            exact EQ.out
    · have hjj : j = X.length := by omega
      have t0 : decide (p + j < q) = false := by rw [decide_eq_false_iff_not]; have := XL.out; omega
      have hcv := HO.out.conv
      rw [hjj, List.take_length] at hcv
      clear hjj
      generalize p + j = k at *
      generalize hF : bs (filtS lets fold X) = F at *
      clear hF
      go_wp2_with fail
      go_ret
      exact ⟨rfl, HB.out⟩
end
end Go.Proofs.YtgpcmlbmmcnkjaaGreatDoor
