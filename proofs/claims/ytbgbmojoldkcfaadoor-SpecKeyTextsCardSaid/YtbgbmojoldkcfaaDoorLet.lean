/- Letters, the document's. -/
import Derived.Test.YtbgbmojoldkcfaaDoorDec
namespace Go.Proofs.YtbgbmojoldkcfaaDoor
open Go.RowKit

def letP (m k : Nat) : List UInt8 := (abc.take k).filter fun c => m &&& bitS c != 0
theorem letP_10 (m : Nat) : letP m 10 = letS m := rfl
theorem letP_len (m k : Nat) (h : k ≤ 10) : (bsk (letP m k)).size ≤ 10 := by
  rw [bsk_size]
  unfold letP
  have := List.length_filter_le (fun c => m &&& bitS c != 0) (abc.take k)
  have := List.length_take_le k abc
  omega
theorem letP_on (m k : Nat) (c : UInt8) (h : abc[k]? = some c) : letP m (k + 1) = letP m k ++ (if m &&& bitS c = 0 then [] else [c]) := by
  unfold letP
  rw [List.take_add_one, h, List.filter_append]
  by_cases hb : m &&& bitS c = 0
  · rw [if_pos hb]; simp [hb]
  · rw [if_neg hb]; simp [hb]
set_option maxRecDepth 100000
set_option maxHeartbeats 6400000 in
theorem letters_ok (m : Nat) (hm : m < 65536) (w : World) : Calls Tryd.prog 45 #[.int .u16 (m : Int)] w (fun e w' => e = .returned (.string (bsk (letS m))) ∧ w = w') := by
  go_enter Tryd.func45, Tryd.ntmps45
  go_wp2_with fail
  go_loop [3, 4] (fun s i => ∃ k : Nat, k ≤ 10 ∧ i = .int .i64 k ∧ s = .string (bsk (letP m k))) (fun _ i => 10 - (intOf i).toNat)
  case atStart => exact ⟨0, by omega, rfl, rfl⟩
  case round =>
    obtain ⟨k, hk, rfl, rfl⟩ := hrel
    have hlen := letP_len m k hk
    by_cases h10 : k = 10
    · subst h10
      rw [letP_10]
      go_wp2_with fail
      go_ret
      exact ⟨rfl, rfl⟩
    · obtain rfl | rfl | rfl | rfl | rfl | rfl | rfl | rfl | rfl | rfl : k = 0 ∨ k = 1 ∨ k = 2 ∨ k = 3 ∨ k = 4 ∨ k = 5 ∨ k = 6 ∨ k = 7 ∨ k = 8 ∨ k = 9 := by omega
      · have HON := letP_on m 0 98 rfl
        rw [show bitS 98 = 1 from rfl] at HON
        have a1 : bits BinOp.and IntKind.u16 (m : Int) 1 = ((m &&& 1 : Nat) : Int) := and_nat m 1 hm (by omega)
        have BC := Lib.hid (fun w => show Calls Tryd.prog 25 #[.int .u8 98] w (RetV w (.int .u16 1)) from bit_ok 98 w)
        generalize m &&& 1 = d at *
        by_cases hb : d = 0
        · rw [if_pos hb, List.append_nil] at HON
          have t2 : ((d : Int) != 0) = false := by rw [hb]; rfl
          have t3 : ((d : Int) == 0) = true := by rw [hb]; rfl
          have H := Lib.hid HON
          clear HON hb
          go_wp2_with (go_at_call 25; refine (BC.out _).mono ?_; rintro e w' ⟨rfl, rfl⟩)
          go_round
          case rel => exact ⟨1, by omega, rfl, by rw [H.out]⟩
          case measure => simp [intOf]
        · rw [if_neg hb] at HON
          have t2 : ((d : Int) != 0) = true := by rw [bne_iff_ne]; omega
          have t3 : ((d : Int) == 0) = false := by rw [beq_eq_false_iff_ne]; omega
          have H := Lib.hid HON
          clear HON hb
          have hex : (ByteArray.mk #[98, 100, 102, 103, 104, 105, 77, 110, 114, 86]).extract 0 1 = bsk [98] := rfl
          have hsz : ¬ 9223372036854775807 < (bsk (letP m 0)).size + (bsk [98]).size := by rw [bsk_size [98]]; simp; omega
          have BA := Lib.hid (bsk_app (letP m 0) [98])
          go_wp2_with (go_at_call 25; refine (BC.out _).mono ?_; rintro e w' ⟨rfl, rfl⟩)
          go_round
          case rel => exact ⟨1, by omega, rfl, by rw [H.out, ← BA.out]⟩
          case measure => simp [intOf]
      · have HON := letP_on m 1 100 rfl
        rw [show bitS 100 = 2 from rfl] at HON
        have a1 : bits BinOp.and IntKind.u16 (m : Int) 2 = ((m &&& 2 : Nat) : Int) := and_nat m 2 hm (by omega)
        have BC := Lib.hid (fun w => show Calls Tryd.prog 25 #[.int .u8 100] w (RetV w (.int .u16 2)) from bit_ok 100 w)
        generalize m &&& 2 = d at *
        by_cases hb : d = 0
        · rw [if_pos hb, List.append_nil] at HON
          have t2 : ((d : Int) != 0) = false := by rw [hb]; rfl
          have t3 : ((d : Int) == 0) = true := by rw [hb]; rfl
          have H := Lib.hid HON
          clear HON hb
          go_wp2_with (go_at_call 25; refine (BC.out _).mono ?_; rintro e w' ⟨rfl, rfl⟩)
          go_round
          case rel => exact ⟨2, by omega, rfl, by rw [H.out]⟩
          case measure => simp [intOf]
        · rw [if_neg hb] at HON
          have t2 : ((d : Int) != 0) = true := by rw [bne_iff_ne]; omega
          have t3 : ((d : Int) == 0) = false := by rw [beq_eq_false_iff_ne]; omega
          have H := Lib.hid HON
          clear HON hb
          have hex : (ByteArray.mk #[98, 100, 102, 103, 104, 105, 77, 110, 114, 86]).extract 1 2 = bsk [100] := rfl
          have hsz : ¬ 9223372036854775807 < (bsk (letP m 1)).size + (bsk [100]).size := by rw [bsk_size [100]]; simp; omega
          have BA := Lib.hid (bsk_app (letP m 1) [100])
          go_wp2_with (go_at_call 25; refine (BC.out _).mono ?_; rintro e w' ⟨rfl, rfl⟩)
          go_round
          case rel => exact ⟨2, by omega, rfl, by rw [H.out, ← BA.out]⟩
          case measure => simp [intOf]
      · have HON := letP_on m 2 102 rfl
        rw [show bitS 102 = 4 from rfl] at HON
        have a1 : bits BinOp.and IntKind.u16 (m : Int) 4 = ((m &&& 4 : Nat) : Int) := and_nat m 4 hm (by omega)
        have BC := Lib.hid (fun w => show Calls Tryd.prog 25 #[.int .u8 102] w (RetV w (.int .u16 4)) from bit_ok 102 w)
        generalize m &&& 4 = d at *
        by_cases hb : d = 0
        · rw [if_pos hb, List.append_nil] at HON
          have t2 : ((d : Int) != 0) = false := by rw [hb]; rfl
          have t3 : ((d : Int) == 0) = true := by rw [hb]; rfl
          have H := Lib.hid HON
          clear HON hb
          go_wp2_with (go_at_call 25; refine (BC.out _).mono ?_; rintro e w' ⟨rfl, rfl⟩)
          go_round
          case rel => exact ⟨3, by omega, rfl, by rw [H.out]⟩
          case measure => simp [intOf]
        · rw [if_neg hb] at HON
          have t2 : ((d : Int) != 0) = true := by rw [bne_iff_ne]; omega
          have t3 : ((d : Int) == 0) = false := by rw [beq_eq_false_iff_ne]; omega
          have H := Lib.hid HON
          clear HON hb
          have hex : (ByteArray.mk #[98, 100, 102, 103, 104, 105, 77, 110, 114, 86]).extract 2 3 = bsk [102] := rfl
          have hsz : ¬ 9223372036854775807 < (bsk (letP m 2)).size + (bsk [102]).size := by rw [bsk_size [102]]; simp; omega
          have BA := Lib.hid (bsk_app (letP m 2) [102])
          go_wp2_with (go_at_call 25; refine (BC.out _).mono ?_; rintro e w' ⟨rfl, rfl⟩)
          go_round
          case rel => exact ⟨3, by omega, rfl, by rw [H.out, ← BA.out]⟩
          case measure => simp [intOf]
      · have HON := letP_on m 3 103 rfl
        rw [show bitS 103 = 32 from rfl] at HON
        have a1 : bits BinOp.and IntKind.u16 (m : Int) 32 = ((m &&& 32 : Nat) : Int) := and_nat m 32 hm (by omega)
        have BC := Lib.hid (fun w => show Calls Tryd.prog 25 #[.int .u8 103] w (RetV w (.int .u16 32)) from bit_ok 103 w)
        generalize m &&& 32 = d at *
        by_cases hb : d = 0
        · rw [if_pos hb, List.append_nil] at HON
          have t2 : ((d : Int) != 0) = false := by rw [hb]; rfl
          have t3 : ((d : Int) == 0) = true := by rw [hb]; rfl
          have H := Lib.hid HON
          clear HON hb
          go_wp2_with (go_at_call 25; refine (BC.out _).mono ?_; rintro e w' ⟨rfl, rfl⟩)
          go_round
          case rel => exact ⟨4, by omega, rfl, by rw [H.out]⟩
          case measure => simp [intOf]
        · rw [if_neg hb] at HON
          have t2 : ((d : Int) != 0) = true := by rw [bne_iff_ne]; omega
          have t3 : ((d : Int) == 0) = false := by rw [beq_eq_false_iff_ne]; omega
          have H := Lib.hid HON
          clear HON hb
          have hex : (ByteArray.mk #[98, 100, 102, 103, 104, 105, 77, 110, 114, 86]).extract 3 4 = bsk [103] := rfl
          have hsz : ¬ 9223372036854775807 < (bsk (letP m 3)).size + (bsk [103]).size := by rw [bsk_size [103]]; simp; omega
          have BA := Lib.hid (bsk_app (letP m 3) [103])
          go_wp2_with (go_at_call 25; refine (BC.out _).mono ?_; rintro e w' ⟨rfl, rfl⟩)
          go_round
          case rel => exact ⟨4, by omega, rfl, by rw [H.out, ← BA.out]⟩
          case measure => simp [intOf]
      · have HON := letP_on m 4 104 rfl
        rw [show bitS 104 = 64 from rfl] at HON
        have a1 : bits BinOp.and IntKind.u16 (m : Int) 64 = ((m &&& 64 : Nat) : Int) := and_nat m 64 hm (by omega)
        have BC := Lib.hid (fun w => show Calls Tryd.prog 25 #[.int .u8 104] w (RetV w (.int .u16 64)) from bit_ok 104 w)
        generalize m &&& 64 = d at *
        by_cases hb : d = 0
        · rw [if_pos hb, List.append_nil] at HON
          have t2 : ((d : Int) != 0) = false := by rw [hb]; rfl
          have t3 : ((d : Int) == 0) = true := by rw [hb]; rfl
          have H := Lib.hid HON
          clear HON hb
          go_wp2_with (go_at_call 25; refine (BC.out _).mono ?_; rintro e w' ⟨rfl, rfl⟩)
          go_round
          case rel => exact ⟨5, by omega, rfl, by rw [H.out]⟩
          case measure => simp [intOf]
        · rw [if_neg hb] at HON
          have t2 : ((d : Int) != 0) = true := by rw [bne_iff_ne]; omega
          have t3 : ((d : Int) == 0) = false := by rw [beq_eq_false_iff_ne]; omega
          have H := Lib.hid HON
          clear HON hb
          have hex : (ByteArray.mk #[98, 100, 102, 103, 104, 105, 77, 110, 114, 86]).extract 4 5 = bsk [104] := rfl
          have hsz : ¬ 9223372036854775807 < (bsk (letP m 4)).size + (bsk [104]).size := by rw [bsk_size [104]]; simp; omega
          have BA := Lib.hid (bsk_app (letP m 4) [104])
          go_wp2_with (go_at_call 25; refine (BC.out _).mono ?_; rintro e w' ⟨rfl, rfl⟩)
          go_round
          case rel => exact ⟨5, by omega, rfl, by rw [H.out, ← BA.out]⟩
          case measure => simp [intOf]
      · have HON := letP_on m 5 105 rfl
        rw [show bitS 105 = 8 from rfl] at HON
        have a1 : bits BinOp.and IntKind.u16 (m : Int) 8 = ((m &&& 8 : Nat) : Int) := and_nat m 8 hm (by omega)
        have BC := Lib.hid (fun w => show Calls Tryd.prog 25 #[.int .u8 105] w (RetV w (.int .u16 8)) from bit_ok 105 w)
        generalize m &&& 8 = d at *
        by_cases hb : d = 0
        · rw [if_pos hb, List.append_nil] at HON
          have t2 : ((d : Int) != 0) = false := by rw [hb]; rfl
          have t3 : ((d : Int) == 0) = true := by rw [hb]; rfl
          have H := Lib.hid HON
          clear HON hb
          go_wp2_with (go_at_call 25; refine (BC.out _).mono ?_; rintro e w' ⟨rfl, rfl⟩)
          go_round
          case rel => exact ⟨6, by omega, rfl, by rw [H.out]⟩
          case measure => simp [intOf]
        · rw [if_neg hb] at HON
          have t2 : ((d : Int) != 0) = true := by rw [bne_iff_ne]; omega
          have t3 : ((d : Int) == 0) = false := by rw [beq_eq_false_iff_ne]; omega
          have H := Lib.hid HON
          clear HON hb
          have hex : (ByteArray.mk #[98, 100, 102, 103, 104, 105, 77, 110, 114, 86]).extract 5 6 = bsk [105] := rfl
          have hsz : ¬ 9223372036854775807 < (bsk (letP m 5)).size + (bsk [105]).size := by rw [bsk_size [105]]; simp; omega
          have BA := Lib.hid (bsk_app (letP m 5) [105])
          go_wp2_with (go_at_call 25; refine (BC.out _).mono ?_; rintro e w' ⟨rfl, rfl⟩)
          go_round
          case rel => exact ⟨6, by omega, rfl, by rw [H.out, ← BA.out]⟩
          case measure => simp [intOf]
      · have HON := letP_on m 6 77 rfl
        rw [show bitS 77 = 128 from rfl] at HON
        have a1 : bits BinOp.and IntKind.u16 (m : Int) 128 = ((m &&& 128 : Nat) : Int) := and_nat m 128 hm (by omega)
        have BC := Lib.hid (fun w => show Calls Tryd.prog 25 #[.int .u8 77] w (RetV w (.int .u16 128)) from bit_ok 77 w)
        generalize m &&& 128 = d at *
        by_cases hb : d = 0
        · rw [if_pos hb, List.append_nil] at HON
          have t2 : ((d : Int) != 0) = false := by rw [hb]; rfl
          have t3 : ((d : Int) == 0) = true := by rw [hb]; rfl
          have H := Lib.hid HON
          clear HON hb
          go_wp2_with (go_at_call 25; refine (BC.out _).mono ?_; rintro e w' ⟨rfl, rfl⟩)
          go_round
          case rel => exact ⟨7, by omega, rfl, by rw [H.out]⟩
          case measure => simp [intOf]
        · rw [if_neg hb] at HON
          have t2 : ((d : Int) != 0) = true := by rw [bne_iff_ne]; omega
          have t3 : ((d : Int) == 0) = false := by rw [beq_eq_false_iff_ne]; omega
          have H := Lib.hid HON
          clear HON hb
          have hex : (ByteArray.mk #[98, 100, 102, 103, 104, 105, 77, 110, 114, 86]).extract 6 7 = bsk [77] := rfl
          have hsz : ¬ 9223372036854775807 < (bsk (letP m 6)).size + (bsk [77]).size := by rw [bsk_size [77]]; simp; omega
          have BA := Lib.hid (bsk_app (letP m 6) [77])
          go_wp2_with (go_at_call 25; refine (BC.out _).mono ?_; rintro e w' ⟨rfl, rfl⟩)
          go_round
          case rel => exact ⟨7, by omega, rfl, by rw [H.out, ← BA.out]⟩
          case measure => simp [intOf]
      · have HON := letP_on m 7 110 rfl
        rw [show bitS 110 = 16 from rfl] at HON
        have a1 : bits BinOp.and IntKind.u16 (m : Int) 16 = ((m &&& 16 : Nat) : Int) := and_nat m 16 hm (by omega)
        have BC := Lib.hid (fun w => show Calls Tryd.prog 25 #[.int .u8 110] w (RetV w (.int .u16 16)) from bit_ok 110 w)
        generalize m &&& 16 = d at *
        by_cases hb : d = 0
        · rw [if_pos hb, List.append_nil] at HON
          have t2 : ((d : Int) != 0) = false := by rw [hb]; rfl
          have t3 : ((d : Int) == 0) = true := by rw [hb]; rfl
          have H := Lib.hid HON
          clear HON hb
          go_wp2_with (go_at_call 25; refine (BC.out _).mono ?_; rintro e w' ⟨rfl, rfl⟩)
          go_round
          case rel => exact ⟨8, by omega, rfl, by rw [H.out]⟩
          case measure => simp [intOf]
        · rw [if_neg hb] at HON
          have t2 : ((d : Int) != 0) = true := by rw [bne_iff_ne]; omega
          have t3 : ((d : Int) == 0) = false := by rw [beq_eq_false_iff_ne]; omega
          have H := Lib.hid HON
          clear HON hb
          have hex : (ByteArray.mk #[98, 100, 102, 103, 104, 105, 77, 110, 114, 86]).extract 7 8 = bsk [110] := rfl
          have hsz : ¬ 9223372036854775807 < (bsk (letP m 7)).size + (bsk [110]).size := by rw [bsk_size [110]]; simp; omega
          have BA := Lib.hid (bsk_app (letP m 7) [110])
          go_wp2_with (go_at_call 25; refine (BC.out _).mono ?_; rintro e w' ⟨rfl, rfl⟩)
          go_round
          case rel => exact ⟨8, by omega, rfl, by rw [H.out, ← BA.out]⟩
          case measure => simp [intOf]
      · have HON := letP_on m 8 114 rfl
        rw [show bitS 114 = 512 from rfl] at HON
        have a1 : bits BinOp.and IntKind.u16 (m : Int) 512 = ((m &&& 512 : Nat) : Int) := and_nat m 512 hm (by omega)
        have BC := Lib.hid (fun w => show Calls Tryd.prog 25 #[.int .u8 114] w (RetV w (.int .u16 512)) from bit_ok 114 w)
        generalize m &&& 512 = d at *
        by_cases hb : d = 0
        · rw [if_pos hb, List.append_nil] at HON
          have t2 : ((d : Int) != 0) = false := by rw [hb]; rfl
          have t3 : ((d : Int) == 0) = true := by rw [hb]; rfl
          have H := Lib.hid HON
          clear HON hb
          go_wp2_with (go_at_call 25; refine (BC.out _).mono ?_; rintro e w' ⟨rfl, rfl⟩)
          go_round
          case rel => exact ⟨9, by omega, rfl, by rw [H.out]⟩
          case measure => simp [intOf]
        · rw [if_neg hb] at HON
          have t2 : ((d : Int) != 0) = true := by rw [bne_iff_ne]; omega
          have t3 : ((d : Int) == 0) = false := by rw [beq_eq_false_iff_ne]; omega
          have H := Lib.hid HON
          clear HON hb
          have hex : (ByteArray.mk #[98, 100, 102, 103, 104, 105, 77, 110, 114, 86]).extract 8 9 = bsk [114] := rfl
          have hsz : ¬ 9223372036854775807 < (bsk (letP m 8)).size + (bsk [114]).size := by rw [bsk_size [114]]; simp; omega
          have BA := Lib.hid (bsk_app (letP m 8) [114])
          go_wp2_with (go_at_call 25; refine (BC.out _).mono ?_; rintro e w' ⟨rfl, rfl⟩)
          go_round
          case rel => exact ⟨9, by omega, rfl, by rw [H.out, ← BA.out]⟩
          case measure => simp [intOf]
      · have HON := letP_on m 9 86 rfl
        rw [show bitS 86 = 256 from rfl] at HON
        have a1 : bits BinOp.and IntKind.u16 (m : Int) 256 = ((m &&& 256 : Nat) : Int) := and_nat m 256 hm (by omega)
        have BC := Lib.hid (fun w => show Calls Tryd.prog 25 #[.int .u8 86] w (RetV w (.int .u16 256)) from bit_ok 86 w)
        generalize m &&& 256 = d at *
        by_cases hb : d = 0
        · rw [if_pos hb, List.append_nil] at HON
          have t2 : ((d : Int) != 0) = false := by rw [hb]; rfl
          have t3 : ((d : Int) == 0) = true := by rw [hb]; rfl
          have H := Lib.hid HON
          clear HON hb
          go_wp2_with (go_at_call 25; refine (BC.out _).mono ?_; rintro e w' ⟨rfl, rfl⟩)
          go_round
          case rel => exact ⟨10, by omega, rfl, by rw [H.out]⟩
          case measure => simp [intOf]
        · rw [if_neg hb] at HON
          have t2 : ((d : Int) != 0) = true := by rw [bne_iff_ne]; omega
          have t3 : ((d : Int) == 0) = false := by rw [beq_eq_false_iff_ne]; omega
          have H := Lib.hid HON
          clear HON hb
          have hex : (ByteArray.mk #[98, 100, 102, 103, 104, 105, 77, 110, 114, 86]).extract 9 10 = bsk [86] := rfl
          have hsz : ¬ 9223372036854775807 < (bsk (letP m 9)).size + (bsk [86]).size := by rw [bsk_size [86]]; simp; omega
          have BA := Lib.hid (bsk_app (letP m 9) [86])
          go_wp2_with (go_at_call 25; refine (BC.out _).mono ?_; rintro e w' ⟨rfl, rfl⟩)
          go_round
          case rel => exact ⟨10, by omega, rfl, by rw [H.out, ← BA.out]⟩
          case measure => simp [intOf]
end Go.Proofs.YtbgbmojoldkcfaaDoor
