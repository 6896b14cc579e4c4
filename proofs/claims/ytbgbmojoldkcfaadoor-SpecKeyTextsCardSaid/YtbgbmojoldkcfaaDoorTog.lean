/- Together and together. -/
import Derived.Test.YtbgbmojoldkcfaaDoorPl
namespace Go.Proofs.YtbgbmojoldkcfaaDoor
open Go.RowKit

def one (m b : Nat) : Nat := if m &&& b = 0 then 0 else 1
/-- How many kinds among the first k letters; does text stand among them. -/
def nK (m : Nat) : Nat → Nat
  | 0 => 0
  | 1 => 0
  | 2 => 0
  | 3 => 0
  | 4 => 0 + one m 32
  | 5 => 0 + one m 32 + one m 64
  | 6 => 0 + one m 32 + one m 64
  | 7 => 0 + one m 32 + one m 64 + one m 128
  | 8 => 0 + one m 32 + one m 64 + one m 128 + one m 16
  | 9 => 0 + one m 32 + one m 64 + one m 128 + one m 16
  | _ => 0 + one m 32 + one m 64 + one m 128 + one m 16 + one m 256
def tK (m : Nat) : Nat → Bool
  | 0 => false
  | 1 => false
  | 2 => (false || m &&& 2 != 0)
  | 3 => (false || m &&& 2 != 0)
  | 4 => (false || m &&& 2 != 0)
  | 5 => (false || m &&& 2 != 0)
  | 6 => ((false || m &&& 2 != 0) || m &&& 8 != 0)
  | 7 => ((false || m &&& 2 != 0) || m &&& 8 != 0)
  | 8 => ((false || m &&& 2 != 0) || m &&& 8 != 0)
  | 9 => ((false || m &&& 2 != 0) || m &&& 8 != 0)
  | _ => ((false || m &&& 2 != 0) || m &&& 8 != 0)
theorem nK_end (m : Nat) : nK m 10 = kindN m := by
  show 0 + one m 32 + one m 64 + one m 128 + one m 16 + one m 256 = kindN m
  unfold kindN one
  omega
theorem nK_le (m k : Nat) : nK m k ≤ 5 := by
  have h : ∀ b, one m b ≤ 1 := fun b => by unfold one; split <;> omega
  have h1 := h 32
  have h2 := h 64
  have h3 := h 128
  have h4 := h 16
  have h5 := h 256
  unfold nK
  split <;> omega
theorem togS_eq (m : Nat) : togS m = (nK m 10 == 0 || (nK m 10 == 1 && !tK m 10)) := by
  unfold togS
  rw [nK_end]
  have : (m &&& 2 == 0 && m &&& 8 == 0) = !tK m 10 := by
    show _ = !(false || m &&& 2 != 0 || m &&& 8 != 0)
    cases h1 : (m &&& 2 == 0) <;> cases h2 : (m &&& 8 == 0) <;> simp_all
  rw [this]
theorem bit98 (w : World) : Calls Tryd.prog 25 #[.int .u8 98] w (RetV w (.int .u16 1)) := bit_ok 98 w
theorem bit100 (w : World) : Calls Tryd.prog 25 #[.int .u8 100] w (RetV w (.int .u16 2)) := bit_ok 100 w
theorem bit102 (w : World) : Calls Tryd.prog 25 #[.int .u8 102] w (RetV w (.int .u16 4)) := bit_ok 102 w
theorem bit103 (w : World) : Calls Tryd.prog 25 #[.int .u8 103] w (RetV w (.int .u16 32)) := bit_ok 103 w
theorem bit104 (w : World) : Calls Tryd.prog 25 #[.int .u8 104] w (RetV w (.int .u16 64)) := bit_ok 104 w
theorem bit105 (w : World) : Calls Tryd.prog 25 #[.int .u8 105] w (RetV w (.int .u16 8)) := bit_ok 105 w
theorem bit77 (w : World) : Calls Tryd.prog 25 #[.int .u8 77] w (RetV w (.int .u16 128)) := bit_ok 77 w
theorem bit110 (w : World) : Calls Tryd.prog 25 #[.int .u8 110] w (RetV w (.int .u16 16)) := bit_ok 110 w
theorem bit114 (w : World) : Calls Tryd.prog 25 #[.int .u8 114] w (RetV w (.int .u16 512)) := bit_ok 114 w
theorem bit86 (w : World) : Calls Tryd.prog 25 #[.int .u8 86] w (RetV w (.int .u16 256)) := bit_ok 86 w
theorem and_nat (m b : Nat) (hm : m < 65536) (hb : b < 65536) : bits BinOp.and IntKind.u16 (m : Int) (b : Int) = ((m &&& b : Nat) : Int) := u16_and_nat m b hm hb

set_option maxRecDepth 100000
set_option maxHeartbeats 1600000 in
theorem refTog_ok (m : Nat) (hm : m < 1024) (w : World) : Calls Tryd.prog 26 #[.int .u16 m] w (RetV w (.bool (togS m))) := by
  go_enter Tryd.func26, Tryd.ntmps26
  go_wp2_with fail
  go_loop [3, 4, 5] (fun nv tv iv => ∃ k : Nat, k ≤ 10 ∧ iv = .int .i64 k ∧ nv = .int .i64 (nK m k) ∧ tv = .bool (tK m k)) (fun _ _ i => 10 - (intOf i).toNat)
  case atStart => exact ⟨0, by omega, rfl, rfl, rfl⟩
  case round =>
    obtain ⟨k, hk, rfl, rfl, rfl⟩ := hrel
    have hle := nK_le m k
    by_cases hlt : k < 10
    · obtain rfl | rfl | rfl | rfl | rfl | rfl | rfl | rfl | rfl | rfl : k = 0 ∨ k = 1 ∨ k = 2 ∨ k = 3 ∨ k = 4 ∨ k = 5 ∨ k = 6 ∨ k = 7 ∨ k = 8 ∨ k = 9 := by omega
      · have BT := Lib.hid (fun w => bit98 w)
        have ha := and_nat m 1 (by omega) (by omega)
        have HN := Lib.hid (show nK m 1 = nK m 0 + 0 from rfl)
        have HTK := Lib.hid (show tK m 1 = tK m 0 from rfl)
        generalize nK m 0 = n at *
        generalize tK m 0 = t at *
        by_cases h : m &&& 1 = 0
        · have u : (bits BinOp.and IntKind.u16 (m : Int) 1 == 0) = true := by rw [show ((1 : Int)) = ((1 : Nat) : Int) from rfl, ha, h]; rfl
          have H := Lib.hid h
          clear h ha
          go_wp2_with fail
          refine (BT.out _).mono ?_
          rintro e w' ⟨rfl, rfl⟩
          go_wp2_with fail
          go_round
          case rel => exact ⟨1, by omega, by go_num, congrArg (Value.int .i64) (by have h1 := HN.out; omega), congrArg Value.bool (by have h2 := HTK.out; exact h2.symm)⟩
          case measure => simp [intOf]
        · have u : (bits BinOp.and IntKind.u16 (m : Int) 1 == 0) = false := by rw [show ((1 : Int)) = ((1 : Nat) : Int) from rfl, ha, beq_eq_false_iff_ne]; omega
          have H := Lib.hid h
          clear h ha
          go_wp2_with fail
          refine (BT.out _).mono ?_
          rintro e w' ⟨rfl, rfl⟩
          go_wp2_with fail
          go_round
          case rel => exact ⟨1, by omega, by go_num, congrArg (Value.int .i64) (by have h1 := HN.out; omega), congrArg Value.bool (by have h2 := HTK.out; exact h2.symm)⟩
          case measure => simp [intOf]
      · have BT := Lib.hid (fun w => bit100 w)
        have ha := and_nat m 2 (by omega) (by omega)
        have HN := Lib.hid (show nK m 2 = nK m 1 + 0 from rfl)
        have HTK := Lib.hid (show tK m 2 = (tK m 1 || m &&& 2 != 0) from rfl)
        generalize nK m 1 = n at *
        generalize tK m 1 = t at *
        by_cases h : m &&& 2 = 0
        · have u : (bits BinOp.and IntKind.u16 (m : Int) 2 == 0) = true := by rw [show ((2 : Int)) = ((2 : Nat) : Int) from rfl, ha, h]; rfl
          have H := Lib.hid h
          clear h ha
          go_wp2_with fail
          refine (BT.out _).mono ?_
          rintro e w' ⟨rfl, rfl⟩
          go_wp2_with fail
          go_round
          case rel => exact ⟨2, by omega, by go_num, congrArg (Value.int .i64) (by have h1 := HN.out; omega), congrArg Value.bool (by have h2 := HTK.out; rw [H.out] at h2; simpa using h2.symm)⟩
          case measure => simp [intOf]
        · have u : (bits BinOp.and IntKind.u16 (m : Int) 2 == 0) = false := by rw [show ((2 : Int)) = ((2 : Nat) : Int) from rfl, ha, beq_eq_false_iff_ne]; omega
          have H := Lib.hid h
          clear h ha
          go_wp2_with fail
          refine (BT.out _).mono ?_
          rintro e w' ⟨rfl, rfl⟩
          go_wp2_with fail
          go_round
          case rel => exact ⟨2, by omega, by go_num, congrArg (Value.int .i64) (by have h1 := HN.out; omega), congrArg Value.bool (by have h2 := HTK.out; rw [h2]; have h3 := H.out; simp [h3])⟩
          case measure => simp [intOf]
      · have BT := Lib.hid (fun w => bit102 w)
        have ha := and_nat m 4 (by omega) (by omega)
        have HN := Lib.hid (show nK m 3 = nK m 2 + 0 from rfl)
        have HTK := Lib.hid (show tK m 3 = tK m 2 from rfl)
        generalize nK m 2 = n at *
        generalize tK m 2 = t at *
        by_cases h : m &&& 4 = 0
        · have u : (bits BinOp.and IntKind.u16 (m : Int) 4 == 0) = true := by rw [show ((4 : Int)) = ((4 : Nat) : Int) from rfl, ha, h]; rfl
          have H := Lib.hid h
          clear h ha
          go_wp2_with fail
          refine (BT.out _).mono ?_
          rintro e w' ⟨rfl, rfl⟩
          go_wp2_with fail
          go_round
          case rel => exact ⟨3, by omega, by go_num, congrArg (Value.int .i64) (by have h1 := HN.out; omega), congrArg Value.bool (by have h2 := HTK.out; exact h2.symm)⟩
          case measure => simp [intOf]
        · have u : (bits BinOp.and IntKind.u16 (m : Int) 4 == 0) = false := by rw [show ((4 : Int)) = ((4 : Nat) : Int) from rfl, ha, beq_eq_false_iff_ne]; omega
          have H := Lib.hid h
          clear h ha
          go_wp2_with fail
          refine (BT.out _).mono ?_
          rintro e w' ⟨rfl, rfl⟩
          go_wp2_with fail
          go_round
          case rel => exact ⟨3, by omega, by go_num, congrArg (Value.int .i64) (by have h1 := HN.out; omega), congrArg Value.bool (by have h2 := HTK.out; exact h2.symm)⟩
          case measure => simp [intOf]
      · have BT := Lib.hid (fun w => bit103 w)
        have ha := and_nat m 32 (by omega) (by omega)
        have HN := Lib.hid (show nK m 4 = nK m 3 + one m 32 from rfl)
        have HTK := Lib.hid (show tK m 4 = tK m 3 from rfl)
        generalize nK m 3 = n at *
        generalize tK m 3 = t at *
        by_cases h : m &&& 32 = 0
        · have u : (bits BinOp.and IntKind.u16 (m : Int) 32 == 0) = true := by rw [show ((32 : Int)) = ((32 : Nat) : Int) from rfl, ha, h]; rfl
          have H := Lib.hid h
          clear h ha
          go_wp2_with fail
          refine (BT.out _).mono ?_
          rintro e w' ⟨rfl, rfl⟩
          go_wp2_with fail
          go_round
          case rel => exact ⟨4, by omega, by go_num, congrArg (Value.int .i64) (by have h1 := HN.out; rw [show one m 32 = 0 from if_pos H.out] at h1; omega), congrArg Value.bool (by have h2 := HTK.out; exact h2.symm)⟩
          case measure => simp [intOf]
        · have u : (bits BinOp.and IntKind.u16 (m : Int) 32 == 0) = false := by rw [show ((32 : Int)) = ((32 : Nat) : Int) from rfl, ha, beq_eq_false_iff_ne]; omega
          have H := Lib.hid h
          clear h ha
          go_wp2_with fail
          refine (BT.out _).mono ?_
          rintro e w' ⟨rfl, rfl⟩
          go_wp2_with fail
          go_round
          case rel => exact ⟨4, by omega, by go_num, congrArg (Value.int .i64) (by have h1 := HN.out; rw [show one m 32 = 1 from if_neg H.out] at h1; omega), congrArg Value.bool (by have h2 := HTK.out; exact h2.symm)⟩
          case measure => simp [intOf]
      · have BT := Lib.hid (fun w => bit104 w)
        have ha := and_nat m 64 (by omega) (by omega)
        have HN := Lib.hid (show nK m 5 = nK m 4 + one m 64 from rfl)
        have HTK := Lib.hid (show tK m 5 = tK m 4 from rfl)
        generalize nK m 4 = n at *
        generalize tK m 4 = t at *
        by_cases h : m &&& 64 = 0
        · have u : (bits BinOp.and IntKind.u16 (m : Int) 64 == 0) = true := by rw [show ((64 : Int)) = ((64 : Nat) : Int) from rfl, ha, h]; rfl
          have H := Lib.hid h
          clear h ha
          go_wp2_with fail
          refine (BT.out _).mono ?_
          rintro e w' ⟨rfl, rfl⟩
          go_wp2_with fail
          go_round
          case rel => exact ⟨5, by omega, by go_num, congrArg (Value.int .i64) (by have h1 := HN.out; rw [show one m 64 = 0 from if_pos H.out] at h1; omega), congrArg Value.bool (by have h2 := HTK.out; exact h2.symm)⟩
          case measure => simp [intOf]
        · have u : (bits BinOp.and IntKind.u16 (m : Int) 64 == 0) = false := by rw [show ((64 : Int)) = ((64 : Nat) : Int) from rfl, ha, beq_eq_false_iff_ne]; omega
          have H := Lib.hid h
          clear h ha
          go_wp2_with fail
          refine (BT.out _).mono ?_
          rintro e w' ⟨rfl, rfl⟩
          go_wp2_with fail
          go_round
          case rel => exact ⟨5, by omega, by go_num, congrArg (Value.int .i64) (by have h1 := HN.out; rw [show one m 64 = 1 from if_neg H.out] at h1; omega), congrArg Value.bool (by have h2 := HTK.out; exact h2.symm)⟩
          case measure => simp [intOf]
      · have BT := Lib.hid (fun w => bit105 w)
        have ha := and_nat m 8 (by omega) (by omega)
        have HN := Lib.hid (show nK m 6 = nK m 5 + 0 from rfl)
        have HTK := Lib.hid (show tK m 6 = (tK m 5 || m &&& 8 != 0) from rfl)
        generalize nK m 5 = n at *
        generalize tK m 5 = t at *
        by_cases h : m &&& 8 = 0
        · have u : (bits BinOp.and IntKind.u16 (m : Int) 8 == 0) = true := by rw [show ((8 : Int)) = ((8 : Nat) : Int) from rfl, ha, h]; rfl
          have H := Lib.hid h
          clear h ha
          go_wp2_with fail
          refine (BT.out _).mono ?_
          rintro e w' ⟨rfl, rfl⟩
          go_wp2_with fail
          go_round
          case rel => exact ⟨6, by omega, by go_num, congrArg (Value.int .i64) (by have h1 := HN.out; omega), congrArg Value.bool (by have h2 := HTK.out; rw [H.out] at h2; simpa using h2.symm)⟩
          case measure => simp [intOf]
        · have u : (bits BinOp.and IntKind.u16 (m : Int) 8 == 0) = false := by rw [show ((8 : Int)) = ((8 : Nat) : Int) from rfl, ha, beq_eq_false_iff_ne]; omega
          have H := Lib.hid h
          clear h ha
          go_wp2_with fail
          refine (BT.out _).mono ?_
          rintro e w' ⟨rfl, rfl⟩
          go_wp2_with fail
          go_round
          case rel => exact ⟨6, by omega, by go_num, congrArg (Value.int .i64) (by have h1 := HN.out; omega), congrArg Value.bool (by have h2 := HTK.out; rw [h2]; have h3 := H.out; simp [h3])⟩
          case measure => simp [intOf]
      · have BT := Lib.hid (fun w => bit77 w)
        have ha := and_nat m 128 (by omega) (by omega)
        have HN := Lib.hid (show nK m 7 = nK m 6 + one m 128 from rfl)
        have HTK := Lib.hid (show tK m 7 = tK m 6 from rfl)
        generalize nK m 6 = n at *
        generalize tK m 6 = t at *
        by_cases h : m &&& 128 = 0
        · have u : (bits BinOp.and IntKind.u16 (m : Int) 128 == 0) = true := by rw [show ((128 : Int)) = ((128 : Nat) : Int) from rfl, ha, h]; rfl
          have H := Lib.hid h
          clear h ha
          go_wp2_with fail
          refine (BT.out _).mono ?_
          rintro e w' ⟨rfl, rfl⟩
          go_wp2_with fail
          go_round
          case rel => exact ⟨7, by omega, by go_num, congrArg (Value.int .i64) (by have h1 := HN.out; rw [show one m 128 = 0 from if_pos H.out] at h1; omega), congrArg Value.bool (by have h2 := HTK.out; exact h2.symm)⟩
          case measure => simp [intOf]
        · have u : (bits BinOp.and IntKind.u16 (m : Int) 128 == 0) = false := by rw [show ((128 : Int)) = ((128 : Nat) : Int) from rfl, ha, beq_eq_false_iff_ne]; omega
          have H := Lib.hid h
          clear h ha
          go_wp2_with fail
          refine (BT.out _).mono ?_
          rintro e w' ⟨rfl, rfl⟩
          go_wp2_with fail
          go_round
          case rel => exact ⟨7, by omega, by go_num, congrArg (Value.int .i64) (by have h1 := HN.out; rw [show one m 128 = 1 from if_neg H.out] at h1; omega), congrArg Value.bool (by have h2 := HTK.out; exact h2.symm)⟩
          case measure => simp [intOf]
      · have BT := Lib.hid (fun w => bit110 w)
        have ha := and_nat m 16 (by omega) (by omega)
        have HN := Lib.hid (show nK m 8 = nK m 7 + one m 16 from rfl)
        have HTK := Lib.hid (show tK m 8 = tK m 7 from rfl)
        generalize nK m 7 = n at *
        generalize tK m 7 = t at *
        by_cases h : m &&& 16 = 0
        · have u : (bits BinOp.and IntKind.u16 (m : Int) 16 == 0) = true := by rw [show ((16 : Int)) = ((16 : Nat) : Int) from rfl, ha, h]; rfl
          have H := Lib.hid h
          clear h ha
          go_wp2_with fail
          refine (BT.out _).mono ?_
          rintro e w' ⟨rfl, rfl⟩
          go_wp2_with fail
          go_round
          case rel => exact ⟨8, by omega, by go_num, congrArg (Value.int .i64) (by have h1 := HN.out; rw [show one m 16 = 0 from if_pos H.out] at h1; omega), congrArg Value.bool (by have h2 := HTK.out; exact h2.symm)⟩
          case measure => simp [intOf]
        · have u : (bits BinOp.and IntKind.u16 (m : Int) 16 == 0) = false := by rw [show ((16 : Int)) = ((16 : Nat) : Int) from rfl, ha, beq_eq_false_iff_ne]; omega
          have H := Lib.hid h
          clear h ha
          go_wp2_with fail
          refine (BT.out _).mono ?_
          rintro e w' ⟨rfl, rfl⟩
          go_wp2_with fail
          go_round
          case rel => exact ⟨8, by omega, by go_num, congrArg (Value.int .i64) (by have h1 := HN.out; rw [show one m 16 = 1 from if_neg H.out] at h1; omega), congrArg Value.bool (by have h2 := HTK.out; exact h2.symm)⟩
          case measure => simp [intOf]
      · have BT := Lib.hid (fun w => bit114 w)
        have ha := and_nat m 512 (by omega) (by omega)
        have HN := Lib.hid (show nK m 9 = nK m 8 + 0 from rfl)
        have HTK := Lib.hid (show tK m 9 = tK m 8 from rfl)
        generalize nK m 8 = n at *
        generalize tK m 8 = t at *
        by_cases h : m &&& 512 = 0
        · have u : (bits BinOp.and IntKind.u16 (m : Int) 512 == 0) = true := by rw [show ((512 : Int)) = ((512 : Nat) : Int) from rfl, ha, h]; rfl
          have H := Lib.hid h
          clear h ha
          go_wp2_with fail
          refine (BT.out _).mono ?_
          rintro e w' ⟨rfl, rfl⟩
          go_wp2_with fail
          go_round
          case rel => exact ⟨9, by omega, by go_num, congrArg (Value.int .i64) (by have h1 := HN.out; omega), congrArg Value.bool (by have h2 := HTK.out; exact h2.symm)⟩
          case measure => simp [intOf]
        · have u : (bits BinOp.and IntKind.u16 (m : Int) 512 == 0) = false := by rw [show ((512 : Int)) = ((512 : Nat) : Int) from rfl, ha, beq_eq_false_iff_ne]; omega
          have H := Lib.hid h
          clear h ha
          go_wp2_with fail
          refine (BT.out _).mono ?_
          rintro e w' ⟨rfl, rfl⟩
          go_wp2_with fail
          go_round
          case rel => exact ⟨9, by omega, by go_num, congrArg (Value.int .i64) (by have h1 := HN.out; omega), congrArg Value.bool (by have h2 := HTK.out; exact h2.symm)⟩
          case measure => simp [intOf]
      · have BT := Lib.hid (fun w => bit86 w)
        have ha := and_nat m 256 (by omega) (by omega)
        have HN := Lib.hid (show nK m 10 = nK m 9 + one m 256 from rfl)
        have HTK := Lib.hid (show tK m 10 = tK m 9 from rfl)
        generalize nK m 9 = n at *
        generalize tK m 9 = t at *
        by_cases h : m &&& 256 = 0
        · have u : (bits BinOp.and IntKind.u16 (m : Int) 256 == 0) = true := by rw [show ((256 : Int)) = ((256 : Nat) : Int) from rfl, ha, h]; rfl
          have H := Lib.hid h
          clear h ha
          go_wp2_with fail
          refine (BT.out _).mono ?_
          rintro e w' ⟨rfl, rfl⟩
          go_wp2_with fail
          go_round
          case rel => exact ⟨10, by omega, by go_num, congrArg (Value.int .i64) (by have h1 := HN.out; rw [show one m 256 = 0 from if_pos H.out] at h1; omega), congrArg Value.bool (by have h2 := HTK.out; exact h2.symm)⟩
          case measure => simp [intOf]
        · have u : (bits BinOp.and IntKind.u16 (m : Int) 256 == 0) = false := by rw [show ((256 : Int)) = ((256 : Nat) : Int) from rfl, ha, beq_eq_false_iff_ne]; omega
          have H := Lib.hid h
          clear h ha
          go_wp2_with fail
          refine (BT.out _).mono ?_
          rintro e w' ⟨rfl, rfl⟩
          go_wp2_with fail
          go_round
          case rel => exact ⟨10, by omega, by go_num, congrArg (Value.int .i64) (by have h1 := HN.out; rw [show one m 256 = 1 from if_neg H.out] at h1; omega), congrArg Value.bool (by have h2 := HTK.out; exact h2.symm)⟩
          case measure => simp [intOf]
    · have e : k = 10 := by omega
      subst e
      have HT := Lib.hid (togS_eq m)
      generalize nK m 10 = n at *
      cases htk : tK m 10 with
      | true =>
        rw [htk] at HT
        by_cases h0 : n = 0
        · have u : ((n : Int) == 0) = true := by rw [beq_iff_eq]; omega
          have H := Lib.hid h0
          clear h0 htk
          go_wp2_with fail
          go_ret
          exact ⟨by rw [HT.out, H.out]; rfl, rfl⟩
        · have u : ((n : Int) == 0) = false := by rw [beq_eq_false_iff_ne]; omega
          by_cases h1 : n = 1
          · have u2 : ((n : Int) == 1) = true := by rw [beq_iff_eq]; omega
            have H := Lib.hid h1
            clear h0 htk h1
            go_wp2_with fail
            go_ret
            exact ⟨by rw [HT.out, H.out]; rfl, rfl⟩
          · have u2 : ((n : Int) == 1) = false := by rw [beq_eq_false_iff_ne]; omega
            have H := Lib.hid h1
            have H0 := Lib.hid h0
            clear h0 htk h1
            go_wp2_with fail
            go_ret
            exact ⟨by rw [HT.out, beq_eq_false_iff_ne.2 H0.out, beq_eq_false_iff_ne.2 H.out]; rfl, rfl⟩
      | false =>
        rw [htk] at HT
        by_cases h0 : n = 0
        · have u : ((n : Int) == 0) = true := by rw [beq_iff_eq]; omega
          have H := Lib.hid h0
          clear h0 htk
          go_wp2_with fail
          go_ret
          exact ⟨by rw [HT.out, H.out]; rfl, rfl⟩
        · have u : ((n : Int) == 0) = false := by rw [beq_eq_false_iff_ne]; omega
          by_cases h1 : n = 1
          · have u2 : ((n : Int) == 1) = true := by rw [beq_iff_eq]; omega
            have H := Lib.hid h1
            clear h0 htk h1
            go_wp2_with fail
            go_ret
            exact ⟨by rw [HT.out, H.out]; rfl, rfl⟩
          · have u2 : ((n : Int) == 1) = false := by rw [beq_eq_false_iff_ne]; omega
            have H := Lib.hid h1
            have H0 := Lib.hid h0
            clear h0 htk h1
            go_wp2_with fail
            go_ret
            exact ⟨by rw [HT.out, beq_eq_false_iff_ne.2 H0.out, beq_eq_false_iff_ne.2 H.out]; rfl, rfl⟩

end Go.Proofs.YtbgbmojoldkcfaaDoor
