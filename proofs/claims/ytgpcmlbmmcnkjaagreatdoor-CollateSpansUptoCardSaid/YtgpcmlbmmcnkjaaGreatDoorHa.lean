/- millref5.has, of any modifiers; and of numbers of 64 bits. -/
import Derived.Test.YtgpcmlbmmcnkjaaGreatDoorCk
namespace Go.Proofs.YtgpcmlbmmcnkjaaGreatDoor
open Go.RowKit

set_option maxRecDepth 100000
theorem i64_and_nat (a b : Nat) (ha : a < 65536) (hb : b < 65536) : bits BinOp.and IntKind.i64 (a : Int) (b : Int) = ((a &&& b : Nat) : Int) := by
  have e : ∀ x : Nat, x < 65536 → (BitVec.ofInt 64 (x : Int)).toNat = x := fun x hx => by
    rw [BitVec.toNat_ofInt]; omega
  have hl : a &&& b < 65536 := Nat.and_lt_two_pow (n := 16) a (by omega)
  show IntKind.i64.wrap ((BitVec.ofInt 64 (a : Int) &&& BitVec.ofInt 64 (b : Int)).toNat : Int) = _
  rw [BitVec.toNat_and, e a ha, e b hb]
  simp [IntKind.wrap, IntKind.bits, IntKind.signed]
  omega
theorem has_ok (m x : Nat) (hm : m < 65536) (hx : x < 65536) (w : World) : Calls Tryz.prog 29 #[.int .u16 (m : Int), .int .i64 (x : Int)] w (RetV w (.bool (!decide (m &&& x = 0)))) := by
  have b4 : bits BinOp.and IntKind.i64 (m : Int) (x : Int) = ((m &&& x : Nat) : Int) := i64_and_nat m x hm hx
  have c1 : IntKind.i64.wrap (m : Int) = (m : Int) := by simp [IntKind.wrap, IntKind.bits, IntKind.signed]; omega
  generalize hy : m &&& x = y at b4 ⊢
  clear hy
  by_cases c4 : y = 0
  · have n4 : ((y : Int) != 0) = false := by rw [bne_eq_false_iff_eq]; omega
    rw [decide_eq_true c4]
    clear c4
    go_enter Tryz.func29, Tryz.ntmps29
    go_wp2_with fail
    go_ret
    exact ⟨rfl, rfl⟩
  · have n4 : ((y : Int) != 0) = true := by rw [bne_iff_ne]; omega
    rw [decide_eq_false c4]
    clear c4
    go_enter Tryz.func29, Tryz.ntmps29
    go_wp2_with fail
    go_ret
    exact ⟨rfl, rfl⟩
def togF (a b c d e x : Bool) : Bool := (a.toNat + b.toNat + c.toNat + d.toNat + e.toNat == 0) || ((a.toNat + b.toNat + c.toNat + d.toNat + e.toNat == 1) && !x)
def hs (m x : Nat) : Bool := !decide (m &&& x = 0)
theorem togF_all : ∀ m : Fin 1024, togF (hs m.val 16) (hs m.val 32) (hs m.val 64) (hs m.val 128) (hs m.val 256) (hs m.val 10) = togS m.val := by decide +kernel
set_option maxHeartbeats 6400000 in
theorem goTog_ok (m : Nat) (hm : m < 1024) (w : World) : Calls Tryz.prog 39 #[.int .u16 (m : Int)] w (RetV w (.bool (togS m))) := by
  have H16 := Lib.hid (show ∀ w, Calls Tryz.prog 29 #[.int .u16 (m : Int), .int .i64 16] w (RetV w (.bool (hs m 16))) from fun w => has_ok m 16 (by omega) (by omega) w)
  have H32 := Lib.hid (show ∀ w, Calls Tryz.prog 29 #[.int .u16 (m : Int), .int .i64 32] w (RetV w (.bool (hs m 32))) from fun w => has_ok m 32 (by omega) (by omega) w)
  have H64 := Lib.hid (show ∀ w, Calls Tryz.prog 29 #[.int .u16 (m : Int), .int .i64 64] w (RetV w (.bool (hs m 64))) from fun w => has_ok m 64 (by omega) (by omega) w)
  have H128 := Lib.hid (show ∀ w, Calls Tryz.prog 29 #[.int .u16 (m : Int), .int .i64 128] w (RetV w (.bool (hs m 128))) from fun w => has_ok m 128 (by omega) (by omega) w)
  have H256 := Lib.hid (show ∀ w, Calls Tryz.prog 29 #[.int .u16 (m : Int), .int .i64 256] w (RetV w (.bool (hs m 256))) from fun w => has_ok m 256 (by omega) (by omega) w)
  have H10 := Lib.hid (show ∀ w, Calls Tryz.prog 29 #[.int .u16 (m : Int), .int .i64 10] w (RetV w (.bool (hs m 10))) from fun w => has_ok m 10 (by omega) (by omega) w)
  have E : togS m = togF (hs m 16) (hs m 32) (hs m 64) (hs m 128) (hs m 256) (hs m 10) := (togF_all ⟨m, hm⟩).symm
  rw [E]
  clear E hm
  generalize hs m 16 = y16 at *
  generalize hs m 32 = y32 at *
  generalize hs m 64 = y64 at *
  generalize hs m 128 = y128 at *
  generalize hs m 256 = y256 at *
  generalize hs m 10 = y10 at *
  go_enter Tryz.func39, Tryz.ntmps39
  all_goals
    go_wp2_with fail
    refine (H16.out _).mono ?_
    rintro e w' ⟨rfl, rfl⟩
    cases y16
  all_goals
    go_wp2_with fail
    refine (H32.out _).mono ?_
    rintro e w' ⟨rfl, rfl⟩
    cases y32
  all_goals
    go_wp2_with fail
    refine (H64.out _).mono ?_
    rintro e w' ⟨rfl, rfl⟩
    cases y64
  all_goals
    go_wp2_with fail
    refine (H128.out _).mono ?_
    rintro e w' ⟨rfl, rfl⟩
    cases y128
  all_goals
    go_wp2_with fail
    refine (H256.out _).mono ?_
    rintro e w' ⟨rfl, rfl⟩
    cases y256
  all_goals
    go_wp2_with fail
    first
      | (go_ret; exact ⟨rfl, rfl⟩)
      | (refine (H10.out _).mono ?_; rintro e w' ⟨rfl, rfl⟩; go_wp2_with fail; go_ret; exact ⟨rfl, rfl⟩)
end Go.Proofs.YtgpcmlbmmcnkjaaGreatDoor
