/- together, the program's. -/
import Derived.Test.YtbgbmojoldkcfaaDoorTog
namespace Go.Proofs.YtbgbmojoldkcfaaDoor
open Go.RowKit

def togP (m : Nat) : Bool := (m &&& 496 == 0) || (((m &&& 496) &&& ((m &&& 496) - 1) == 0) && (m &&& 10 == 0))
theorem togP_all : ∀ m : Fin 1024, togP m.val = togS m.val := by decide +kernel
theorem tog_ok (m : Nat) (hm : m < 1024) (w : World) : Calls Tryd.prog 23 #[.int .u16 m] w (RetV w (.bool (togS m))) := by
  have HP := Lib.hid (togP_all ⟨m, hm⟩)
  have hk : m &&& 496 < 1024 := Nat.and_lt_two_pow (n := 10) m (by omega)
  have a1 : bits BinOp.and IntKind.u16 (m : Int) 496 = ((m &&& 496 : Nat) : Int) := and_nat m 496 (by omega) (by omega)
  have a2 : bits BinOp.and IntKind.u16 (m : Int) 10 = ((m &&& 10 : Nat) : Int) := and_nat m 10 (by omega) (by omega)
  have HPP := Lib.hid (show togS m = ((m &&& 496 == 0) || (((m &&& 496) &&& ((m &&& 496) - 1) == 0) && (m &&& 10 == 0))) from HP.out.symm)
  generalize hkd : m &&& 496 = k at *
  generalize m &&& 10 = t at *
  by_cases h1 : k = 0
  · have u1 : ((k : Int) == 0) = true := by rw [beq_iff_eq]; omega
    have H := Lib.hid h1
    clear h1 hkd
    go_enter Tryd.func23, Tryd.ntmps23
    go_wp2_with fail
    go_ret
    exact ⟨by rw [HPP.out, H.out]; rfl, rfl⟩
  · have u1 : ((k : Int) == 0) = false := by rw [beq_eq_false_iff_ne]; omega
    have hs : IntKind.u16.wrap ((k : Int) - 1) = ((k - 1 : Nat) : Int) := by simp [IntKind.wrap, IntKind.bits, IntKind.signed]; omega
    have a3 : bits BinOp.and IntKind.u16 (k : Int) ((k - 1 : Nat) : Int) = ((k &&& (k - 1) : Nat) : Int) := and_nat k (k - 1) (by omega) (by omega)
    have H1 := Lib.hid h1
    clear h1 hkd
    generalize k &&& (k - 1) = j at a3 HPP
    by_cases h2 : j = 0
    · have u2 : ((j : Int) == 0) = true := by rw [beq_iff_eq]; omega
      have H2 := Lib.hid h2
      clear h2
      by_cases h3 : t = 0
      · have u3 : ((t : Int) == 0) = true := by rw [beq_iff_eq]; omega
        have H3 := Lib.hid h3
        clear h3
        go_enter Tryd.func23, Tryd.ntmps23
        go_wp2_with fail
        go_ret
        exact ⟨by rw [HPP.out, beq_eq_false_iff_ne.2 H1.out, H2.out, H3.out]; rfl, rfl⟩
      · have u3 : ((t : Int) == 0) = false := by rw [beq_eq_false_iff_ne]; omega
        have H3 := Lib.hid h3
        clear h3
        go_enter Tryd.func23, Tryd.ntmps23
        go_wp2_with fail
        go_ret
        exact ⟨by rw [HPP.out, beq_eq_false_iff_ne.2 H1.out, H2.out, beq_eq_false_iff_ne.2 H3.out]; rfl, rfl⟩
    · have u2 : ((j : Int) == 0) = false := by rw [beq_eq_false_iff_ne]; omega
      have H2 := Lib.hid h2
      clear h2
      go_enter Tryd.func23, Tryd.ntmps23
      go_wp2_with fail
      go_ret
      exact ⟨by rw [HPP.out, beq_eq_false_iff_ne.2 H1.out, beq_eq_false_iff_ne.2 H2.out]; rfl, rfl⟩
end Go.Proofs.YtbgbmojoldkcfaaDoor
