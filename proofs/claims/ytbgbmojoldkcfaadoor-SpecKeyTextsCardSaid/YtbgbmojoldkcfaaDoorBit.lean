/- Bit and Together, the document's. -/
import Derived.Test.YtbgbmojoldkcfaaDoorDg
import Derived.Test.YtbgbmojoldkcfaaDoorKeyS
namespace Go.Proofs.YtbgbmojoldkcfaaDoor
open Go.RowKit

def RetV (w : World) (v : Value) (e : Ending) (w' : World) : Prop := e = .returned v ∧ w = w'
theorem eq_of_nat {c : UInt8} {k : Nat} (h : c.toNat = k) : c = UInt8.ofNat k := UInt8.toNat_inj.1 (by rw [h]; have := c.toNat_lt; simp; omega)
set_option maxHeartbeats 800000 in
theorem bit_ok (c : UInt8) (w : World) : Calls Tryd.prog 25 #[.int .u8 c.toNat] w (RetV w (.int .u16 (bitS c))) := by
  have hc := c.toNat_lt
  by_cases h98 : c.toNat = 98
  · have e : bitS c = 1 := by rw [eq_of_nat h98]; rfl
    rw [e]
    have t98 : ((c.toNat : Int) == 98) = true := by rw [beq_iff_eq]; omega
    clear h98 e
    go_enter Tryd.func25, Tryd.ntmps25
    go_wp2_with fail
    go_ret
    exact ⟨rfl, rfl⟩
  · skip
    by_cases h100 : c.toNat = 100
    · have e : bitS c = 2 := by rw [eq_of_nat h100]; rfl
      rw [e]
      have t98 : ((c.toNat : Int) == 98) = false := by rw [beq_eq_false_iff_ne]; omega
      have t100 : ((c.toNat : Int) == 100) = true := by rw [beq_iff_eq]; omega
      clear h98 h100 e
      go_enter Tryd.func25, Tryd.ntmps25
      go_wp2_with fail
      go_ret
      exact ⟨rfl, rfl⟩
    · skip
      by_cases h102 : c.toNat = 102
      · have e : bitS c = 4 := by rw [eq_of_nat h102]; rfl
        rw [e]
        have t98 : ((c.toNat : Int) == 98) = false := by rw [beq_eq_false_iff_ne]; omega
        have t100 : ((c.toNat : Int) == 100) = false := by rw [beq_eq_false_iff_ne]; omega
        have t102 : ((c.toNat : Int) == 102) = true := by rw [beq_iff_eq]; omega
        clear h98 h100 h102 e
        go_enter Tryd.func25, Tryd.ntmps25
        go_wp2_with fail
        go_ret
        exact ⟨rfl, rfl⟩
      · skip
        by_cases h103 : c.toNat = 103
        · have e : bitS c = 32 := by rw [eq_of_nat h103]; rfl
          rw [e]
          have t98 : ((c.toNat : Int) == 98) = false := by rw [beq_eq_false_iff_ne]; omega
          have t100 : ((c.toNat : Int) == 100) = false := by rw [beq_eq_false_iff_ne]; omega
          have t102 : ((c.toNat : Int) == 102) = false := by rw [beq_eq_false_iff_ne]; omega
          have t103 : ((c.toNat : Int) == 103) = true := by rw [beq_iff_eq]; omega
          clear h98 h100 h102 h103 e
          go_enter Tryd.func25, Tryd.ntmps25
          go_wp2_with fail
          go_ret
          exact ⟨rfl, rfl⟩
        · skip
          by_cases h104 : c.toNat = 104
          · have e : bitS c = 64 := by rw [eq_of_nat h104]; rfl
            rw [e]
            have t98 : ((c.toNat : Int) == 98) = false := by rw [beq_eq_false_iff_ne]; omega
            have t100 : ((c.toNat : Int) == 100) = false := by rw [beq_eq_false_iff_ne]; omega
            have t102 : ((c.toNat : Int) == 102) = false := by rw [beq_eq_false_iff_ne]; omega
            have t103 : ((c.toNat : Int) == 103) = false := by rw [beq_eq_false_iff_ne]; omega
            have t104 : ((c.toNat : Int) == 104) = true := by rw [beq_iff_eq]; omega
            clear h98 h100 h102 h103 h104 e
            go_enter Tryd.func25, Tryd.ntmps25
            go_wp2_with fail
            go_ret
            exact ⟨rfl, rfl⟩
          · skip
            by_cases h105 : c.toNat = 105
            · have e : bitS c = 8 := by rw [eq_of_nat h105]; rfl
              rw [e]
              have t98 : ((c.toNat : Int) == 98) = false := by rw [beq_eq_false_iff_ne]; omega
              have t100 : ((c.toNat : Int) == 100) = false := by rw [beq_eq_false_iff_ne]; omega
              have t102 : ((c.toNat : Int) == 102) = false := by rw [beq_eq_false_iff_ne]; omega
              have t103 : ((c.toNat : Int) == 103) = false := by rw [beq_eq_false_iff_ne]; omega
              have t104 : ((c.toNat : Int) == 104) = false := by rw [beq_eq_false_iff_ne]; omega
              have t105 : ((c.toNat : Int) == 105) = true := by rw [beq_iff_eq]; omega
              clear h98 h100 h102 h103 h104 h105 e
              go_enter Tryd.func25, Tryd.ntmps25
              go_wp2_with fail
              go_ret
              exact ⟨rfl, rfl⟩
            · skip
              by_cases h77 : c.toNat = 77
              · have e : bitS c = 128 := by rw [eq_of_nat h77]; rfl
                rw [e]
                have t98 : ((c.toNat : Int) == 98) = false := by rw [beq_eq_false_iff_ne]; omega
                have t100 : ((c.toNat : Int) == 100) = false := by rw [beq_eq_false_iff_ne]; omega
                have t102 : ((c.toNat : Int) == 102) = false := by rw [beq_eq_false_iff_ne]; omega
                have t103 : ((c.toNat : Int) == 103) = false := by rw [beq_eq_false_iff_ne]; omega
                have t104 : ((c.toNat : Int) == 104) = false := by rw [beq_eq_false_iff_ne]; omega
                have t105 : ((c.toNat : Int) == 105) = false := by rw [beq_eq_false_iff_ne]; omega
                have t77 : ((c.toNat : Int) == 77) = true := by rw [beq_iff_eq]; omega
                clear h98 h100 h102 h103 h104 h105 h77 e
                go_enter Tryd.func25, Tryd.ntmps25
                go_wp2_with fail
                go_ret
                exact ⟨rfl, rfl⟩
              · skip
                by_cases h110 : c.toNat = 110
                · have e : bitS c = 16 := by rw [eq_of_nat h110]; rfl
                  rw [e]
                  have t98 : ((c.toNat : Int) == 98) = false := by rw [beq_eq_false_iff_ne]; omega
                  have t100 : ((c.toNat : Int) == 100) = false := by rw [beq_eq_false_iff_ne]; omega
                  have t102 : ((c.toNat : Int) == 102) = false := by rw [beq_eq_false_iff_ne]; omega
                  have t103 : ((c.toNat : Int) == 103) = false := by rw [beq_eq_false_iff_ne]; omega
                  have t104 : ((c.toNat : Int) == 104) = false := by rw [beq_eq_false_iff_ne]; omega
                  have t105 : ((c.toNat : Int) == 105) = false := by rw [beq_eq_false_iff_ne]; omega
                  have t77 : ((c.toNat : Int) == 77) = false := by rw [beq_eq_false_iff_ne]; omega
                  have t110 : ((c.toNat : Int) == 110) = true := by rw [beq_iff_eq]; omega
                  clear h98 h100 h102 h103 h104 h105 h77 h110 e
                  go_enter Tryd.func25, Tryd.ntmps25
                  go_wp2_with fail
                  go_ret
                  exact ⟨rfl, rfl⟩
                · skip
                  by_cases h114 : c.toNat = 114
                  · have e : bitS c = 512 := by rw [eq_of_nat h114]; rfl
                    rw [e]
                    have t98 : ((c.toNat : Int) == 98) = false := by rw [beq_eq_false_iff_ne]; omega
                    have t100 : ((c.toNat : Int) == 100) = false := by rw [beq_eq_false_iff_ne]; omega
                    have t102 : ((c.toNat : Int) == 102) = false := by rw [beq_eq_false_iff_ne]; omega
                    have t103 : ((c.toNat : Int) == 103) = false := by rw [beq_eq_false_iff_ne]; omega
                    have t104 : ((c.toNat : Int) == 104) = false := by rw [beq_eq_false_iff_ne]; omega
                    have t105 : ((c.toNat : Int) == 105) = false := by rw [beq_eq_false_iff_ne]; omega
                    have t77 : ((c.toNat : Int) == 77) = false := by rw [beq_eq_false_iff_ne]; omega
                    have t110 : ((c.toNat : Int) == 110) = false := by rw [beq_eq_false_iff_ne]; omega
                    have t114 : ((c.toNat : Int) == 114) = true := by rw [beq_iff_eq]; omega
                    clear h98 h100 h102 h103 h104 h105 h77 h110 h114 e
                    go_enter Tryd.func25, Tryd.ntmps25
                    go_wp2_with fail
                    go_ret
                    exact ⟨rfl, rfl⟩
                  · skip
                    by_cases h86 : c.toNat = 86
                    · have e : bitS c = 256 := by rw [eq_of_nat h86]; rfl
                      rw [e]
                      have t98 : ((c.toNat : Int) == 98) = false := by rw [beq_eq_false_iff_ne]; omega
                      have t100 : ((c.toNat : Int) == 100) = false := by rw [beq_eq_false_iff_ne]; omega
                      have t102 : ((c.toNat : Int) == 102) = false := by rw [beq_eq_false_iff_ne]; omega
                      have t103 : ((c.toNat : Int) == 103) = false := by rw [beq_eq_false_iff_ne]; omega
                      have t104 : ((c.toNat : Int) == 104) = false := by rw [beq_eq_false_iff_ne]; omega
                      have t105 : ((c.toNat : Int) == 105) = false := by rw [beq_eq_false_iff_ne]; omega
                      have t77 : ((c.toNat : Int) == 77) = false := by rw [beq_eq_false_iff_ne]; omega
                      have t110 : ((c.toNat : Int) == 110) = false := by rw [beq_eq_false_iff_ne]; omega
                      have t114 : ((c.toNat : Int) == 114) = false := by rw [beq_eq_false_iff_ne]; omega
                      have t86 : ((c.toNat : Int) == 86) = true := by rw [beq_iff_eq]; omega
                      clear h98 h100 h102 h103 h104 h105 h77 h110 h114 h86 e
                      go_enter Tryd.func25, Tryd.ntmps25
                      go_wp2_with fail
                      go_ret
                      exact ⟨rfl, rfl⟩
                    · skip
                      have e : bitS c = 0 := by
                        unfold bitS
                        rw [if_neg (show ¬ c = 98 from fun e => h98 (by rw [e]; rfl)), if_neg (show ¬ c = 100 from fun e => h100 (by rw [e]; rfl)), if_neg (show ¬ c = 102 from fun e => h102 (by rw [e]; rfl)), if_neg (show ¬ c = 103 from fun e => h103 (by rw [e]; rfl)), if_neg (show ¬ c = 104 from fun e => h104 (by rw [e]; rfl)), if_neg (show ¬ c = 105 from fun e => h105 (by rw [e]; rfl)), if_neg (show ¬ c = 77 from fun e => h77 (by rw [e]; rfl)), if_neg (show ¬ c = 110 from fun e => h110 (by rw [e]; rfl)), if_neg (show ¬ c = 114 from fun e => h114 (by rw [e]; rfl)), if_neg (show ¬ c = 86 from fun e => h86 (by rw [e]; rfl))]
                      rw [e]
                      have t98 : ((c.toNat : Int) == 98) = false := by rw [beq_eq_false_iff_ne]; omega
                      have t100 : ((c.toNat : Int) == 100) = false := by rw [beq_eq_false_iff_ne]; omega
                      have t102 : ((c.toNat : Int) == 102) = false := by rw [beq_eq_false_iff_ne]; omega
                      have t103 : ((c.toNat : Int) == 103) = false := by rw [beq_eq_false_iff_ne]; omega
                      have t104 : ((c.toNat : Int) == 104) = false := by rw [beq_eq_false_iff_ne]; omega
                      have t105 : ((c.toNat : Int) == 105) = false := by rw [beq_eq_false_iff_ne]; omega
                      have t77 : ((c.toNat : Int) == 77) = false := by rw [beq_eq_false_iff_ne]; omega
                      have t110 : ((c.toNat : Int) == 110) = false := by rw [beq_eq_false_iff_ne]; omega
                      have t114 : ((c.toNat : Int) == 114) = false := by rw [beq_eq_false_iff_ne]; omega
                      have t86 : ((c.toNat : Int) == 86) = false := by rw [beq_eq_false_iff_ne]; omega
                      clear h98 h100 h102 h103 h104 h105 h77 h110 h114 h86 e
                      go_enter Tryd.func25, Tryd.ntmps25
                      go_wp2_with fail
                      go_ret
                      exact ⟨rfl, rfl⟩
end Go.Proofs.YtbgbmojoldkcfaaDoor
