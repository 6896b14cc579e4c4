/- modOf, number, skip, keyOf: the program's. -/
import Derived.Test.YtbgbmojoldkcfaaDoorRk
import Derived.Deep.QuietTactic
import Derived.BigQuiet
namespace Go.Proofs.YtbgbmojoldkcfaaDoor
open Go.RowKit

def cBits : Array Value := #[.int .u16 1, .int .u16 2, .int .u16 4, .int .u16 32, .int .u16 64, .int .u16 8, .int .u16 128, .int .u16 16, .int .u16 512, .int .u16 256]
/-- The table of letters' bits lies where the program's start has laid it. -/
def BitsT (w : World) : Prop := ∃ t fr, w.heap[2]? = some (.cells cBits t fr)
theorem BitsT.below {w w' : World} (h : BitsT w) (k : Below w.heap.size w w') : BitsT w' := by
  obtain ⟨t, fr, h0⟩ := h
  exact ⟨t, fr, (k.block 2 (lt_of_block h0)).trans h0⟩
def letB : ByteArray := ⟨#[98, 100, 102, 103, 104, 105, 77, 110, 114, 86]⟩
set_option maxHeartbeats 1600000 in
theorem mod_ok (c : UInt8) (w : World) (T : BitsT w) : Calls Tryd.prog 39 #[.int .u8 c.toNat] w (RetV w (.int .u16 (bitS c))) := by
  obtain ⟨t, fr, hb⟩ := T
  have cell : ∀ j v, cBits[j]? = some v → w.cell? ⟨2, j, none⟩ = some v := fun j v h => by rw [cell_of_row w 2 j cBits t fr hb]; exact h
  have IX := Tryd.strings_IndexByte letB c.toNat w
  rw [show ((c.toNat : Int)).toNat.toUInt8 = c by simp] at IX
  have IX := Lib.hid IX
  by_cases h98 : c.toNat = 98
  · obtain rfl : c = 98 := eq_of_nat h98
    have hc := cell 0 _ rfl
    have I2 := Lib.hid (show Calls Tryd.prog 48 #[.string letB, .int .u8 98] w (fun e w' => e = .returned (.int .i64 0) ∧ w' = w) from IX.out)
    clear cell h98
    go_enter Tryd.func39, Tryd.ntmps39
    go_wp2_with fail
    refine I2.out.mono ?_
    rintro e w' ⟨rfl, rfl⟩
    go_wp2_with fail
    go_ret
    exact ⟨rfl, rfl⟩
  · skip
    by_cases h100 : c.toNat = 100
    · obtain rfl : c = 100 := eq_of_nat h100
      have hc := cell 1 _ rfl
      have I2 := Lib.hid (show Calls Tryd.prog 48 #[.string letB, .int .u8 100] w (fun e w' => e = .returned (.int .i64 1) ∧ w' = w) from IX.out)
      clear cell h98 h100
      go_enter Tryd.func39, Tryd.ntmps39
      go_wp2_with fail
      refine I2.out.mono ?_
      rintro e w' ⟨rfl, rfl⟩
      go_wp2_with fail
      go_ret
      exact ⟨rfl, rfl⟩
    · skip
      by_cases h102 : c.toNat = 102
      · obtain rfl : c = 102 := eq_of_nat h102
        have hc := cell 2 _ rfl
        have I2 := Lib.hid (show Calls Tryd.prog 48 #[.string letB, .int .u8 102] w (fun e w' => e = .returned (.int .i64 2) ∧ w' = w) from IX.out)
        clear cell h98 h100 h102
        go_enter Tryd.func39, Tryd.ntmps39
        go_wp2_with fail
        refine I2.out.mono ?_
        rintro e w' ⟨rfl, rfl⟩
        go_wp2_with fail
        go_ret
        exact ⟨rfl, rfl⟩
      · skip
        by_cases h103 : c.toNat = 103
        · obtain rfl : c = 103 := eq_of_nat h103
          have hc := cell 3 _ rfl
          have I2 := Lib.hid (show Calls Tryd.prog 48 #[.string letB, .int .u8 103] w (fun e w' => e = .returned (.int .i64 3) ∧ w' = w) from IX.out)
          clear cell h98 h100 h102 h103
          go_enter Tryd.func39, Tryd.ntmps39
          go_wp2_with fail
          refine I2.out.mono ?_
          rintro e w' ⟨rfl, rfl⟩
          go_wp2_with fail
          go_ret
          exact ⟨rfl, rfl⟩
        · skip
          by_cases h104 : c.toNat = 104
          · obtain rfl : c = 104 := eq_of_nat h104
            have hc := cell 4 _ rfl
            have I2 := Lib.hid (show Calls Tryd.prog 48 #[.string letB, .int .u8 104] w (fun e w' => e = .returned (.int .i64 4) ∧ w' = w) from IX.out)
            clear cell h98 h100 h102 h103 h104
            go_enter Tryd.func39, Tryd.ntmps39
            go_wp2_with fail
            refine I2.out.mono ?_
            rintro e w' ⟨rfl, rfl⟩
            go_wp2_with fail
            go_ret
            exact ⟨rfl, rfl⟩
          · skip
            by_cases h105 : c.toNat = 105
            · obtain rfl : c = 105 := eq_of_nat h105
              have hc := cell 5 _ rfl
              have I2 := Lib.hid (show Calls Tryd.prog 48 #[.string letB, .int .u8 105] w (fun e w' => e = .returned (.int .i64 5) ∧ w' = w) from IX.out)
              clear cell h98 h100 h102 h103 h104 h105
              go_enter Tryd.func39, Tryd.ntmps39
              go_wp2_with fail
              refine I2.out.mono ?_
              rintro e w' ⟨rfl, rfl⟩
              go_wp2_with fail
              go_ret
              exact ⟨rfl, rfl⟩
            · skip
              by_cases h77 : c.toNat = 77
              · obtain rfl : c = 77 := eq_of_nat h77
                have hc := cell 6 _ rfl
                have I2 := Lib.hid (show Calls Tryd.prog 48 #[.string letB, .int .u8 77] w (fun e w' => e = .returned (.int .i64 6) ∧ w' = w) from IX.out)
                clear cell h98 h100 h102 h103 h104 h105 h77
                go_enter Tryd.func39, Tryd.ntmps39
                go_wp2_with fail
                refine I2.out.mono ?_
                rintro e w' ⟨rfl, rfl⟩
                go_wp2_with fail
                go_ret
                exact ⟨rfl, rfl⟩
              · skip
                by_cases h110 : c.toNat = 110
                · obtain rfl : c = 110 := eq_of_nat h110
                  have hc := cell 7 _ rfl
                  have I2 := Lib.hid (show Calls Tryd.prog 48 #[.string letB, .int .u8 110] w (fun e w' => e = .returned (.int .i64 7) ∧ w' = w) from IX.out)
                  clear cell h98 h100 h102 h103 h104 h105 h77 h110
                  go_enter Tryd.func39, Tryd.ntmps39
                  go_wp2_with fail
                  refine I2.out.mono ?_
                  rintro e w' ⟨rfl, rfl⟩
                  go_wp2_with fail
                  go_ret
                  exact ⟨rfl, rfl⟩
                · skip
                  by_cases h114 : c.toNat = 114
                  · obtain rfl : c = 114 := eq_of_nat h114
                    have hc := cell 8 _ rfl
                    have I2 := Lib.hid (show Calls Tryd.prog 48 #[.string letB, .int .u8 114] w (fun e w' => e = .returned (.int .i64 8) ∧ w' = w) from IX.out)
                    clear cell h98 h100 h102 h103 h104 h105 h77 h110 h114
                    go_enter Tryd.func39, Tryd.ntmps39
                    go_wp2_with fail
                    refine I2.out.mono ?_
                    rintro e w' ⟨rfl, rfl⟩
                    go_wp2_with fail
                    go_ret
                    exact ⟨rfl, rfl⟩
                  · skip
                    by_cases h86 : c.toNat = 86
                    · obtain rfl : c = 86 := eq_of_nat h86
                      have hc := cell 9 _ rfl
                      have I2 := Lib.hid (show Calls Tryd.prog 48 #[.string letB, .int .u8 86] w (fun e w' => e = .returned (.int .i64 9) ∧ w' = w) from IX.out)
                      clear cell h98 h100 h102 h103 h104 h105 h77 h110 h114 h86
                      go_enter Tryd.func39, Tryd.ntmps39
                      go_wp2_with fail
                      refine I2.out.mono ?_
                      rintro e w' ⟨rfl, rfl⟩
                      go_wp2_with fail
                      go_ret
                      exact ⟨rfl, rfl⟩
                    · skip
                      have e : bitS c = 0 := by
                        unfold bitS
                        rw [if_neg (show ¬ c = 98 from fun e => h98 (by rw [e]; rfl)), if_neg (show ¬ c = 100 from fun e => h100 (by rw [e]; rfl)), if_neg (show ¬ c = 102 from fun e => h102 (by rw [e]; rfl)), if_neg (show ¬ c = 103 from fun e => h103 (by rw [e]; rfl)), if_neg (show ¬ c = 104 from fun e => h104 (by rw [e]; rfl)), if_neg (show ¬ c = 105 from fun e => h105 (by rw [e]; rfl)), if_neg (show ¬ c = 77 from fun e => h77 (by rw [e]; rfl)), if_neg (show ¬ c = 110 from fun e => h110 (by rw [e]; rfl)), if_neg (show ¬ c = 114 from fun e => h114 (by rw [e]; rfl)), if_neg (show ¬ c = 86 from fun e => h86 (by rw [e]; rfl))]
                      have ei : Lib.indexByte letB.data.toList c = -1 := by
                        have ne : ∀ d : UInt8, c.toNat ≠ d.toNat → (d == c) = false := fun d h => by rw [beq_eq_false_iff_ne]; intro e; exact h (by rw [e])
                        show Lib.indexByte [98, 100, 102, 103, 104, 105, 77, 110, 114, 86] c = -1
                        simp only [Lib.indexByte, ne 98 h98, ne 100 h100, ne 102 h102, ne 103 h103, ne 104 h104, ne 105 h105, ne 77 h77, ne 110 h110, ne 114 h114, ne 86 h86]
                        rfl
                      rw [ei] at IX
                      rw [e]
                      clear cell e ei h98 h100 h102 h103 h104 h105 h77 h110 h114 h86
                      go_enter Tryd.func39, Tryd.ntmps39
                      go_wp2_with fail
                      refine IX.out.mono ?_
                      rintro e w' ⟨rfl, rfl⟩
                      go_wp2_with fail
                      go_ret
                      exact ⟨rfl, rfl⟩
end Go.Proofs.YtbgbmojoldkcfaaDoor
