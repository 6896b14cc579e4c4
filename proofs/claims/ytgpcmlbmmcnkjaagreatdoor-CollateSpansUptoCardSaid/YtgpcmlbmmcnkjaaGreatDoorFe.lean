/- keyspec.fieldsHold of options that say keys, modifiers and a separator, whole. -/
import Derived.Test.YtgpcmlbmmcnkjaaGreatDoorFa
import Derived.Test.YtgpcmlbmmcnkjaaGreatDoorFb
import Derived.Test.YtgpcmlbmmcnkjaaGreatDoorFc
import Derived.Test.YtgpcmlbmmcnkjaaGreatDoorFd
namespace Go.Proofs.YtgpcmlbmmcnkjaaGreatDoor
open Go.RowKit

theorem fields_ok (ks : List KeyL) (v : Value) (m : Nat) (t : Int) (w : World) (hmm : m < 65536) (hm : ∀ k ∈ ks, k.m < 65536) (hv : SlAt w w.heap.size v 6 ks.length (ksV ks)) :
    Calls Tryz.prog 51 #[.agg #[v, .int .u16 (m : Int), .int .i64 t, .bool false, .bool false, .bool false, .bool false, .int .u8 0, .string ⟨#[]⟩, .bool false, .int .i64 0, .int .i64 0, .int .i64 0, .int .i64 0, .string ⟨#[]⟩, .bool false, .string ⟨#[]⟩, .slice none 0 0]] w (RetBk w (.bool (fhS ks m t))) := by
  obtain ⟨ao, c, rfl⟩ := sl_shape hv
  by_cases h1 : ks.length ≤ 16
  · have t1 : decide ((ks.length : Int) ≤ 16) = true := by rw [decide_eq_true_eq]; omega
    have B0 := (Below.refl w.heap.size w).alloc (Nat.le_refl _) (.cells (oC (.slice ao ks.length c) m t).toArray 28)
    have C := Lib.hid (contains_ok ks (.slice ao ks.length c) (w.alloc (.cells (oC (.slice ao ks.length c) m t).toArray 28)) hm h1 ((hv.keep B0 (Nat.le_refl _)).mono (by simp)))
    have HF : fhS ks m t = (ks.all hb && (decide (m < 1024) && decide (-1 ≤ t ∧ t ≤ 255))) := by unfold fhS; rw [decide_eq_true h1]; rfl
    rw [HF]
    cases hx : ks.all hb
    · rw [hx] at C
      exact fields_b1 ks m t ao c w t1 C
    · rw [hx] at C
      by_cases h2 : m < 1024
      · have e2 : bits BinOp.andNot IntKind.u16 (m : Int) 1023 = 0 := clr_low ⟨m, h2⟩
        rw [decide_eq_true h2]
        by_cases h3 : -1 ≤ t ∧ t ≤ 255
        · rw [decide_eq_true h3]
          exact fields_b0 ks m t ao c w t1 C e2 (Lib.hid (fun w => within_t t (-1) 255 h3.1 h3.2 w))
        · rw [decide_eq_false h3]
          exact fields_b3 ks m t ao c w t1 C e2 (Lib.hid (fun w => within_f t (-1) 255 h3 w))
      · obtain ⟨d, e2, e3⟩ := clr_big m hmm h2
        rw [decide_eq_false h2]
        exact fields_b2 ks m t ao c w t1 C d e2 e3
  · have HF : fhS ks m t = false := by unfold fhS; rw [decide_eq_false h1]; rfl
    rw [HF]
    exact fields_b4 ks m t ao c w (by rw [decide_eq_false_iff_not]; omega)
end Go.Proofs.YtgpcmlbmmcnkjaaGreatDoor
