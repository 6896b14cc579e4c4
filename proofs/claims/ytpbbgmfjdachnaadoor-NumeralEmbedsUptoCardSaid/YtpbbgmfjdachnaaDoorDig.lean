/- numeral's lists of digits: count, zero, at, compare. -/
import Derived.Test.YtpbbgmfjdachnaaDoorScanOk
namespace Go.Proofs.YtpbbgmfjdachnaaDoor
open Go.RowKit Go.Sort Go.Lib

def digV (p q : ByteArray) : Value := .agg #[.string p, .string q]

set_option maxHeartbeats 400000 in
theorem count_ok (p q : ByteArray) (w : World) (hp : p.size ≤ 1125899906842624) (hq : q.size ≤ 1125899906842624) :
    Calls Tryd.prog 72 #[.agg #[.string p, .string q]] w (RetBelow w (.int .i64 (p.size + q.size : Nat))) := by
  go_enter Tryd.func72, Tryd.ntmps72
  go_wp2_with fail
  go_ret
  exact ⟨by go_num, (Below.refl _ _).alloc (Nat.le_refl _) _⟩
set_option maxHeartbeats 400000 in
theorem digZero_ok (p q : ByteArray) (w : World) (hp : p.size ≤ 1125899906842624) (hq : q.size ≤ 1125899906842624) :
    Calls Tryd.prog 35 #[.agg #[.string p, .string q]] w (RetBelow w (.bool (decide (p.size + q.size = 0)))) := by
  go_enter Tryd.func35, Tryd.ntmps35
  go_wp2_with fail
  refine (count_ok p q _ hp hq).mono ?_
  rintro e w1 ⟨rfl, hb⟩
  have B := Lib.hid (((Below.refl _ w).alloc (Nat.le_refl _) (Obj.cells #[Value.string p, Value.string q] 58)).trans (hb.mono (by simp)))
  clear hb
  have E := Lib.hid (show (((p.size + q.size : Nat) : Int) == 0) = decide (p.size + q.size = 0) by rw [Bool.eq_iff_iff, beq_iff_eq, decide_eq_true_iff]; omega)
  generalize p.size + q.size = n at *
  go_wp2_with fail
  go_ret
  exact ⟨by rw [← E.out]; rfl, B.out⟩
set_option maxHeartbeats 800000 in
theorem digAt_ok (p q : ByteArray) (i : Nat) (w : World) (hi : i < p.size + q.size) (hq : q.size ≤ 1125899906842624) :
    Calls Tryd.prog 114 #[.agg #[.string p, .string q], .int .i64 i] w (RetBelow w (.int .u8 (atB (p.data.toList ++ q.data.toList) i).toNat)) := by
  by_cases h : i < p.size
  · have E := Lib.hid (show atB (p.data.toList ++ q.data.toList) i = p[i] by
      rw [← get_atB p i h]; unfold atB; simp only [List.getD_eq_getElem?_getD]; rw [List.getElem?_append_left (by rw [← Lib.size_eq]; exact h)])
    go_enter Tryd.func114, Tryd.ntmps114
    go_wp2_with fail
    go_ret
    exact ⟨by rw [E.out]; rfl, (Below.refl _ _).alloc (Nat.le_refl _) _⟩
  · have hj : i - p.size < q.size := by omega
    have E := Lib.hid (show atB (p.data.toList ++ q.data.toList) i = q[i - p.size] by
      rw [← get_atB q (i - p.size) hj]; unfold atB; simp only [List.getD_eq_getElem?_getD]; rw [List.getElem?_append_right (by rw [← Lib.size_eq]; omega), ← Lib.size_eq])
    obtain ⟨j, hj2⟩ : ∃ j : Nat, i = p.size + j := ⟨i - p.size, by omega⟩
    subst hj2
    go_enter Tryd.func114, Tryd.ntmps114
    go_wp2_with fail
    go_ret
    refine ⟨?_, (Below.refl _ _).alloc (Nat.le_refl _) _⟩
    rw [E.out]
    simp
end Go.Proofs.YtpbbgmfjdachnaaDoor
