/- fits, of the statements: the walks. -/
import Derived.Test.YtolnojhepakaoaaNils
namespace Go.Proofs.Ytolnojhepakaoaa
open Go.RowKit

set_option maxHeartbeats 800000 in
theorem fits_ok (size sep n : Int) (w : World) (h : why size sep = 0) (hn : n ≤ 262144) : Calls Try.prog 15 #[.int .i64 size, .int .u8 sep, .int .i64 n] w fun e w' => e = .returned (.bool true) ∧ w = w' := by
  have hr := made_true size sep w
  rw [h] at hr
  have Hr := Lib.hid hr
  clear hr h
  have t : decide (n ≤ 262144) = true := by rw [decide_eq_true_iff]; exact hn
  go_enter Try.func15, Try.ntmps15
  go_wp2_with fail
  refine Hr.out.mono ?_
  rintro e w' ⟨rfl, rfl⟩
  go_wp2_with fail
  go_ret
  exact ⟨rfl, rfl⟩

set_option maxHeartbeats 800000 in
theorem fits_no (size sep n : Int) (w : World) (h : why size sep ≠ 0) : Calls Try.prog 15 #[.int .i64 size, .int .u8 sep, .int .i64 n] w fun e w' => e = .returned (.bool false) ∧ w = w' := by
  have hr := made_true size sep w
  generalize why size sep = r at *
  have Hr := Lib.hid hr
  have t : (r == 0) = false := by rw [beq_eq_false_iff_ne]; exact h
  clear hr h
  go_enter Try.func15, Try.ntmps15
  go_wp2_with fail
  refine Hr.out.mono ?_
  rintro e w' ⟨rfl, rfl⟩
  go_wp2_with fail
  go_ret
  exact ⟨rfl, rfl⟩

end Go.Proofs.Ytolnojhepakaoaa
