/- The document's shaped: may a key's numbers be? -/
import Derived.Test.YtgpcmlbmmcnkjaaGreatDoorHa
namespace Go.Proofs.YtgpcmlbmmcnkjaaGreatDoor
open Go.RowKit

set_option maxRecDepth 100000
attribute [local go_sem] undef
/-- The numbers of a key. -/
def shB (f c ef ec : Int) (m : Nat) (b : Bool) : Bool := !decide (f < 1) && (!decide (2147483647 < f) && (!decide (c < 1) && (!decide (2147483647 < c) && (!decide (ef < 0) && (!decide (2147483647 < ef) && (!decide (ec < 0) && (!decide (2147483647 < ec) && (!(ef == 0 && ((ec != 0) || b)) && decide ((m : Int) < 1024)))))))))
set_option maxHeartbeats 6400000 in
theorem shaped_ok (f c ef ec : Int) (m : Nat) (b : Bool) (hm : m < 65536) (w : World) : Calls Tryz.prog 38 #[.agg #[.int .i64 f, .int .i64 c, .int .i64 ef, .int .i64 ec, .int .u16 (m : Int), .bool b]] w (RetBk w (.bool (shB f c ef ec m b))) := by
  have B0 := Lib.hid ((Below.refl w.heap.size w).alloc (Nat.le_refl _) (.cells #[.int .i64 f, .int .i64 c, .int .i64 ef, .int .i64 ec, .int .u16 (m : Int), .bool b] 35))
  have cv : IntKind.i64.wrap (m : Int) = (m : Int) := by simp [IntKind.wrap, IntKind.bits, IntKind.signed]; omega
  have HS := Lib.hid (show shB f c ef ec m b = (!decide (f < 1) && (!decide (2147483647 < f) && (!decide (c < 1) && (!decide (2147483647 < c) && (!decide (ef < 0) && (!decide (2147483647 < ef) && (!decide (ec < 0) && (!decide (2147483647 < ec) && (!(ef == 0 && ((ec != 0) || b)) && decide ((m : Int) < 1024)))))))))) from rfl)
  generalize shB f c ef ec m b = r at HS ⊢
  clear hm
  cases p0 : decide (f < 1)
  rotate_left
  · rw [p0] at HS
    go_enter Tryz.func38, Tryz.ntmps38
    go_wp2_with fail
    go_ret
    exact ⟨by rw [HS.out]; rfl, B0.out⟩
  rw [p0] at HS
  cases p1 : decide (2147483647 < f)
  rotate_left
  · rw [p1] at HS
    go_enter Tryz.func38, Tryz.ntmps38
    go_wp2_with fail
    go_ret
    exact ⟨by rw [HS.out]; rfl, B0.out⟩
  rw [p1] at HS
  cases p2 : decide (c < 1)
  rotate_left
  · rw [p2] at HS
    go_enter Tryz.func38, Tryz.ntmps38
    go_wp2_with fail
    go_ret
    exact ⟨by rw [HS.out]; rfl, B0.out⟩
  rw [p2] at HS
  cases p3 : decide (2147483647 < c)
  rotate_left
  · rw [p3] at HS
    go_enter Tryz.func38, Tryz.ntmps38
    go_wp2_with fail
    go_ret
    exact ⟨by rw [HS.out]; rfl, B0.out⟩
  rw [p3] at HS
  cases p4 : decide (ef < 0)
  rotate_left
  · rw [p4] at HS
    go_enter Tryz.func38, Tryz.ntmps38
    go_wp2_with fail
    go_ret
    exact ⟨by rw [HS.out]; rfl, B0.out⟩
  rw [p4] at HS
  cases p5 : decide (2147483647 < ef)
  rotate_left
  · rw [p5] at HS
    go_enter Tryz.func38, Tryz.ntmps38
    go_wp2_with fail
    go_ret
    exact ⟨by rw [HS.out]; rfl, B0.out⟩
  rw [p5] at HS
  cases p6 : decide (ec < 0)
  rotate_left
  · rw [p6] at HS
    go_enter Tryz.func38, Tryz.ntmps38
    go_wp2_with fail
    go_ret
    exact ⟨by rw [HS.out]; rfl, B0.out⟩
  rw [p6] at HS
  cases p7 : decide (2147483647 < ec)
  rotate_left
  · rw [p7] at HS
    go_enter Tryz.func38, Tryz.ntmps38
    go_wp2_with fail
    go_ret
    exact ⟨by rw [HS.out]; rfl, B0.out⟩
  rw [p7] at HS
  cases q0 : (ef == 0)
  · rw [q0] at HS
    cases s0 : decide ((m : Int) < 1024)
    · rw [s0] at HS
      go_enter Tryz.func38, Tryz.ntmps38
      go_wp2_with fail
      go_ret
      exact ⟨by rw [HS.out]; rfl, B0.out⟩
    · rw [s0] at HS
      go_enter Tryz.func38, Tryz.ntmps38
      go_wp2_with fail
      go_ret
      exact ⟨by rw [HS.out]; rfl, B0.out⟩
  rw [q0] at HS
  cases q1 : (ec != 0)
  rotate_left
  · rw [q1] at HS
    go_enter Tryz.func38, Tryz.ntmps38
    go_wp2_with fail
    go_ret
    exact ⟨by rw [HS.out]; rfl, B0.out⟩
  rw [q1] at HS
  cases b
  rotate_left
  · go_enter Tryz.func38, Tryz.ntmps38
    go_wp2_with fail
    go_ret
    exact ⟨by rw [HS.out]; rfl, B0.out⟩
  cases s0 : decide ((m : Int) < 1024)
  · rw [s0] at HS
    go_enter Tryz.func38, Tryz.ntmps38
    go_wp2_with fail
    go_ret
    exact ⟨by rw [HS.out]; rfl, B0.out⟩
  · rw [s0] at HS
    go_enter Tryz.func38, Tryz.ntmps38
    go_wp2_with fail
    go_ret
    exact ⟨by rw [HS.out]; rfl, B0.out⟩
end Go.Proofs.YtgpcmlbmmcnkjaaGreatDoor
