/- The answer's Fields, of every line and separator. -/
import Derived.Test.YtgpcmlbmmcnkjaaGreatDoorMe
namespace Go.Proofs.YtgpcmlbmmcnkjaaGreatDoor
open Go.RowKit
set_option maxRecDepth 100000
set_option maxHeartbeats 800000 in
theorem ref_empty (s : ByteArray) (w : World) (hs : s.size = 0) : Calls Tryz.prog 31 #[.string s, .int .i64 (-1)] w (RetSpans w []) := by
  have B0 := Lib.hid (Below.refl w.heap.size w)
  go_enter Tryz.func31, Tryz.ntmps31
  go_wp2_with fail
  go_loop [5, 7] (fun l i => l = .slice none 0 0 ∧ i = .int .i64 0) (fun _ _ => 0)
  case atStart => exact ⟨rfl, rfl⟩
  case round =>
    obtain ⟨rfl, rfl⟩ := hrel
    go_wp2_with fail
    go_ret
    exact ⟨.slice none 0 0, rfl, World.ownsRow_nil _ _ _ _, B0.out⟩
theorem ref_ok (o : Option UInt8) (s : ByteArray) (w : World) (hs : s.size ≤ 1048576) : Calls Tryz.prog 31 #[.string s, .int .i64 (tabI o)] w (RetSpans w (fieldsS s.data.toList o)) := by
  cases o with
  | some t =>
    have : fieldsS s.data.toList (some t) = spans s.data.toList (some t) (s.size + 1) 0 := by unfold fieldsS; rw [if_neg (by simp), Lib.size_eq]
    rw [this]
    exact ref_tab t s w hs
  | none =>
    by_cases h : s.size = 0
    · have : fieldsS s.data.toList none = [] := by unfold fieldsS; rw [if_pos ⟨rfl, List.eq_nil_of_length_eq_zero (by rw [← Lib.size_eq]; exact h)⟩]
      rw [this]
      exact ref_empty s w h
    · have : fieldsS s.data.toList none = spans s.data.toList none (s.size + 1) 0 := by unfold fieldsS; rw [if_neg (fun e => h (by rw [Lib.size_eq, e.2]; rfl)), Lib.size_eq]
      rw [this]
      exact ref_none s w hs h
end Go.Proofs.YtgpcmlbmmcnkjaaGreatDoor
