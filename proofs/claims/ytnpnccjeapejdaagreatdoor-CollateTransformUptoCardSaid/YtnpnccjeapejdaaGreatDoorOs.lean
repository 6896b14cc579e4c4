/- The order's Span. -/
import Derived.Test.YtnpnccjeapejdaaGreatDoorNm
namespace Go.Proofs.YtnpnccjeapejdaaGreatDoor
section
open Go.RowKit
set_option maxRecDepth 100000
end
section
open Go.RowKit
set_option maxRecDepth 100000
theorem num_ok (x : Int) (w : World) : Calls Tryz.prog 18 #[.int .i64 x] w (RetV w (.int .i64 x)) := by
  go_enter Tryz.func18, Tryz.ntmps18
  go_wp2_with fail
  go_ret
  exact ⟨rfl, rfl⟩
theorem kysV_at (t : Int) : ∀ (D : List (KeyL × Value)) (i : Nat) (hi : i < D.length) (j : Nat), j < 10 → (kysV t D)[i * 10 + j]? = (kyC t D[i].1 D[i].2)[j]?
  | [], i, hi, _, _ => by simp at hi
  | p :: D, 0, _, j, hj => by
    have e : kysV t (p :: D) = kyC t p.1 p.2 ++ kysV t D := by simp [kysV]
    rw [e, List.getElem?_append_left (by simp [kyC]; omega), Nat.zero_mul, Nat.zero_add]
    rfl
  | p :: D, i + 1, hi, j, hj => by
    have e : kysV t (p :: D) = kyC t p.1 p.2 ++ kysV t D := by simp [kysV]
    have hl : (kyC t p.1 p.2).length = 10 := rfl
    rw [e, List.getElem?_append_right (by rw [hl]; omega), hl, show (i + 1) * 10 + j - 10 = i * 10 + j by omega]
    exact kysV_at t D i (by simpa using hi) j hj
end
end Go.Proofs.YtnpnccjeapejdaaGreatDoor
