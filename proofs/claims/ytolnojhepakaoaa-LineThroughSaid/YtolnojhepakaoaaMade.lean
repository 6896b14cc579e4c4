/- NewReader where it may be made, Whole, Lines and Err of a Reader that is there. -/
import Derived.Test.YtolnojhepakaoaaNils
import Derived.Test.YtolnojhepakaoaaRd
namespace Go.Proofs.Ytolnojhepakaoaa
open Go.RowKit

set_option maxRecDepth 100000 in
set_option maxHeartbeats 800000 in
theorem reader_ok (f : Nat) (size sep : Int) (w : World) (h : why size sep = 0) : Calls Try.prog 18 #[.pointer (some ⟨f, 0, none⟩), .int .i64 size, .int .u8 sep] w fun e w' =>
    ∃ r, e = .returned (.tuple #[.pointer (some ⟨r, 0, none⟩), .int .i64 0]) ∧ w.heap.size ≤ r ∧ RdAt w' r ⟨f, size, sep, .slice none 0 0, 0, 0, 0, false, false, 0, 0⟩ ∧ Keeps [] w w' := by
  have hr := refusal_at f size sep w
  rw [h] at hr
  have Hr := Lib.hid hr
  clear hr h
  go_enter Try.func18, Try.ntmps18
  go_wp2_with fail
  refine Hr.out.mono ?_
  rintro e w' ⟨rfl, rfl⟩
  go_wp2_with fail
  go_ret2
  exact ⟨_, rfl, Nat.le_refl _, by unfold RdAt World.alloc; simp [Rd.arr], (Keeps.refl _ _).alloc _⟩

theorem rwhole_at (r : Nat) (d : Rd) (w : World) (hr : RdAt w r d) : Calls Try.prog 37 #[.pointer (some ⟨r, 0, none⟩)] w fun e w' => e = .returned (.bool (!d.ba)) ∧ w = w' := by
  have g8 : w.cell? ⟨r, 8, none⟩ = some (.bool d.ba) := by rw [hr.cell]; rfl
  clear hr
  go_enter Try.func37, Try.ntmps37
  go_wp2_with fail
  go_ret
  exact ⟨rfl, rfl⟩
theorem rlines_at (r : Nat) (d : Rd) (w : World) (hr : RdAt w r d) : Calls Try.prog 22 #[.pointer (some ⟨r, 0, none⟩)] w fun e w' => e = .returned (.int .i64 d.ln) ∧ w = w' := by
  have g9 : w.cell? ⟨r, 9, none⟩ = some (.int .i64 d.ln) := by rw [hr.cell]; rfl
  clear hr
  go_enter Try.func22, Try.ntmps22
  go_wp2_with fail
  go_ret
  exact ⟨rfl, rfl⟩
theorem rerr_at (r : Nat) (d : Rd) (w : World) (hr : RdAt w r d) : Calls Try.prog 24 #[.pointer (some ⟨r, 0, none⟩)] w fun e w' => e = .returned (.int .i64 d.er) ∧ w = w' := by
  have g10 : w.cell? ⟨r, 10, none⟩ = some (.int .i64 d.er) := by rw [hr.cell]; rfl
  clear hr
  go_enter Try.func24, Try.ntmps24
  go_wp2_with fail
  go_ret
  exact ⟨rfl, rfl⟩
end Go.Proofs.Ytolnojhepakaoaa
