/- Files: made, closed, free; and the count of bytes: the walks. -/
import Derived.Test.YtolnojhepakaoaaOpen
namespace Go.Proofs.Ytolnojhepakaoaa
open Go.RowKit Go.Maps Go.MuLone

theorem file_facts {w : World} {f b : Nat} {life : Int} {nm : ByteArray} {x y z : Bool} {g : Nat} {p q : Int} (h : FileAt w f b life nm x y z g p q) :
    w.cell? ⟨f, 0, none⟩ = some (.pointer (some ⟨b, 0, none⟩)) ∧ w.cell? ⟨f, 1, none⟩ = some (.int .i64 life) ∧ w.cell? ⟨f, 3, none⟩ = some (.bool x) ∧ w.cell? ⟨f, 4, none⟩ = some (.bool y) ∧ w.cell? ⟨f, 5, none⟩ = some (.bool z) ∧
      w.cell? ⟨f, 6, none⟩ = some (.pointer (some ⟨g, 0, none⟩)) ∧ w.cell? ⟨f, 7, none⟩ = some (.int .i64 p) ∧ w.cell? ⟨f, 8, none⟩ = some (.int .i64 q) ∧ w.frozen? ⟨f, 5, none⟩ = false ∧ w.frozen? ⟨f, 7, none⟩ = false :=
  ⟨by rw [cell_of h]; rfl, by rw [cell_of h]; rfl, by rw [cell_of h]; rfl, by rw [cell_of h]; rfl, by rw [cell_of h]; rfl, by rw [cell_of h]; rfl, by rw [cell_of h]; rfl, by rw [cell_of h]; rfl, free_of h, free_of h⟩

set_option maxHeartbeats 400000 in
theorem made_ok (f b : Nat) (w : World) (h : w.cell? ⟨f, 0, none⟩ = some (.pointer (some ⟨b, 0, none⟩))) :
    Calls Try.prog 73 #[.pointer (some ⟨f, 0, none⟩)] w fun e w' => e = .returned (.bool true) ∧ w = w' := by
  go_enter Try.func73, Try.ntmps73
  go_wp2_with fail
  go_ret
  exact ⟨rfl, rfl⟩

set_option maxHeartbeats 400000 in
/-- A File that is open. -/
theorem closed_no (f b : Nat) (life : Int) (w : World) (h0 : w.cell? ⟨f, 0, none⟩ = some (.pointer (some ⟨b, 0, none⟩))) (h1 : w.cell? ⟨f, 1, none⟩ = some (.int .i64 life)) (h5 : w.cell? ⟨f, 5, none⟩ = some (.bool false)) (hl : w.cell? ⟨b, 32, none⟩ = some (.int .i64 life)) :
    Calls Try.prog 84 #[.pointer (some ⟨f, 0, none⟩)] w fun e w' => e = .returned (.bool false) ∧ ∃ q, w' = w.drewN q := by
  go_enter Try.func84, Try.ntmps84
  go_wp2_with fail
  go_quiet (fail)
  go_wp2_with fail
  go_ret
  exact ⟨rfl, _, rfl⟩

set_option maxHeartbeats 400000 in
/-- How many bytes a file's File still takes. -/
theorem free_named (f b : Nat) (mb used : Int) (w : World) (h0 : w.cell? ⟨f, 0, none⟩ = some (.pointer (some ⟨b, 0, none⟩))) (h3 : w.cell? ⟨f, 3, none⟩ = some (.bool true)) (hm : w.cell? ⟨b, 2, none⟩ = some (.int .i64 mb)) (hu : w.cell? ⟨b, 27, none⟩ = some (.int .i64 used))
    (m0 : 0 ≤ mb) (m1 : mb ≤ 4611686018427387904) (u0 : 0 ≤ used) (u1 : used ≤ 4611686018427387904) :
    Calls Try.prog 89 #[.pointer (some ⟨f, 0, none⟩)] w fun e w' => e = .returned (.int .i64 (mb - used)) ∧ ∃ q, w' = w.drewN q := by
  go_enter Try.func89, Try.ntmps89
  go_wp2_with fail
  go_quiet (fail)
  go_wp2_with fail
  go_ret
  exact ⟨rfl, _, rfl⟩

def FSt.grown (s : FSt) (n : Int) : FSt := { s with used := s.used + n, most := max s.most (s.used + n) }

set_option maxRecDepth 100000 in
set_option maxHeartbeats 400000 in
theorem grow_ok (b : Nat) (l n : Int) (s : FSt) (w : World) (hb : FsAt w b l s) (u0 : -4611686018427387904 ≤ s.used + n) (u1 : s.used + n ≤ 4611686018427387904) :
    Calls Try.prog 51 #[.pointer (some ⟨b, 0, none⟩), .int .i64 n] w fun e w' => e = .returned (.tuple #[]) ∧ FsAt w' b l (s.grown n) ∧ Keeps [b] w w' := by
  have g27 : w.cell? ⟨b, 27, none⟩ = some (.int .i64 s.used) := by rw [hb.cell]; rfl
  have f27 := hb.free 27
  go_enter Try.func51, Try.ntmps51
  go_wp2_with fail
  have hb1 := hb.set (s' := { s with used := s.used + n }) (l' := l) 27 (.int .i64 (s.used + n)) rfl
  have kp1 := (Keeps.refl [b] w).setCell (p := ⟨b, 27, none⟩) (by simp) (.int .i64 (s.used + n))
  clear g27 f27 hb
  generalize w.setCell ⟨b, 27, none⟩ (.int .i64 (s.used + n)) = w1 at *
  have g27 : w1.cell? ⟨b, 27, none⟩ = some (.int .i64 (s.used + n)) := by rw [hb1.cell]; rfl
  have g28 : w1.cell? ⟨b, 28, none⟩ = some (.int .i64 s.most) := by rw [hb1.cell]; rfl
  have f28 := hb1.free 28
  go_still_tail 15, (by kernel_rfl)
  change wpList _ _ _ _ _ w1.drew
  have g28' : w1.drew.cell? ⟨b, 28, none⟩ = some (.int .i64 s.most) := by rw [hb1.drew.cell]; rfl
  have f28' : w1.drew.frozen? ⟨b, 28, none⟩ = false := hb1.drew.free 28
  have hb2 := hb1.drew
  have kp2 := kp1.drew
  clear g27 g28 f28 hb1 kp1
  generalize w1.drew = w2 at *
  go_wp2_with fail
  go_end0
  exact ⟨rfl, hb2.set 28 _ rfl, kp2.setCell (by simp) _⟩

end Go.Proofs.Ytolnojhepakaoaa
