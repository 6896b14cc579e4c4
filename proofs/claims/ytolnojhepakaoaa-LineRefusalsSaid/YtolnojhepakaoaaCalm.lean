/- A system with room, and a Sink: the walks. -/
import Derived.Test.YtolnojhepakaoaaNew
import Derived.Test.YtolnojhepakaoaaNils
import Derived.Test.YtolnojhepakaoaaStats
namespace Go.Proofs.Ytolnojhepakaoaa
open Go.RowKit Go.Maps Go.MuLone

set_option maxRecDepth 100000 in
set_option maxHeartbeats 800000 in
theorem calm_nil (w : World) : Calls Try.prog 16 #[.slice none 0 0] w fun e w' => ∃ b mp sh' d, e = .returned (.pointer (some ⟨b, 0, none⟩)) ∧ FsAt w' b 0 (newFS 67108864 8 8 0 sh' d mp) ∧ w.heap.size ≤ b ∧ Keeps [] w w' := by
  go_enter Try.func16, Try.ntmps16
  go_wp2_with fail
  refine wp_loop_rounds 1 ?_; rw [rounds_succ]
  go_wp2_with fail
  refine (new_ok 67108864 8 8 0 (.slice none 0 0) _ (.inl ⟨none, 0, rfl⟩) (by omega) (by omega) (by omega) (by omega) (by omega) (by omega) (by omega)).mono ?_
  rintro e w1 ⟨b, mp, sh', d, rfl, hb1, hm1, hs1, hne, hwb, hwm, hk1⟩
  have hk : Keeps [] w w1 := ((Keeps.refl [] w).alloc _).trans hk1
  have hwb' : w.heap.size ≤ b := by simp at hwb; omega
  have Hb1 := Lib.hid hb1
  have Hk := Lib.hid hk
  clear hb1 hm1 hs1 hk hk1 hwb
  go_wp2_with fail
  refine (num_ok 0 w1).mono ?_
  rintro e w' ⟨rfl, rfl⟩
  go_wp2_with fail
  go_ret
  exact ⟨b, mp, sh', d, rfl, Hb1.out, hwb', Hk.out⟩

set_option maxRecDepth 100000 in
set_option maxHeartbeats 800000 in
theorem sink_ok (b : Nat) (s : FSt) (w : World) (hb : FsAt w b 0 s) : Calls Try.prog 28 #[.pointer (some ⟨b, 0, none⟩), .int .i64 (-1)] w fun e w' => ∃ f, e = .returned (.pointer (some ⟨f, 0, none⟩)) ∧ FsAt w' b 0 s ∧ w.heap.size ≤ f ∧ Keeps [b] w w' := by
  have z0 : w.cell? ⟨b, 0, none⟩ = some (.int .i32 0) := by rw [hb.cell]; rfl
  have f0 := hb.free 0
  have Hb := Lib.hid hb
  clear hb
  go_enter_defers Try.func28, Try.ntmps28
  go_wp2_with fail
  refine (lock_free Try.muLib ⟨b, 0, none⟩ _ z0 f0).mono ?_
  rintro e w1 ⟨rfl, hw1⟩
  have hb1 : FsAt w1 b 1 s := by rw [hw1]; exact Hb.out.set 0 _ rfl
  have kp1 : Keeps [b] w w1 := by rw [hw1]; exact (Keeps.refl _ _).setCell (by simp) _
  clear z0 f0 hw1
  have g32 : w1.cell? ⟨b, 32, none⟩ = some (.int .i64 s.life) := by rw [hb1.cell]; rfl
  have Hb1 := Lib.hid hb1
  have Kp1 := Lib.hid kp1
  clear hb1 kp1
  go_wp2_with fail
  have hb2 := (Hb1.out.alloc (.cells #[.slice none 0 0, .int .i64 0, .int .i64 0, .bool false] 97)).alloc (.cells #[.pointer (some ⟨b, 0, none⟩), .int .i64 s.life, .string ⟨#[]⟩, .bool false, .bool true, .bool false, .pointer (some ⟨w1.heap.size, 0, none⟩), .int .i64 0, .int .i64 9223372036854775807] 99)
  have kp2 := (Kp1.out.alloc (.cells #[.slice none 0 0, .int .i64 0, .int .i64 0, .bool false] 97)).alloc (.cells #[.pointer (some ⟨b, 0, none⟩), .int .i64 s.life, .string ⟨#[]⟩, .bool false, .bool true, .bool false, .pointer (some ⟨w1.heap.size, 0, none⟩), .int .i64 0, .int .i64 9223372036854775807] 99)
  have hsz := Kp1.out.size
  generalize hw2 : World.alloc (World.alloc w1 _) _ = w2 at *
  clear hw2
  refine leaves_cons (f := 43) (args := #[.pointer (some ⟨b, 0, none⟩)]) (by simp) (by simp [go_sem]) ?_
  refine (unlock_deferred Try.muLib ⟨b, 0, none⟩ .returning _ ?_ ?_).mono ?_
  · rw [hb2.cell]; rfl
  · exact hb2.free 0
  rintro e u' w'' ⟨rfl, rfl, rfl⟩
  exact ⟨_, results_tmp rfl _ _ _, _, rfl, hb2.set 0 _ rfl, by omega, kp2.setCell (by simp) _⟩
end Go.Proofs.Ytolnojhepakaoaa
