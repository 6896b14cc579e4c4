/- The system's count of calls, and what refuses a call ahead of its own errors, under a plan without faults: the walks. -/
import Derived.Test.YtolnojhepakaoaaProg
import Derived.Test.YtolnojhepakaoaaBase
import Derived.WalkKit
import Derived.WalkSpells
import Derived.WalkLawsBesides
import Derived.Deep.QuietTactic
import Derived.BigQuiet
import Derived.BigRegion
namespace Go.Proofs.Ytolnojhepakaoaa
open Go.RowKit
set_option maxHeartbeats 800000 in
theorem call_ok (b k : Nat) (l : Int) (s : FSt) (w : World) (hb : FsAt w b l s) (hk : k < 9) (hfa : s.fa = .slice none 0 0) (hpi : s.pi = 0) (c0 : 0 ≤ s.calls) (c1 : s.calls < 4611686018427387904) (o0 : 0 ≤ s.ops k) (o1 : s.ops k < 4611686018427387904) (hpp : s.pp = 0 ∨ s.calls + 1 < s.pp) (hd : s.drk = false) :
    Calls Try.prog 65 #[.pointer (some ⟨b, 0, none⟩), .int .u8 (k : Int)] w fun e w' => e = .returned (.int .i64 0) ∧ FsAt w' b l (s.called k false) ∧ Keeps [b] w w' := by
  have g13 : w.cell? ⟨b, 13, none⟩ = some (.int .i64 s.calls) := by rw [hb.cell]; rfl
  have f13 := hb.free 13
  have Hfa := Lib.hid hfa
  have Hpi := Lib.hid hpi
  have Hd := Lib.hid hd
  clear hfa hpi hd
  go_enter Try.func65, Try.ntmps65
  go_wp2_with fail
  have hb1 := hb.set (s' := { s with calls := s.calls + 1 }) (l' := l) 13 (.int .i64 (s.calls + 1)) rfl
  have kp1 := (Keeps.refl [b] w).setCell (p := ⟨b, 13, none⟩) (by simp) (.int .i64 (s.calls + 1))
  clear g13 f13 hb
  generalize w.setCell ⟨b, 13, none⟩ (.int .i64 (s.calls + 1)) = w1 at *
  have gk : w1.cell? ⟨b, 14 + k, none⟩ = some (.int .i64 (s.ops k)) := hb1.ops hk
  have fk := hb1.free (14 + k)
  have hk' : (k : Int) < 9 := by omega
  have hk0 : (0 : Int) ≤ (k : Int) := by omega
  go_region
  have hb2 := (hb1.set (s' := { s with calls := s.calls + 1, ops := upd s.ops k (s.ops k + 1) }) (l' := l) (14 + k) (.int .i64 (s.ops k + 1)) (arr_ops l _ hk _)).drew
  have kp2 := (kp1.setCell (p := ⟨b, 14 + k, none⟩) (by simp) (.int .i64 (s.ops k + 1))).drew
  clear gk fk kp1 hb1
  generalize (w1.setCell ⟨b, 14 + k, none⟩ (.int .i64 (s.ops k + 1))).drew = w2 at *
  have g13 : w2.cell? ⟨b, 13, none⟩ = some (.int .i64 (s.calls + 1)) := by rw [hb2.cell]; rfl
  have g10 : w2.cell? ⟨b, 10, none⟩ = some (.int .i64 0) := by rw [hb2.cell, ← Hpi.out]; rfl
  have t1 : (s.calls + 1 == 0) = false := by rw [beq_eq_false_iff_ne]; omega
  go_wp2_with fail
  go_quiet (fail)
  generalize hw3 : w2.drewN _ = w3 at *
  have hb3 := hb2.ofDrewN hw3
  have kp3 := kp2.ofDrewN hw3
  clear hw3 hb2 kp2 g13 g10
  go_wp2_with fail
  have g11 : w3.cell? ⟨b, 11, none⟩ = some (.int .i64 s.pp) := by rw [hb3.cell]; rfl
  have g13 : w3.cell? ⟨b, 13, none⟩ = some (.int .i64 (s.calls + 1)) := by rw [hb3.cell]; rfl
  rcases hpp with hpp | hpp
  · have t2 : (s.pp != 0) = false := by rw [hpp]; rfl
    clear hpp
    go_quiet (fail)
    generalize hw4 : w3.drewN _ = w4 at *
    have hb4 := hb3.ofDrewN hw4
    have kp4 := kp3.ofDrewN hw4
    clear hw4 hb3 kp3 g11 g13
    have g30 : w4.cell? ⟨b, 30, none⟩ = some (.bool false) := by rw [hb4.cell, ← Hd.out]; rfl
    have g9 : w4.cell? ⟨b, 9, none⟩ = some (.slice none 0 0) := by rw [hb4.cell, ← Hfa.out]; rfl
    go_wp2_with fail
    refine wp_loop_rounds 1 ?_; rw [rounds_succ]
    go_wp2_with fail
    go_ret
    refine ⟨rfl, ?_, kp4⟩
    have e : s.called k false = { s with calls := s.calls + 1, ops := upd s.ops k (s.ops k + 1) } := by rw [FSt.called, ← Hd.out]
    rw [e]; exact hb4
  · have t2 : (s.pp != 0) = true := by rw [bne_iff_ne]; omega
    have t3 : decide (s.pp ≤ s.calls + 1) = false := by rw [decide_eq_false_iff_not]; omega
    go_quiet (fail)
    generalize hw4 : w3.drewN _ = w4 at *
    have hb4 := hb3.ofDrewN hw4
    have kp4 := kp3.ofDrewN hw4
    clear hw4 hb3 kp3 g11 g13
    have g30 : w4.cell? ⟨b, 30, none⟩ = some (.bool false) := by rw [hb4.cell, ← Hd.out]; rfl
    have g9 : w4.cell? ⟨b, 9, none⟩ = some (.slice none 0 0) := by rw [hb4.cell, ← Hfa.out]; rfl
    go_wp2_with fail
    refine wp_loop_rounds 1 ?_; rw [rounds_succ]
    go_wp2_with fail
    go_ret
    refine ⟨rfl, ?_, kp4⟩
    have e : s.called k false = { s with calls := s.calls + 1, ops := upd s.ops k (s.ops k + 1) } := by rw [FSt.called, ← Hd.out]
    rw [e]; exact hb4

set_option maxHeartbeats 800000 in
theorem call_dark (b k : Nat) (l : Int) (s : FSt) (w : World) (hb : FsAt w b l s) (hk : k < 9) (hpi : s.pi = 0) (c0 : 0 ≤ s.calls) (c1 : s.calls < 4611686018427387904) (o0 : 0 ≤ s.ops k) (o1 : s.ops k < 4611686018427387904) (hpp : s.pp ≠ 0) (hpc : s.pp ≤ s.calls + 1) :
    Calls Try.prog 65 #[.pointer (some ⟨b, 0, none⟩), .int .u8 (k : Int)] w fun e w' => e = .returned (.int .i64 4) ∧ FsAt w' b l (s.called k true) ∧ Keeps [b] w w' := by
  have g13 : w.cell? ⟨b, 13, none⟩ = some (.int .i64 s.calls) := by rw [hb.cell]; rfl
  have f13 := hb.free 13
  have Hpi := Lib.hid hpi
  clear hpi
  go_enter Try.func65, Try.ntmps65
  go_wp2_with fail
  have hb1 := hb.set (s' := { s with calls := s.calls + 1 }) (l' := l) 13 (.int .i64 (s.calls + 1)) rfl
  have kp1 := (Keeps.refl [b] w).setCell (p := ⟨b, 13, none⟩) (by simp) (.int .i64 (s.calls + 1))
  clear g13 f13 hb
  generalize w.setCell ⟨b, 13, none⟩ (.int .i64 (s.calls + 1)) = w1 at *
  have gk : w1.cell? ⟨b, 14 + k, none⟩ = some (.int .i64 (s.ops k)) := hb1.ops hk
  have fk := hb1.free (14 + k)
  have hk' : (k : Int) < 9 := by omega
  have hk0 : (0 : Int) ≤ (k : Int) := by omega
  go_region
  have hb2 := (hb1.set (s' := { s with calls := s.calls + 1, ops := upd s.ops k (s.ops k + 1) }) (l' := l) (14 + k) (.int .i64 (s.ops k + 1)) (arr_ops l _ hk _)).drew
  have kp2 := (kp1.setCell (p := ⟨b, 14 + k, none⟩) (by simp) (.int .i64 (s.ops k + 1))).drew
  clear gk fk kp1 hb1
  generalize (w1.setCell ⟨b, 14 + k, none⟩ (.int .i64 (s.ops k + 1))).drew = w2 at *
  have g13 : w2.cell? ⟨b, 13, none⟩ = some (.int .i64 (s.calls + 1)) := by rw [hb2.cell]; rfl
  have g10 : w2.cell? ⟨b, 10, none⟩ = some (.int .i64 0) := by rw [hb2.cell, ← Hpi.out]; rfl
  have t1 : (s.calls + 1 == 0) = false := by rw [beq_eq_false_iff_ne]; omega
  go_wp2_with fail
  go_quiet (fail)
  generalize hw3 : w2.drewN _ = w3 at *
  have hb3 := hb2.ofDrewN hw3
  have kp3 := kp2.ofDrewN hw3
  clear hw3 hb2 kp2 g13 g10
  go_wp2_with fail
  have g11 : w3.cell? ⟨b, 11, none⟩ = some (.int .i64 s.pp) := by rw [hb3.cell]; rfl
  have g13 : w3.cell? ⟨b, 13, none⟩ = some (.int .i64 (s.calls + 1)) := by rw [hb3.cell]; rfl
  have t2 : (s.pp != 0) = true := by rw [bne_iff_ne]; omega
  have t3 : decide (s.pp ≤ s.calls + 1) = true := by rw [decide_eq_true_iff]; omega
  go_quiet (fail)
  generalize hw4 : w3.drewN _ = w4 at *
  have hb4 := hb3.ofDrewN hw4
  have kp4 := kp3.ofDrewN hw4
  clear hw4 hb3 kp3 g11 g13 t1 t2 t3
  have g30 : w4.cell? ⟨b, 30, none⟩ = some (.bool s.drk) := by rw [hb4.cell]; rfl
  have f30 := hb4.free 30
  have Hb4 := Lib.hid hb4
  have Kp4 := Lib.hid kp4
  clear hb4 kp4
  go_wp2_with fail
  go_ret
  refine ⟨rfl, Hb4.out.set 30 (.bool true) rfl, Kp4.out.setCell (by simp) _⟩
end Go.Proofs.Ytolnojhepakaoaa
