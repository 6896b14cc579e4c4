/- Calls where the power is gone: the walks. -/
import Derived.Test.YtfplfnhhiipgcaaRe
namespace Go.Proofs.Ytfplfnhhiipgcaa
open Go.RowKit Go.Maps Go.MuLone

set_option maxRecDepth 100000 in
set_option maxHeartbeats 1600000 in
/-- Open, in the dark. -/
theorem open_dark (b : Nat) (s : FSt) (nm : ByteArray) (m : Int) (w : World) (hb : FsAt w b 0 s)
    (hpi : s.pi = 0) (c0 : 0 ≤ s.calls) (c1 : s.calls < 4611686018427387904) (o0 : 0 ≤ s.ops 0) (o1 : s.ops 0 < 4611686018427387904) (hpp : s.pp ≠ 0) (hpc : s.pp ≤ s.calls + 1) :
    Calls Try.prog 12 #[.pointer (some ⟨b, 0, none⟩), .string nm, .int .u8 m] w fun e w' => e = .returned (.tuple #[.pointer none, .int .i64 4]) ∧ FsAt w' b 0 (s.called 0 true) ∧ Keeps [b] w w' := by
  have z0 : w.cell? ⟨b, 0, none⟩ = some (.int .i32 0) := by rw [hb.cell]; rfl
  have f0 := hb.free 0
  have Hb := Lib.hid hb
  have Hpi := Lib.hid hpi
  clear hpi hb
  go_enter_defers Try.func12, Try.ntmps12
  go_wp2_with fail
  refine (lock_free Try.muLib ⟨b, 0, none⟩ _ z0 f0).mono ?_
  rintro e w1 ⟨rfl, hw1⟩
  have hb1 : FsAt w1 b 1 s := by rw [hw1]; exact Hb.out.set 0 _ rfl
  have kp1 : Keeps [b] w w1 := by rw [hw1]; exact (Keeps.refl _ _).setCell (by simp) _
  clear z0 f0 hw1
  go_wp2_with fail
  refine (call_dark b 0 1 s _ hb1 (by omega) Hpi.out c0 c1 o0 o1 hpp hpc).mono ?_
  rintro e w2 ⟨rfl, hb2, kp2⟩
  have kp2 := kp1.trans kp2
  clear hb1 kp1
  go_wp2_with fail
  refine leaves_cons (f := 42) (args := #[.pointer (some ⟨b, 0, none⟩)]) (by simp) (by simp [go_sem]) ?_
  refine (unlock_deferred Try.muLib ⟨b, 0, none⟩ .returning _ ?_ ?_).mono ?_
  · rw [hb2.cell]; rfl
  · exact hb2.free 0
  rintro e u' w'' ⟨rfl, rfl, rfl⟩
  exact ⟨_, results_tmp2 rfl _ _ _, rfl, hb2.set 0 _ rfl, kp2.setCell (by simp) _⟩

set_option maxRecDepth 100000 in
set_option maxHeartbeats 1600000 in
/-- Rename, in the dark. -/
theorem rename_dark (b : Nat) (s : FSt) (n1 n2 : ByteArray) (w : World) (hb : FsAt w b 0 s)
    (hpi : s.pi = 0) (c0 : 0 ≤ s.calls) (c1 : s.calls < 4611686018427387904) (o0 : 0 ≤ s.ops 6) (o1 : s.ops 6 < 4611686018427387904) (hpp : s.pp ≠ 0) (hpc : s.pp ≤ s.calls + 1) :
    Calls Try.prog 22 #[.pointer (some ⟨b, 0, none⟩), .string n1, .string n2] w fun e w' => e = .returned (.int .i64 4) ∧ FsAt w' b 0 (s.called 6 true) ∧ Keeps [b] w w' := by
  have z0 : w.cell? ⟨b, 0, none⟩ = some (.int .i32 0) := by rw [hb.cell]; rfl
  have f0 := hb.free 0
  have Hb := Lib.hid hb
  have Hpi := Lib.hid hpi
  clear hpi hb
  go_enter_defers Try.func22, Try.ntmps22
  go_wp2_with fail
  refine (lock_free Try.muLib ⟨b, 0, none⟩ _ z0 f0).mono ?_
  rintro e w1 ⟨rfl, hw1⟩
  have hb1 : FsAt w1 b 1 s := by rw [hw1]; exact Hb.out.set 0 _ rfl
  have kp1 : Keeps [b] w w1 := by rw [hw1]; exact (Keeps.refl _ _).setCell (by simp) _
  clear z0 f0 hw1
  go_wp2_with fail
  refine (call_dark b 6 1 s _ hb1 (by omega) Hpi.out c0 c1 o0 o1 hpp hpc).mono ?_
  rintro e w2 ⟨rfl, hb2, kp2⟩
  have kp2 := kp1.trans kp2
  clear hb1 kp1
  go_wp2_with fail
  refine leaves_cons (f := 42) (args := #[.pointer (some ⟨b, 0, none⟩)]) (by simp) (by simp [go_sem]) ?_
  refine (unlock_deferred Try.muLib ⟨b, 0, none⟩ .returning _ ?_ ?_).mono ?_
  · rw [hb2.cell]; rfl
  · exact hb2.free 0
  rintro e u' w'' ⟨rfl, rfl, rfl⟩
  exact ⟨_, results_tmp rfl _ _ _, rfl, hb2.set 0 _ rfl, kp2.setCell (by simp) _⟩

set_option maxRecDepth 100000 in
set_option maxHeartbeats 1600000 in
/-- Sync, in the dark. -/
theorem sync_dark (f b g : Nat) (s : FSt) (nm : ByteArray) (x y z : Bool) (p q : Int) (life : Int) (w : World) (hb : FsAt w b 0 s) (hf : FileAt w f b life nm x y z g p q)
    (hpi : s.pi = 0) (c0 : 0 ≤ s.calls) (c1 : s.calls < 4611686018427387904) (o0 : 0 ≤ s.ops 3) (o1 : s.ops 3 < 4611686018427387904) (hpp : s.pp ≠ 0) (hpc : s.pp ≤ s.calls + 1) :
    Calls Try.prog 21 #[.pointer (some ⟨f, 0, none⟩)] w fun e w' => e = .returned (.int .i64 4) ∧ FsAt w' b 0 (s.called 3 true) ∧ Keeps [b] w w' := by
  have h0 := (file_facts hf).1
  have z0 : w.cell? ⟨b, 0, none⟩ = some (.int .i32 0) := by rw [hb.cell]; rfl
  have f0 := hb.free 0
  have Hb := Lib.hid hb
  have Hpi := Lib.hid hpi
  clear hpi hb hf
  go_enter_defers Try.func21, Try.ntmps21
  go_wp2_with fail
  refine (made_ok f b w h0).mono ?_
  rintro e w' ⟨rfl, rfl⟩
  go_wp2_with fail
  refine (lock_free Try.muLib ⟨b, 0, none⟩ _ z0 f0).mono ?_
  rintro e w1 ⟨rfl, hw1⟩
  have hb1 : FsAt w1 b 1 s := by rw [hw1]; exact Hb.out.set 0 _ rfl
  have kp1 : Keeps [b] w w1 := by rw [hw1]; exact (Keeps.refl _ _).setCell (by simp) _
  clear z0 f0 hw1 h0
  go_wp2_with fail
  refine (call_dark b 3 1 s _ hb1 (by omega) Hpi.out c0 c1 o0 o1 hpp hpc).mono ?_
  rintro e w2 ⟨rfl, hb2, kp2⟩
  have kp2 := kp1.trans kp2
  clear hb1 kp1
  go_wp2_with fail
  refine leaves_cons (f := 42) (args := #[.pointer (some ⟨b, 0, none⟩)]) (by simp) (by simp [go_sem]) ?_
  refine (unlock_deferred Try.muLib ⟨b, 0, none⟩ .returning _ ?_ ?_).mono ?_
  · rw [hb2.cell]; rfl
  · exact hb2.free 0
  rintro e u' w'' ⟨rfl, rfl, rfl⟩
  exact ⟨_, results_tmp rfl _ _ _, rfl, hb2.set 0 _ rfl, kp2.setCell (by simp) _⟩

set_option maxRecDepth 100000 in
set_option maxHeartbeats 1600000 in
/-- Close, in the dark. -/
theorem close_dark (f b g : Nat) (s : FSt) (nm : ByteArray) (x y z : Bool) (p q : Int) (life : Int) (w : World) (hb : FsAt w b 0 s) (hf : FileAt w f b life nm x y z g p q)
    (hpi : s.pi = 0) (c0 : 0 ≤ s.calls) (c1 : s.calls < 4611686018427387904) (o0 : 0 ≤ s.ops 4) (o1 : s.ops 4 < 4611686018427387904) (hpp : s.pp ≠ 0) (hpc : s.pp ≤ s.calls + 1) :
    Calls Try.prog 14 #[.pointer (some ⟨f, 0, none⟩)] w fun e w' => e = .returned (.int .i64 4) ∧ FsAt w' b 0 (s.called 4 true) ∧ Keeps [b] w w' := by
  have h0 := (file_facts hf).1
  have z0 : w.cell? ⟨b, 0, none⟩ = some (.int .i32 0) := by rw [hb.cell]; rfl
  have f0 := hb.free 0
  have Hb := Lib.hid hb
  have Hpi := Lib.hid hpi
  clear hpi hb hf
  go_enter_defers Try.func14, Try.ntmps14
  go_wp2_with fail
  refine (made_ok f b w h0).mono ?_
  rintro e w' ⟨rfl, rfl⟩
  go_wp2_with fail
  refine (lock_free Try.muLib ⟨b, 0, none⟩ _ z0 f0).mono ?_
  rintro e w1 ⟨rfl, hw1⟩
  have hb1 : FsAt w1 b 1 s := by rw [hw1]; exact Hb.out.set 0 _ rfl
  have kp1 : Keeps [b] w w1 := by rw [hw1]; exact (Keeps.refl _ _).setCell (by simp) _
  clear z0 f0 hw1 h0
  go_wp2_with fail
  refine (call_dark b 4 1 s _ hb1 (by omega) Hpi.out c0 c1 o0 o1 hpp hpc).mono ?_
  rintro e w2 ⟨rfl, hb2, kp2⟩
  have kp2 := kp1.trans kp2
  clear hb1 kp1
  go_wp2_with fail
  refine leaves_cons (f := 42) (args := #[.pointer (some ⟨b, 0, none⟩)]) (by simp) (by simp [go_sem]) ?_
  refine (unlock_deferred Try.muLib ⟨b, 0, none⟩ .returning _ ?_ ?_).mono ?_
  · rw [hb2.cell]; rfl
  · exact hb2.free 0
  rintro e u' w'' ⟨rfl, rfl, rfl⟩
  exact ⟨_, results_tmp rfl _ _ _, rfl, hb2.set 0 _ rfl, kp2.setCell (by simp) _⟩

set_option maxRecDepth 100000 in
set_option maxHeartbeats 1600000 in
/-- Write, in the dark. -/
theorem write_dark (f b g : Nat) (s : FSt) (nm : ByteArray) (x y z : Bool) (p q : Int) (life : Int) (v : Value) (w : World) (hb : FsAt w b 0 s) (hf : FileAt w f b life nm x y z g p q)
    (hpi : s.pi = 0) (c0 : 0 ≤ s.calls) (c1 : s.calls < 4611686018427387904) (o0 : 0 ≤ s.ops 2) (o1 : s.ops 2 < 4611686018427387904) (hpp : s.pp ≠ 0) (hpc : s.pp ≤ s.calls + 1) :
    Calls Try.prog 15 #[.pointer (some ⟨f, 0, none⟩), v] w fun e w' => e = .returned (.tuple #[.int .i64 0, .int .i64 4]) ∧ FsAt w' b 0 (s.called 2 true) ∧ Keeps [b] w w' := by
  have h0 := (file_facts hf).1
  have z0 : w.cell? ⟨b, 0, none⟩ = some (.int .i32 0) := by rw [hb.cell]; rfl
  have f0 := hb.free 0
  have Hb := Lib.hid hb
  have Hpi := Lib.hid hpi
  clear hpi hb hf
  go_enter_defers Try.func15, Try.ntmps15
  go_wp2_with fail
  refine (made_ok f b w h0).mono ?_
  rintro e w' ⟨rfl, rfl⟩
  go_wp2_with fail
  refine (lock_free Try.muLib ⟨b, 0, none⟩ _ z0 f0).mono ?_
  rintro e w1 ⟨rfl, hw1⟩
  have hb1 : FsAt w1 b 1 s := by rw [hw1]; exact Hb.out.set 0 _ rfl
  have kp1 : Keeps [b] w w1 := by rw [hw1]; exact (Keeps.refl _ _).setCell (by simp) _
  clear z0 f0 hw1 h0
  go_wp2_with fail
  refine (call_dark b 2 1 s _ hb1 (by omega) Hpi.out c0 c1 o0 o1 hpp hpc).mono ?_
  rintro e w2 ⟨rfl, hb2, kp2⟩
  have kp2 := kp1.trans kp2
  clear hb1 kp1
  go_wp2_with fail
  refine leaves_cons (f := 42) (args := #[.pointer (some ⟨b, 0, none⟩)]) (by simp) (by simp [go_sem]) ?_
  refine (unlock_deferred Try.muLib ⟨b, 0, none⟩ .returning _ ?_ ?_).mono ?_
  · rw [hb2.cell]; rfl
  · exact hb2.free 0
  rintro e u' w'' ⟨rfl, rfl, rfl⟩
  exact ⟨_, results_tmp2 rfl _ _ _, rfl, hb2.set 0 _ rfl, kp2.setCell (by simp) _⟩
end Go.Proofs.Ytfplfnhhiipgcaa
