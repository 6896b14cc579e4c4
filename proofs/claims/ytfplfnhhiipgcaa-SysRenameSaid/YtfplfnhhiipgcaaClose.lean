/- Close, of an open File of a file: the walk. -/
import Derived.Test.YtfplfnhhiipgcaaFile
namespace Go.Proofs.Ytfplfnhhiipgcaa
open Go.RowKit Go.Maps Go.MuLone

set_option maxRecDepth 100000 in
set_option maxHeartbeats 1600000 in
/-- Close, of a file's File that is open. -/
theorem close_ok (f b g : Nat) (s : FSt) (nm : ByteArray) (y : Bool) (p q : Int) (v : Value) (sy op : Int) (wr : Bool) (w : World) (hb : FsAt w b 0 s) (hf : FileAt w f b s.life nm true y false g p q) (hg : BodyAt w g v sy op wr)
    (e1 : f ≠ b) (e2 : g ≠ b) (e3 : f ≠ g) (q0 : 1 ≤ op) (q1 : op < 4611686018427387904) (n0 : 1 ≤ s.opn) (n1 : s.opn < 4611686018427387904)
    (hfa : s.fa = .slice none 0 0) (hpi : s.pi = 0) (c0 : 0 ≤ s.calls) (c1 : s.calls < 4611686018427387904) (o0 : 0 ≤ s.ops 4) (o1 : s.ops 4 < 4611686018427387904) (hpp : s.pp = 0 ∨ s.calls + 1 < s.pp) (hd : s.drk = false) :
    Calls Try.prog 14 #[.pointer (some ⟨f, 0, none⟩)] w fun e w' => e = .returned (.int .i64 0) ∧
      FsAt w' b 0 { s.called 4 false with opn := s.opn - 1 } ∧ FileAt w' f b s.life nm true y true g p q ∧ BodyAt w' g v sy (op - 1) false ∧ Keeps [b, f, g] w w' := by
  have h0 := (file_facts hf).1
  have z0 : w.cell? ⟨b, 0, none⟩ = some (.int .i32 0) := by rw [hb.cell]; rfl
  have f0 := hb.free 0
  have Hb := Lib.hid hb
  have Hf := Lib.hid hf
  have Hg := Lib.hid hg
  have Hfa := Lib.hid hfa
  have Hpi := Lib.hid hpi
  have Hd := Lib.hid hd
  have Hpp := Lib.hid hpp
  clear hfa hpi hd hpp hb hf hg
  go_enter_defers Try.func14, Try.ntmps14
  go_wp2_with fail
  refine (made_ok f b w h0).mono ?_
  rintro e w' ⟨rfl, rfl⟩
  go_wp2_with fail
  refine (lock_free Try.muLib ⟨b, 0, none⟩ _ z0 f0).mono ?_
  rintro e w1 ⟨rfl, hw1⟩
  have hb1 : FsAt w1 b 1 s := by rw [hw1]; exact Hb.out.set 0 _ rfl
  have kp1 : Keeps [b] w w1 := by rw [hw1]; exact (Keeps.refl _ _).setCell (by simp) _
  clear z0 f0 h0
  have Hw1 := Lib.hid hw1
  clear hw1
  go_wp2_with fail
  refine (call_ok b 4 1 s _ hb1 (by omega) Hfa.out Hpi.out c0 c1 o0 o1 Hpp.out Hd.out).mono ?_
  rintro e w2 ⟨rfl, hb2, kp2⟩
  have kp2 := kp1.trans kp2
  clear hb1 kp1
  have hf2 := Hf.out.keeps kp2 (by simpa using e1)
  have hg2 := Hg.out.keeps kp2 (by simpa using e2)
  obtain ⟨h0, h1, h3, h4, h5, h6, h7, h8, hf5, _⟩ := file_facts hf2
  have hl2 : w2.cell? ⟨b, 32, none⟩ = some (.int .i64 s.life) := by rw [hb2.cell]; rfl
  go_wp2_with fail
  refine (closed_no f b s.life w2 h0 h1 h5 hl2).mono ?_
  rintro e w3 ⟨rfl, q', hw3⟩
  have hb3 := hb2.ofDrewN hw3.symm
  have kp3 := kp2.ofDrewN hw3.symm
  have hf3 := hf2.keeps ((Keeps.refl [] w2).ofDrewN hw3.symm) (by simp)
  have hg3 := hg2.keeps ((Keeps.refl [] w2).ofDrewN hw3.symm) (by simp)
  clear hw3 hb2 hf2 hg2 h0 h1 h3 h4 h5 h6 h7 h8 hf5 hl2 kp2
  go_wp2_with fail
  refine (letGo_ok f b g 1 s.life _ nm y p q v sy op wr w3 hb3 hf3 hg3 rfl e1 e2 e3 q0 q1 n0 n1).mono ?_
  rintro e w4 ⟨rfl, hb4, hf4, hg4, kp4⟩
  have kp5 := (kp3.mono (T := [b, f, g]) (by simp)).trans kp4
  clear hb3 hf3 hg3 kp3 kp4
  go_wp2_with fail
  refine leaves_cons (f := 42) (args := #[.pointer (some ⟨b, 0, none⟩)]) (by simp) (by simp [go_sem]) ?_
  refine (unlock_deferred Try.muLib ⟨b, 0, none⟩ .returning _ ?_ ?_).mono ?_
  · rw [hb4.cell]; rfl
  · exact hb4.free 0
  rintro e u' w'' ⟨rfl, rfl, rfl⟩
  refine ⟨_, results_tmp rfl _ _ _, rfl, hb4.set 0 _ rfl, ?_, ?_, ?_⟩
  · exact (heap_set_ne (by simpa using e1) _).trans hf4
  · exact (heap_set_ne (by simpa using e2) _).trans hg4
  · exact kp5.setCell (by simp) _
end Go.Proofs.Ytfplfnhhiipgcaa
