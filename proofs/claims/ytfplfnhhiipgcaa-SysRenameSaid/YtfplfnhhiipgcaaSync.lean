/- Sync, of an open File of a file that writes: the walk. -/
import Derived.Test.YtfplfnhhiipgcaaWrite
import Derived.StillTailTactics
namespace Go.Proofs.Ytfplfnhhiipgcaa
open Go.RowKit Go.Maps Go.MuLone

set_option maxRecDepth 100000 in
set_option maxHeartbeats 1600000 in
/-- Sync, of an open File of a file that writes. -/
theorem sync_ok (f b g : Nat) (s : FSt) (nm : ByteArray) (p q : Int) (ao : Option Addr) (n cp : Nat) (sy op : Int) (wr : Bool) (w : World) (hb : FsAt w b 0 s) (hf : FileAt w f b s.life nm true true false g p q) (hg : BodyAt w g (.slice ao n cp) sy op wr)
    (e1 : f ≠ b) (e2 : g ≠ b) (e3 : f ≠ g)
    (hfa : s.fa = .slice none 0 0) (hpi : s.pi = 0) (c0 : 0 ≤ s.calls) (c1 : s.calls < 4611686018427387904) (o0 : 0 ≤ s.ops 3) (o1 : s.ops 3 < 4611686018427387904) (hpp : s.pp = 0 ∨ s.calls + 1 < s.pp) (hd : s.drk = false) :
    Calls Try.prog 21 #[.pointer (some ⟨f, 0, none⟩)] w fun e w' => e = .returned (.int .i64 0) ∧
      FsAt w' b 0 (s.called 3 false) ∧ FileAt w' f b s.life nm true true false g p q ∧ BodyAt w' g (.slice ao n cp) (n : Int) op wr ∧ Keeps [b, g] w w' := by
  have h0 := (file_facts hf).1
  have z0 : w.cell? ⟨b, 0, none⟩ = some (.int .i32 0) := by rw [hb.cell]; rfl
  have f0 := hb.free 0
  have Hb := Lib.hid hb
  have Hf := Lib.hid hf
  have Hg := Lib.hid hg
  have Hfa := Lib.hid hfa
  have Hpi := Lib.hid hpi
  have Hd := Lib.hid hd
  have Hpp := Lib.hid hpp
  clear hfa hpi hd hpp hb hf hg
  go_enter_defers Try.func21, Try.ntmps21
  go_wp2_with fail
  refine (made_ok f b w h0).mono ?_
  rintro e w' ⟨rfl, rfl⟩
  go_wp2_with fail
  refine (lock_free Try.muLib ⟨b, 0, none⟩ _ z0 f0).mono ?_
  rintro e w1 ⟨rfl, hw1⟩
  have hb1 : FsAt w1 b 1 s := by rw [hw1]; exact Hb.out.set 0 _ rfl
  have kp1 : Keeps [b] w w1 := by rw [hw1]; exact (Keeps.refl _ _).setCell (by simp) _
  clear z0 f0 h0
  have Hw1 := Lib.hid hw1
  clear hw1
  go_wp2_with fail
  refine (call_ok b 3 1 s _ hb1 (by omega) Hfa.out Hpi.out c0 c1 o0 o1 Hpp.out Hd.out).mono ?_
  rintro e w2 ⟨rfl, hb2, kp2⟩
  have kp2 := kp1.trans kp2
  clear hb1 kp1
  have hf2 := Hf.out.keeps kp2 (by simpa using e1)
  have hg2 := Hg.out.keeps kp2 (by simpa using e2)
  obtain ⟨h0, h1, h3, h4, h5, h6, h7, h8, hf5, _⟩ := file_facts hf2
  have hl2 : w2.cell? ⟨b, 32, none⟩ = some (.int .i64 s.life) := by rw [hb2.cell]; rfl
  go_wp2_with fail
  refine (closed_no f b s.life w2 h0 h1 h5 hl2).mono ?_
  rintro e w3 ⟨rfl, q', hw3⟩
  have hb3 := hb2.ofDrewN hw3.symm
  have kp3 := kp2.ofDrewN hw3.symm
  have hf3 := hf2.keeps ((Keeps.refl [] w2).ofDrewN hw3.symm) (by simp)
  have hg3 := hg2.keeps ((Keeps.refl [] w2).ofDrewN hw3.symm) (by simp)
  clear hw3 hb2 hf2 hg2 h0 h1 h3 h4 h5 h6 h7 h8 hf5 hl2 kp2
  have h4 := (file_facts hf3).2.2.2.1
  have h6 := (file_facts hf3).2.2.2.2.2.1
  have k0 := (body_facts hg3).1
  have k1 := (body_facts hg3).2.1
  have kf1 := (body_facts hg3).2.2.2.2.2.1
  have Hb3 := Lib.hid hb3
  have Hf3 := Lib.hid hf3
  have Hg3 := Lib.hid hg3
  have Kp3 := Lib.hid kp3
  clear hb3 hf3 hg3 kp3
  go_wp2_with fail
  go_still_tail 14, (by kernel_rfl)
  change wpList _ _ _ _ _ w3.drew
  have k1' : w3.drew.cell? ⟨g, 1, none⟩ = some (.int .i64 sy) := k1
  have kf1' : w3.drew.frozen? ⟨g, 1, none⟩ = false := kf1
  have hb4 : FsAt w3.drew b 1 (s.called 3 false) := Hb3.out
  have hf4 : FileAt w3.drew f b s.life nm true true false g p q := Hf3.out
  have hg4 : BodyAt w3.drew g (.slice ao n cp) sy op wr := Hg3.out
  have kp4 := Kp3.out.drew
  clear h4 h6 k0 k1 kf1
  generalize w3.drew = w4 at *
  have Hb4 := Lib.hid hb4
  have Hf4 := Lib.hid hf4
  have Hg4 := Lib.hid hg4
  have Kp4 := Lib.hid kp4
  clear hb4 hf4 hg4 kp4
  go_wp2_with fail
  have hb5 : FsAt (w4.setCell ⟨g, 1, none⟩ (.int .i64 (n : Int))) b 1 (s.called 3 false) := Hb4.out.setNe (fun e => e2 e.symm) _
  refine leaves_cons (f := 42) (args := #[.pointer (some ⟨b, 0, none⟩)]) (by simp) (by simp [go_sem]) ?_
  refine (unlock_deferred Try.muLib ⟨b, 0, none⟩ .returning _ ?_ ?_).mono ?_
  · rw [hb5.cell]; rfl
  · exact hb5.free 0
  rintro e u' w'' ⟨rfl, rfl, rfl⟩
  refine ⟨_, results_tmp rfl _ _ _, rfl, hb5.set 0 _ rfl, ?_, ?_, ?_⟩
  · exact (heap_set_ne (by simpa using e1) _).trans ((heap_set_ne (by simpa using e3) _).trans Hf4.out)
  · exact (heap_set_ne (by simpa using e2) _).trans (heap_set (i := 1) Hg4.out (.int .i64 (n : Int)))
  · exact ((Kp4.out.mono (by simp)).setCell (by simp) _).setCell (by simp) _
end Go.Proofs.Ytfplfnhhiipgcaa
