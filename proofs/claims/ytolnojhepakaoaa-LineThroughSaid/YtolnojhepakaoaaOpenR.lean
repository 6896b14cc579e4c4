/- Open, ModeRead, a file that nobody writes: the walk. -/
import Derived.Test.YtolnojhepakaoaaOpen
namespace Go.Proofs.Ytolnojhepakaoaa
open Go.RowKit Go.Maps Go.MuLone

set_option maxRecDepth 100000 in
set_option maxHeartbeats 1600000 in
/-- Open, ModeRead, a file that nobody writes. -/
theorem open_read (b g : Nat) (s : FSt) (n : Nat) (D : DataW Value) (nm : ByteArray) (v : Value) (sy op : Int) (w : World) (hb : FsAt w b 0 s) (hn : Nam nm) (hown : w.ownsMap Try.prog 9 heldR s.mp n D) (hne : s.mp ≠ b)
    (hat : D.atKey (key nm) (.held (.pointer none)) = .held (.pointer (some ⟨g, 0, none⟩))) (hg : BodyAt w g v sy op false) (hgb : g ≠ b) (hh : s.opn < s.mh)
    (hfa : s.fa = .slice none 0 0) (hpi : s.pi = 0) (c0 : 0 ≤ s.calls) (c1 : s.calls < 4611686018427387904) (o0 : 0 ≤ s.ops 0) (o1 : s.ops 0 < 4611686018427387904) (hpp : s.pp = 0 ∨ s.calls + 1 < s.pp) (hd : s.drk = false)
    (n0 : 0 ≤ s.opn) (n1 : s.mh ≤ 256) (q0 : 0 ≤ op) (q1 : op < 4611686018427387904) :
    Calls Try.prog 52 #[.pointer (some ⟨b, 0, none⟩), .string nm, .int .u8 1] w fun e w' => ∃ f, e = .returned (.tuple #[.pointer (some ⟨f, 0, none⟩), .int .i64 0]) ∧
      FsAt w' b 0 ((s.called 0 false).opened 0) ∧ BodyAt w' g v sy (op + 1) false ∧ FileAt w' f b s.life nm true false false g 0 0 ∧
      Keeps [b, g] w w' ∧ w.heap.size ≤ f := by
  have hkey := key_of hn
  have Hat := Lib.hid hat
  have Hown := Lib.hid hown
  have Hkey := Lib.hid hkey
  have Hn := Lib.hid hn
  have Hfa := Lib.hid hfa
  have Hpi := Lib.hid hpi
  have Hd := Lib.hid hd
  have Hpp := Lib.hid hpp
  have Hb := Lib.hid hb
  have Hg := Lib.hid hg
  have z0 : w.cell? ⟨b, 0, none⟩ = some (.int .i32 0) := by rw [hb.cell]; rfl
  have f0 := hb.free 0
  clear hat hown hkey hn hfa hpi hd hpp hb hg
  go_enter_defers Try.func52, Try.ntmps52
  go_wp2_with fail
  refine (lock_free Try.muLib ⟨b, 0, none⟩ _ z0 f0).mono ?_
  rintro e w1 ⟨rfl, hw1⟩
  have hb1 : FsAt w1 b 1 s := by rw [hw1]; exact Hb.out.set 0 _ rfl
  have kp1 : Keeps [b] w w1 := by rw [hw1]; exact (Keeps.refl _ _).setCell (by simp) _
  clear z0 f0
  have Hw1 := Lib.hid hw1
  clear hw1
  go_wp2_with fail
  refine (call_ok b 0 1 s _ hb1 (by omega) Hfa.out Hpi.out c0 c1 o0 o1 Hpp.out Hd.out).mono ?_
  rintro e w2 ⟨rfl, hb2, kp2⟩
  have kp2 := kp1.trans kp2
  clear hb1 kp1
  have hown2 := ownsMap_keeps Hown.out kp2 (by simpa using hne)
  have hg2 := Hg.out.keeps kp2 (by simpa using hgb)
  have Hg2 := Lib.hid hg2
  clear hg2
  go_wp2_with fail
  refine (refuseOpen_read b g 1 _ n D nm v sy op w2 hb2 Hn.out hown2 Hat.out Hg2.out hh).mono ?_
  rintro e w3 ⟨rfl, q, hw3⟩
  have hb3 := hb2.ofDrewN hw3.symm
  have kp3 := kp2.ofDrewN hw3.symm
  have hown3 := ownsMap_keeps Hown.out kp3 (by simpa using hne)
  have hg3 := Hg.out.keeps kp3 (by simpa using hgb)
  clear hb2 kp2 hown2 hw3
  have g12 : w3.cell? ⟨b, 12, none⟩ = some (.map (some s.mp)) := by rw [hb3.cell]; rfl
  obtain ⟨g23, g25, f23, f25⟩ := stat_facts hb3
  obtain ⟨k0, k1, k2, k3, kf0, kf1, kf2, kf3⟩ := body_facts hg3
  have d1 : ¬ (g = b) := hgb
  have d2 : ¬ (b = g) := fun e => hgb e.symm
  clear g23 f23 k0 k1 kf0 kf1
  have Hb3 := Lib.hid hb3
  have Hown3 := Lib.hid hown3
  have Kp3 := Lib.hid kp3
  have Hg3 := Lib.hid hg3
  clear hb3 hown3 kp3 hg3
  go_wp2_with (at_lookup; go_must (refine wpList_lookup_held _ rfl _ _ 90 rfl 9 94 law9 Try.underlying90 (Try.zeroValue94 _) s.mp n D rfl Hown3.out _ _ rfl Hkey.out (.pointer (some ⟨g, 0, none⟩)) Hat.out ?_))
  clear g25 f25 k2 k3 kf2 kf3 g12
  have hb5 : FsAt (((w3.setCell ⟨g, 2, none⟩ (.int .i64 (op + 1))).setCell ⟨g, 3, none⟩ (.bool false)).setCell ⟨b, 25, none⟩ (.int .i64 (s.opn + 1))) b 1 { s.called 0 false with opn := s.opn + 1 } :=
    FsAt.set (s := s.called 0 false) (l := 1) ((Hb3.out.setNe (by simpa using d2) _).setNe (by simpa using d2) _) 25 _ rfl
  have hg5 : BodyAt (((w3.setCell ⟨g, 2, none⟩ (.int .i64 (op + 1))).setCell ⟨g, 3, none⟩ (.bool false)).setCell ⟨b, 25, none⟩ (.int .i64 (s.opn + 1))) g v sy (op + 1) false := by
    unfold BodyAt
    rw [heap_set_ne (by simpa using d1)]
    exact heap_set (heap_set Hg3.out _) _
  have kp5 : Keeps [b, g] w3 (((w3.setCell ⟨g, 2, none⟩ (.int .i64 (op + 1))).setCell ⟨g, 3, none⟩ (.bool false)).setCell ⟨b, 25, none⟩ (.int .i64 (s.opn + 1))) :=
    (((Keeps.refl _ w3).setCell (by simp) _).setCell (by simp) _).setCell (by simp) _
  generalize (((w3.setCell ⟨g, 2, none⟩ (.int .i64 (op + 1))).setCell ⟨g, 3, none⟩ (.bool false)).setCell ⟨b, 25, none⟩ (.int .i64 (s.opn + 1))) = w5 at *
  have kp6 : Keeps [b, g] w w5 := (Kp3.out.mono (fun k hk => by simp at hk ⊢; omega)).trans kp5
  clear kp5
  have g25 : w5.cell? ⟨b, 25, none⟩ = some (.int .i64 (s.opn + 1)) := by rw [hb5.cell]; rfl
  have g26 : w5.cell? ⟨b, 26, none⟩ = some (.int .i64 s.peak) := by rw [hb5.cell]; rfl
  have f26 := hb5.free 26
  go_still_tail 15, (by kernel_rfl)
  change wpList _ _ _ _ _ w5.drew
  have hb6 := hb5.drew
  have hg6 : BodyAt w5.drew g v sy (op + 1) false := hg5
  have kp7 := kp6.drew
  have f26' : w5.drew.frozen? ⟨b, 26, none⟩ = false := hb6.free 26
  have g26' : w5.drew.cell? ⟨b, 26, none⟩ = some (.int .i64 s.peak) := by rw [hb6.cell]; rfl
  clear g25 g26 f26 hb5 hg5 kp6
  generalize w5.drew = w6 at *
  go_wp2_with fail
  have hb7 := (hb6.set (s' := (s.called 0 false).opened 0) (l' := 1) 26 (.int .i64 (max s.peak (s.opn + 1))) (by unfold FSt.opened; simp [FSt.called, FSt.arr]))
  have hg7 : BodyAt (w6.setCell ⟨b, 26, none⟩ (.int .i64 (max s.peak (s.opn + 1)))) g v sy (op + 1) false := (heap_set_ne (by simpa using d1) _).trans hg6
  have kp8 := (kp7.setCell (p := ⟨b, 26, none⟩) (by simp) (.int .i64 (max s.peak (s.opn + 1))))
  clear hb6 hg6 kp7 f26' g26'
  generalize (w6.setCell ⟨b, 26, none⟩ (.int .i64 (max s.peak (s.opn + 1)))) = w7 at *
  have g32 : w7.cell? ⟨b, 32, none⟩ = some (.int .i64 s.life) := by rw [hb7.cell]; rfl
  have k3 : w7.cell? ⟨g, 3, none⟩ = some (.bool false) := by rw [cell_of hg7]; rfl
  go_still_tail 12, (by kernel_rfl)
  change wpList _ _ _ _ _ w7.drew
  generalize hw8 : w7.drew = w8 at *
  go_wp2_with fail
  have hb8 : FsAt w8 b 1 ((s.called 0 false).opened 0) := by rw [← hw8]; exact hb7
  have hg8 : BodyAt w8 g v sy (op + 1) false := by rw [← hw8]; exact hg7
  have kp9 : Keeps [b, g] w w8 := by rw [← hw8]; exact kp8.drew
  have hbl := lt_of_block hb8
  have hgl := lt_of_block hg8
  clear hb7 hg7 kp8 g32 k3
  refine leaves_cons (f := 43) (args := #[.pointer (some ⟨b, 0, none⟩)]) (by simp) (by simp [go_sem]) ?_
  refine (unlock_deferred Try.muLib ⟨b, 0, none⟩ .returning _ ?_ ?_).mono ?_
  · rw [(hb8.alloc _).cell]; rfl
  · exact (hb8.alloc _).free 0
  rintro e u' w'' ⟨rfl, rfl, rfl⟩
  refine ⟨_, results_tmp2 rfl _ _ _, w8.heap.size, rfl, (hb8.alloc _).set 0 _ rfl, ?_, ?_, ?_, ?_⟩
  · exact (heap_set_ne (by simpa using d1) _).trans ((Below.heap_alloc w8 _ g hgl).trans hg8)
  · exact (heap_set_ne (by simp; omega) _).trans (heap_alloc_new w8 _)
  · exact (kp9.alloc _).setCell (by simp) _
  · exact kp9.size
end Go.Proofs.Ytolnojhepakaoaa
