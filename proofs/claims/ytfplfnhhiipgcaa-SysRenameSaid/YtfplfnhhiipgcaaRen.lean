/- Rename of a file that is not open onto another that is not open: the walk. -/
import Derived.Test.YtfplfnhhiipgcaaPut
namespace Go.Proofs.Ytfplfnhhiipgcaa
open Go.RowKit Go.Maps Go.MuLone

/-- The look-up's run, at a world and behind whatever draws. -/
theorem look_runs {w : World} {mp k : Nat} {D : DataW Value} {nm : ByteArray} {v : Value} (hn : Nam nm) (hown : w.ownsMap Try.prog 9 heldR mp k D) (hat : D.atKey (key nm) (.held (.pointer none)) = .held v) (q : Nat) :
    (Instr.lookup 91 (.map (some mp)) (.string nm) false).run Try.prog (w.drewN q) = .ok v (w.drewN q) := by
  obtain ⟨v', ps, hrun, hv⟩ := (ownsMap_keeps hown ((Keeps.refl [] w).drewN q) (by simp)).lookup law9 Try.underlying91 (Try.zeroValue97 _) (zd := .held (.pointer none)) (zp := []) rfl (key_of hn)
  rw [hat] at hv
  simp only [heldR, Option.some.injEq, Prod.mk.injEq, DataW.held.injEq] at hv
  obtain ⟨rfl, _⟩ := hv
  exact hrun

theorem turned_keeps {S : List Nat} {w w3 w4 : World} {b mp : Nat} {l : Int} {s : FSt} (ht : w3.mapTurned w4 mp) (hne : mp ≠ b) (hb : FsAt w3 b l s) (kp : Keeps S w w3) : FsAt w4 b l s ∧ Keeps (mp :: S) w w4 :=
  ⟨(ht.grown.block b (lt_of_block hb) (fun e => hne (Option.some.inj e).symm)).trans hb, (kp.mono (fun _ hk => List.mem_cons_of_mem _ hk)).grown ht.grown (fun k hk => .inl (by cases hk; simp))⟩

set_option maxRecDepth 100000 in
set_option maxHeartbeats 1600000 in
/-- Rename, of a file that is not open, onto another that is not open. -/
theorem rename_ok (b g g2 : Nat) (s : FSt) (k : Nat) (D : DataW Value) (n1 n2 : ByteArray) (v : Value) (sy : Int) (wr : Bool) (ao : Option Addr) (m cp : Nat) (sy2 : Int) (wr2 : Bool) (w : World) (hb : FsAt w b 0 s) (hn1 : Nam n1) (hn2 : Nam n2)
    (hown : w.ownsMap Try.prog 9 heldR s.mp k D) (hne : s.mp ≠ b) (hkN : k < 4611686018427387904)
    (hat1 : D.atKey (key n1) (.held (.pointer none)) = .held (.pointer (some ⟨g, 0, none⟩))) (hat2 : D.atKey (key n2) (.held (.pointer none)) = .held (.pointer (some ⟨g2, 0, none⟩)))
    (hg : BodyAt w g v sy 0 wr) (hg2 : BodyAt w g2 (.slice ao m cp) sy2 0 wr2) (hd12 : (n1.toList == n2.toList) = false) (e1 : g ≠ b) (e2 : g2 ≠ b)
    (hfa : s.fa = .slice none 0 0) (hpi : s.pi = 0) (c0 : 0 ≤ s.calls) (c1 : s.calls < 4611686018427387904) (o0 : 0 ≤ s.ops 6) (o1 : s.ops 6 < 4611686018427387904) (hpp : s.pp = 0 ∨ s.calls + 1 < s.pp) (hd : s.drk = false)
    (u0 : (m : Int) ≤ s.used) (u1 : s.used ≤ 67108864) :
    Calls Try.prog 22 #[.pointer (some ⟨b, 0, none⟩), .string n1, .string n2] w fun e w' => e = .returned (.int .i64 0) ∧
      FsAt w' b 0 ((s.called 6 false).grown (-(m : Int))) ∧ w'.ownsMap Try.prog 9 heldR s.mp (k + 1) ((D.del (key n1)).put (key n2) (.held (.pointer (some ⟨g, 0, none⟩)))) ∧ Keeps [b, s.mp] w w' := by
  have hk1 := key_of hn1
  have hk2 := key_of hn2
  have z0 : w.cell? ⟨b, 0, none⟩ = some (.int .i32 0) := by rw [hb.cell]; rfl
  have f0 := hb.free 0
  have Hb := Lib.hid hb
  have Hg := Lib.hid hg
  have Hg2 := Lib.hid hg2
  have Hown := Lib.hid hown
  have Hat1 := Lib.hid hat1
  have Hat2 := Lib.hid hat2
  have Hn1 := Lib.hid hn1
  have Hn2 := Lib.hid hn2
  have Hk1 := Lib.hid hk1
  have Hk2 := Lib.hid hk2
  have Hfa := Lib.hid hfa
  have Hpi := Lib.hid hpi
  have Hd := Lib.hid hd
  have Hpp := Lib.hid hpp
  clear hfa hpi hd hpp hb hg hg2 hown hat1 hat2 hn1 hn2 hk1 hk2
  go_enter_defers Try.func22, Try.ntmps22
  go_wp2_with fail
  refine (lock_free Try.muLib ⟨b, 0, none⟩ _ z0 f0).mono ?_
  rintro e w1 ⟨rfl, hw1⟩
  have hb1 : FsAt w1 b 1 s := by rw [hw1]; exact Hb.out.set 0 _ rfl
  have kp1 : Keeps [b] w w1 := by rw [hw1]; exact (Keeps.refl _ _).setCell (by simp) _
  clear z0 f0
  have Hw1 := Lib.hid hw1
  clear hw1
  go_wp2_with fail
  refine (call_ok b 6 1 s _ hb1 (by omega) Hfa.out Hpi.out c0 c1 o0 o1 Hpp.out Hd.out).mono ?_
  rintro e w2 ⟨rfl, hb2, kp2⟩
  have kp2 := kp1.trans kp2
  clear hb1 kp1
  have Hb2 := Lib.hid hb2
  have Kp2 := Lib.hid kp2
  clear hb2 kp2
  go_wp2_with fail
  refine (nameHolds_ok _ _ Hn1.out).mono ?_
  rintro e w' ⟨rfl, rfl⟩
  go_wp2_with fail
  refine (nameHolds_ok _ _ Hn2.out).mono ?_
  rintro e w' ⟨rfl, rfl⟩
  have hown2 := ownsMap_keeps Hown.out Kp2.out (by simpa using hne)
  have g12 : w2.cell? ⟨b, 12, none⟩ = some (.map (some s.mp)) := by rw [Hb2.out.cell]; rfl
  have l1 := look_runs Hn1.out hown2 Hat1.out
  have l2 := look_runs Hn2.out hown2 Hat2.out
  clear hown2
  go_wp2_with fail
  refine wp_goes fun J hJ => ?_
  go_quiet (fail)
  refine hJ _ _ ?_
  clear hJ
  generalize hw3 : w2.drewN _ = w3 at *
  have hb3 := Hb2.out.ofDrewN hw3
  have kp3 := Kp2.out.ofDrewN hw3
  clear g12 l1 l2 hw3
  have hg3 := Hg.out.keeps kp3 (by simpa using e1)
  have hg32 := Hg2.out.keeps kp3 (by simpa using e2)
  have k2 := (body_facts hg3).2.2.1
  have k22 := (body_facts hg32).2.2.1
  have k20 := (body_facts hg32).1
  have Hb3 := Lib.hid hb3
  have Kp3 := Lib.hid kp3
  have Hg3 := Lib.hid hg3
  have Hg32 := Lib.hid hg32
  clear hb3 kp3 hg3 hg32
  go_wp2_with fail
  refine (grow_ok b 1 (-(m : Int)) _ _ Hb3.out (by show _ ≤ s.used + _; omega) (by show s.used + _ ≤ _; omega)).mono ?_
  rintro e w4 ⟨rfl, hb4, kp4⟩
  have kp4 := Kp3.out.trans kp4
  have hown4 := ownsMap_keeps Hown.out kp4 (by simpa using hne)
  have g12 : w4.cell? ⟨b, 12, none⟩ = some (.map (some s.mp)) := by rw [hb4.cell]; rfl
  clear k2 k22 k20
  have Hb4 := Lib.hid hb4
  have Kp4 := Lib.hid kp4
  have Hown4 := Lib.hid hown4
  clear hb4 kp4 hown4
  have hN' : k < maxLen := by unfold maxLen; omega
  go_wp2_with (first
    | (at_delete; go_must (refine wpList_delete_own _ rfl _ _ 91 9 rfl 97 law9 Try.underlying91 heldR s.mp k D rfl Hown4.out _ _ rfl Hk1.out ?_; intro w5 hown5 hturn5; clear g12; obtain ⟨hb5, kp5⟩ := turned_keeps hturn5 hne Hb4.out Kp4.out; have g12 : w5.cell? ⟨b, 12, none⟩ = some (.map (some s.mp)) := by rw [hb5.cell]; rfl))
    | (at_mapUpdate; go_must (refine wpList_mapUpdate_in _ rfl _ _ _ 91 rfl 9 97 law9 Try.underlying91 heldR s.mp k _ rfl hown5 hN' _ _ (key n2) rfl rfl Hk2.out (.held (.pointer (some ⟨g, 0, none⟩))) [] rfl ?_; intro w6 hown6 hturn6; clear g12; obtain ⟨hb6, kp6⟩ := turned_keeps hturn6 hne hb5 kp5)))
  refine leaves_cons (f := 42) (args := #[.pointer (some ⟨b, 0, none⟩)]) (by simp) (by simp [go_sem]) ?_
  refine (unlock_deferred Try.muLib ⟨b, 0, none⟩ .returning _ ?_ ?_).mono ?_
  · rw [hb6.cell]; rfl
  · exact hb6.free 0
  rintro e u' w'' ⟨rfl, rfl, rfl⟩
  have kp8 : Keeps [b] w6 (w6.setCell ⟨b, 0, none⟩ (.int .i32 0)) := (Keeps.refl _ _).setCell (by simp) _
  exact ⟨_, results_tmp rfl _ _ _, rfl, hb6.set 0 _ rfl, ownsMap_keeps hown6 kp8 (by simpa using hne), (kp6.mono (by simp)).trans (kp8.mono (by simp))⟩
end Go.Proofs.Ytfplfnhhiipgcaa
