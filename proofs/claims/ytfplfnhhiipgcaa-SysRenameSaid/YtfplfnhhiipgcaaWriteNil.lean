/- Write, to an open File of a file, of nil: the walk. -/
import Derived.Test.YtfplfnhhiipgcaaWrite
namespace Go.Proofs.Ytfplfnhhiipgcaa
open Go.RowKit Go.Maps Go.MuLone

/-- append of nil: at a step of a region that draws its order. -/
theorem step_append_nil {P : Program} {w : World} {ops : Array Oper} {o : Oper} {a : Act} {K : Act → World → Prop} {Q : Exit → Act → World → Prop} {E : Prop} (hgd : o.guard = none) (s x : Operand) (t : TypeId)
    (ho : o.op = .call { callee := .builtin .append, args := #[s, x], argTypes := #[t, t] })
    (base : Nat) (e : TypeId) (i : TypeInfo) (size : Nat) (ht : P.underlying t = some (.slice e)) (hi : P.info? e = some i)
    (v : Value) (n : Nat) (xs : List Value) (hs : a.eval s = v) (hown : w.ownsRow base e size v n xs) (hx : a.eval x = .slice none 0 0) (h : K (a.put o.dst v) w) :
    if Region.wanted o (yielded ops a.tmps) = true then Oper.wp P o a w K Q else E := by
  have hw : Region.wanted o (yielded ops a.tmps) = true := by simp [Region.wanted, hgd]
  rw [if_pos hw]
  have hr := run_append_owned_none (P := P) (w := w) base t o.type e i size ht hi v n xs hown
  unfold Oper.wp execOp
  simp only [ho, resolve, invoke, builtin, Sem.run_bind, Sem.run_pure, Result.andThen_ok, List.map_toArray, List.map_cons, List.map_nil, hs, hx, hr]
  exact h

set_option maxRecDepth 100000 in
set_option maxHeartbeats 1600000 in
/-- Write, to an open file, of nil. -/
theorem write_nil (f b g : Nat) (s : FSt) (nm : ByteArray) (p q : Int) (ao : Option Addr) (cp : Nat) (sy op : Int) (wr : Bool) (n : Nat) (xs : List Value) (w : World) (hb : FsAt w b 0 s) (hf : FileAt w f b s.life nm true true false g p q) (hg : BodyAt w g (.slice ao n cp) sy op wr)
    (hv : w.ownsRow 0 5 1 (.slice ao n cp) n xs)
    (e1 : f ≠ b) (e2 : g ≠ b) (e3 : f ≠ g) (e4 : (Value.slice ao n cp).ownBlock ≠ some b) (e5 : (Value.slice ao n cp).ownBlock ≠ some g) (hroom : s.used ≤ s.mb) (u0 : 0 ≤ s.used) (b1 : s.mb ≤ 67108864) (wr0 : 0 ≤ s.written) (wr1 : s.written < 4611686018427387904)
    (hfa : s.fa = .slice none 0 0) (hpi : s.pi = 0) (c0 : 0 ≤ s.calls) (c1 : s.calls < 4611686018427387904) (o0 : 0 ≤ s.ops 2) (o1 : s.ops 2 < 4611686018427387904) (hpp : s.pp = 0 ∨ s.calls + 1 < s.pp) (hd : s.drk = false) :
    Calls Try.prog 15 #[.pointer (some ⟨f, 0, none⟩), .slice none 0 0] w fun e w' => e = .returned (.tuple #[.int .i64 0, .int .i64 0]) ∧
      FsAt w' b 0 (((s.called 2 false).wrote 0).grown 0) ∧ FileAt w' f b s.life nm true true false g p q ∧ BodyAt w' g (.slice ao n cp) sy op wr ∧ w'.ownsRow 0 5 1 (.slice ao n cp) n xs ∧ Keeps [b, g] w w' := by
  have h0 := (file_facts hf).1
  have z0 : w.cell? ⟨b, 0, none⟩ = some (.int .i32 0) := by rw [hb.cell]; rfl
  have f0 := hb.free 0
  have Hb := Lib.hid hb
  have Hf := Lib.hid hf
  have Hg := Lib.hid hg
  have Hv := Lib.hid hv
  have Hfa := Lib.hid hfa
  have Hpi := Lib.hid hpi
  have Hd := Lib.hid hd
  have Hpp := Lib.hid hpp
  clear hfa hpi hd hpp hb hf hg hv
  go_enter_defers Try.func15, Try.ntmps15
  go_wp2_with fail
  refine (made_ok f b w h0).mono ?_
  rintro e w' ⟨rfl, rfl⟩
  go_wp2_with fail
  refine (lock_free Try.muLib ⟨b, 0, none⟩ _ z0 f0).mono ?_
  rintro e w1 ⟨rfl, hw1⟩
  have hb1 : FsAt w1 b 1 s := by rw [hw1]; exact Hb.out.set 0 _ rfl
  have kp1 : Keeps [b] w w1 := by rw [hw1]; exact (Keeps.refl _ _).setCell (by simp) _
  clear z0 f0 h0
  have Hw1 := Lib.hid hw1
  clear hw1
  go_wp2_with fail
  refine (call_ok b 2 1 s _ hb1 (by omega) Hfa.out Hpi.out c0 c1 o0 o1 Hpp.out Hd.out).mono ?_
  rintro e w2 ⟨rfl, hb2, kp2⟩
  have kp2 := kp1.trans kp2
  clear hb1 kp1
  have hf2 := Hf.out.keeps kp2 (by simpa using e1)
  have hg2 := Hg.out.keeps kp2 (by simpa using e2)
  obtain ⟨h0, h1', h3, h4, h5, h6, h7, h8, hf5, _⟩ := file_facts hf2
  have hl2 : w2.cell? ⟨b, 32, none⟩ = some (.int .i64 s.life) := by rw [hb2.cell]; rfl
  go_wp2_with fail
  refine (closed_no f b s.life w2 h0 h1' h5 hl2).mono ?_
  rintro e w3 ⟨rfl, q', hw3⟩
  have hb3 := hb2.ofDrewN hw3.symm
  have kp3 := kp2.ofDrewN hw3.symm
  have hf3 := hf2.keeps ((Keeps.refl [] w2).ofDrewN hw3.symm) (by simp)
  have hg3 := hg2.keeps ((Keeps.refl [] w2).ofDrewN hw3.symm) (by simp)
  clear hw3 hb2 hf2 hg2 h0 h1' h3 h4 h5 h6 h7 h8 hf5 hl2 kp2
  obtain ⟨h0, h1', h3, h4, h5, h6, h7, h8, hf5, _⟩ := file_facts hf3
  have g2 : w3.cell? ⟨b, 2, none⟩ = some (.int .i64 s.mb) := by rw [hb3.cell]; rfl
  have g27 : w3.cell? ⟨b, 27, none⟩ = some (.int .i64 s.used) := by rw [hb3.cell]; rfl
  go_wp2_with fail
  refine (free_named f b s.mb s.used w3 h0 h3 g2 g27 (by omega) (by omega) u0 (by omega)).mono ?_
  rintro e w4 ⟨rfl, q', hw4⟩
  have hb4 := hb3.ofDrewN hw4.symm
  have kp4 := kp3.ofDrewN hw4.symm
  have hf4 := hf3.keeps ((Keeps.refl [] w3).ofDrewN hw4.symm) (by simp)
  have hg4 := hg3.keeps ((Keeps.refl [] w3).ofDrewN hw4.symm) (by simp)
  clear hw4 hb3 hf3 hg3 h0 h1' h3 h4 h5 h6 h7 h8 hf5 g2 g27 kp3
  obtain ⟨h0, h1', h3, h4, h5, h6, h7, h8, hf5, _⟩ := file_facts hf4
  obtain ⟨k0, k1, k2, k3, kf0, kf1, kf2, kf3⟩ := body_facts hg4
  have tm : min 0 (s.mb - s.used) = 0 := by omega
  go_wp2_with fail
  have hv4 := ownsRow_keeps Hv.out kp4 (fun j hj => by simp only [List.mem_singleton]; exact fun e => e4 (e ▸ hj))
  obtain ⟨i0, hi, hz0, hz1, hz2⟩ := info_parts info5
  have Hi := Lib.hid hi
  have Hv4 := Lib.hid hv4
  have Hb4 := Lib.hid hb4
  have Hf4 := Lib.hid hf4
  have Hg4 := Lib.hid hg4
  have Kp4 := Lib.hid kp4
  clear hi hz0 hz1 hz2 hv4 hb4 hf4 hg4 kp4 h0 h1' h3 h4 h5 h7 h8 hf5 k1 k2 k3 kf1 kf2 kf3
  refine wp_goes fun J hJ => ?_
  go_region_law (refine step_append_nil rfl (.tmp 50) (.tmp 53) 36 rfl 0 5 i0 1 Try.underlying36 Hi.out (.slice ao n cp) n xs rfl Hv4.out rfl ?_)
  all_goals
    refine hJ _ _ ?_
    clear hJ
    have hg6 : BodyAt (w4.setCell ⟨g, 0, none⟩ (.slice ao n cp)).drew g (.slice ao n cp) sy op wr := heap_set Hg4.out _
    have hf6 : FileAt (w4.setCell ⟨g, 0, none⟩ (.slice ao n cp)).drew f b s.life nm true true false g p q := (heap_set_ne (by simpa using e3) _).trans Hf4.out
    have hb6 := (Hb4.out.setNe (a := ⟨g, 0, none⟩) (fun e => e2 e.symm) (.slice ao n cp)).drew
    have kp6 : Keeps [b, g] w (w4.setCell ⟨g, 0, none⟩ (.slice ao n cp)).drew := ((Kp4.out.mono (by simp)).setCell (by simp) _).drew
    have hv6 : (w4.setCell ⟨g, 0, none⟩ (.slice ao n cp)).drew.ownsRow 0 5 1 (.slice ao n cp) n xs := ownsRow_setCell_other Hv4.out (a := ⟨g, 0, none⟩) e5 _
    clear h6 k0 kf0 tm
    generalize (w4.setCell ⟨g, 0, none⟩ (.slice ao n cp)).drew = w6 at *
    have h3 := (file_facts hf6).2.2.1
    have g24 : w6.cell? ⟨b, 24, none⟩ = some (.int .i64 s.written) := by rw [hb6.cell]; rfl
    have f24 := hb6.free 24
    have Hb6 := Lib.hid hb6
    have Hf6 := Lib.hid hf6
    have Hg6 := Lib.hid hg6
    have Hv6 := Lib.hid hv6
    have Kp6 := Lib.hid kp6
    clear hb6 hf6 hg6 hv6 kp6
    go_wp2_with fail
    have hb7 := Hb6.out.set (s' := (s.called 2 false).wrote 0) (l' := 1) 24 (.int .i64 s.written) (by simp [FSt.wrote, FSt.called, FSt.arr])
    refine (grow_ok b 1 0 _ _ hb7 (by show _ ≤ s.used + 0; omega) (by show s.used + 0 ≤ _; omega)).mono ?_
    rintro e w7 ⟨rfl, hb8, kp8⟩
    clear hb7 h3 g24 f24
    go_wp2_with fail
    refine leaves_cons (f := 42) (args := #[.pointer (some ⟨b, 0, none⟩)]) (by simp) (by simp [go_sem]) ?_
    refine (unlock_deferred Try.muLib ⟨b, 0, none⟩ .returning _ ?_ ?_).mono ?_
    · rw [hb8.cell]; rfl
    · exact hb8.free 0
    rintro e u' w'' ⟨rfl, rfl, rfl⟩
    have kp9 : Keeps [b] w6 (w7.setCell ⟨b, 0, none⟩ (.int .i32 0)) := (((Keeps.refl [b] w6).setCell (by simp) _).trans kp8).setCell (by simp) _
    exact ⟨_, results_tmp2 rfl _ _ _, rfl, hb8.set 0 _ rfl, Hf6.out.keeps kp9 (by simpa using e1), Hg6.out.keeps kp9 (by simpa using e2), ownsRow_keeps Hv6.out kp9 (fun j hj => by simp only [List.mem_singleton]; exact fun e => e4 (e ▸ hj)), Kp6.out.trans (kp9.mono (by simp))⟩
end Go.Proofs.Ytfplfnhhiipgcaa
