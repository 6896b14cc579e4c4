/- Read, of a file that is open to be read: the walk, somewhere within its row. -/
import Derived.Test.YtolnojhepakaoaaWrite
namespace Go.Proofs.Ytolnojhepakaoaa
open Go.RowKit Go.Maps Go.MuLone

/-- The plan's list of short reads: empty, or in memory, each number 1 or more. -/
def ShortAt (w : World) (sh : Value) (b : Nat) : Prop :=
  (∃ so sc, sh = .slice so 0 sc) ∨ ∃ (sb so sn sc : Nat) (z : Nat → Int), sh = .slice (some ⟨sb, so, none⟩) sn sc ∧ 0 < sn ∧ sn ≤ 64 ∧ sb ≠ b ∧ ∀ j, j < sn → w.cell? ⟨sb, so + j, none⟩ = some (.int .i64 (z j)) ∧ 1 ≤ z j
theorem ShortAt.keeps {S : List Nat} {w w' : World} {sh : Value} {b : Nat} (h : ShortAt w sh b) (k : Keeps S w w') (hs : ∀ so sb sn sc, sh = .slice (some ⟨sb, so, none⟩) sn sc → 0 < sn → sb ∉ S) : ShortAt w' sh b := by
  rcases h with h | ⟨sb, so, sn, sc, z, rfl, h0, h1, h2, h3⟩
  · exact .inl h
  · refine .inr ⟨sb, so, sn, sc, z, rfl, h0, h1, h2, fun j hj => ⟨?_, (h3 j hj).2⟩⟩
    have h4 := (h3 j hj).1
    exact (World.cell?_of_block (k.block _ (World.block_lt_of_cell? w _ h4) (hs so sb sn sc rfl h0))).trans h4

set_option maxRecDepth 100000 in
set_option maxHeartbeats 1600000 in
/-- Read, of a file that is open to be read, somewhere within its row. -/
theorem read_row (f b g d : Nat) (s : FSt) (nm : ByteArray) (p : Nat) (q : Int) (n cp : Nat) (sy op : Int) (wr : Bool) (zs : List Int) (most : Int) (w : World) (hb : FsAt w b 0 s) (hf : FileAt w f b s.life nm true false false g p q) (hg : BodyAt w g (.slice (some ⟨d, 0, none⟩) n cp) sy op wr)
    (hz : zs.length = n) (hc : ∀ j, j < n → w.cell? ⟨d, j, none⟩ = some (.int .u8 (zs.getD j 0))) (hcp : n ≤ cp) (hn : n ≤ 67108864) (hp : p ≤ n) (hpc : p < cp) (hm : 1 ≤ most) (hsh : ShortAt w s.sh b)
    (e1 : f ≠ b) (e2 : g ≠ b) (e4 : d ≠ b)
    (hfa : s.fa = .slice none 0 0) (hpi : s.pi = 0) (c0 : 0 ≤ s.calls) (c1 : s.calls < 4611686018427387904) (o0 : 0 ≤ s.ops 1) (o1 : s.ops 1 < 4611686018427387904) (hpp : s.pp = 0 ∨ s.calls + 1 < s.pp) (hd : s.drk = false) :
    Calls Try.prog 63 #[.pointer (some ⟨f, 0, none⟩), .int .i64 most] w fun e w' => ∃ (k : Nat) (u : Value), e = .returned (.tuple #[u, .int .i64 0]) ∧ (k : Int) ≤ most ∧ k ≤ n - p ∧ (k = 0 → p = n) ∧
      FsAt w' b 0 (s.called 1 false) ∧ FileAt w' f b s.life nm true false false g ((p + k : Nat) : Int) q ∧ w'.ownsRow w.heap.size 5 1 u k (((zs.drop p).take k).map (Value.int .u8)) ∧ Keeps [b, f] w w' := by
  have h0 := (file_facts hf).1
  have z0 : w.cell? ⟨b, 0, none⟩ = some (.int .i32 0) := by rw [hb.cell]; rfl
  have f0 := hb.free 0
  have Hb := Lib.hid hb
  have Hf := Lib.hid hf
  have Hg := Lib.hid hg
  have Hz := Lib.hid hz
  have Hc := Lib.hid hc
  have Hsh := Lib.hid hsh
  have Hfa := Lib.hid hfa
  have Hpi := Lib.hid hpi
  have Hd := Lib.hid hd
  have Hpp := Lib.hid hpp
  clear hfa hpi hd hpp hb hf hg hz hc hsh
  go_enter_defers Try.func63, Try.ntmps63
  go_wp2_with fail
  refine (made_ok f b w h0).mono ?_
  rintro e w' ⟨rfl, rfl⟩
  go_wp2_with fail
  refine (lock_free Try.muLib ⟨b, 0, none⟩ _ z0 f0).mono ?_
  rintro e w1 ⟨rfl, hw1⟩
  have hb1 : FsAt w1 b 1 s := by rw [hw1]; exact Hb.out.set 0 _ rfl
  have kp1 : Keeps [b] w w1 := by rw [hw1]; exact (Keeps.refl _ _).setCell (by simp) _
  clear z0 f0 h0
  have Hw1 := Lib.hid hw1
  clear hw1
  go_wp2_with fail
  refine (call_ok b 1 1 s _ hb1 (by omega) Hfa.out Hpi.out c0 c1 o0 o1 Hpp.out Hd.out).mono ?_
  rintro e w2 ⟨rfl, hb2, kp2⟩
  have kp2 := kp1.trans kp2
  clear hb1 kp1
  have hf2 := Hf.out.keeps kp2 (by simpa using e1)
  obtain ⟨h0, h1', h3, h4, h5, h6, h7, h8, hf5, _⟩ := file_facts hf2
  have hl2 : w2.cell? ⟨b, 32, none⟩ = some (.int .i64 s.life) := by rw [hb2.cell]; rfl
  go_wp2_with fail
  refine (closed_no f b s.life w2 h0 h1' h5 hl2).mono ?_
  rintro e w3 ⟨rfl, q', hw3⟩
  have hb3 := hb2.ofDrewN hw3.symm
  have kp3 := kp2.ofDrewN hw3.symm
  have hf3 := hf2.keeps ((Keeps.refl [] w2).ofDrewN hw3.symm) (by simp)
  have hg3 := Hg.out.keeps kp3 (by simpa using e2)
  have hsh3 := Hsh.out.keeps kp3 (fun so sb sn sc h h0 => by
    rcases Hsh.out with ⟨so', sc', h'⟩ | ⟨sb', so', sn', sc', z, h', _, _, h2, _⟩
    · rw [h'] at h; simp at h; omega
    · rw [h'] at h; simp at h; simp; omega)
  clear hw3 hb2 hf2 h0 h1' h3 h4 h5 h6 h7 h8 hf5 hl2 kp2
  obtain ⟨h0, h1', h3, h4, h5, h6, h7, h8, hf5, hf7⟩ := file_facts hf3
  obtain ⟨k0, k1, k2, k3, kf0, kf1, kf2, kf3⟩ := body_facts hg3
  have g8 : w3.cell? ⟨b, 8, none⟩ = some s.sh := by rw [hb3.cell]; rfl
  have g15 : w3.cell? ⟨b, 15, none⟩ = some (.int .i64 (s.ops 1 + 1)) := by rw [hb3.cell]; rfl
  have Hb3 := Lib.hid hb3
  have Hf3 := Lib.hid hf3
  have Hg3 := Lib.hid hg3
  have Kp3 := Lib.hid kp3
  clear hb3 hf3 hg3 kp3 h0 h1' h3 h5 h8 hf5 k1 k2 k3 kf0 kf1 kf2 kf3
  rcases hsh3 with ⟨so, sc, hsh⟩ | ⟨sb, so, sn, sc, z, hsh, hs0, hs1, hs2, hs3⟩
  · rw [hsh] at g8
    clear hsh
    go_wp2_with fail
    have m1 : 1 ≤ most := hm
    have m2 : most ≤ most := Int.le_refl _
    clear g8 g15 h4
    have kk : ((min most ((n - p : Nat) : Int)).toNat : Int) = min most ((n - p : Nat) : Int) := Int.toNat_of_nonneg (by omega)
    generalize hk : (min most ((n - p : Nat) : Int)).toNat = k at *
    have ke : min most ((n - p : Nat) : Int) = (k : Int) := kk.symm
    have k1 : (k : Int) ≤ most := by omega
    have k2 : k ≤ n - p := by omega
    have k3 : k = 0 → p = n := by omega
    have k4 : (k : Int) ≤ ((cp - p : Nat) : Int) := by omega
    have k5 : (0 : Int) ≤ (k : Int) := by omega
    have K3 := Lib.hid k3
    clear hk kk k3
    have tp : min (p : Int) (n : Int) = (p : Int) := by omega
    have hp0 : (0 : Int) ≤ (p : Int) := by omega
    have hp1 : (p : Int) ≤ (n : Int) := by omega
    have hp2 : (p : Int) ≤ (cp : Int) := by omega
    have hn1 : (n : Int) ≤ (cp : Int) := by omega
    have hpe : (cp = p) = False := by simp; omega
    refine wp_goes fun J hJ => ?_
    go_quiet (fail)
    refine hJ _ _ ?_
    clear hJ hpe tp h6 k0
    generalize hw4 : w3.drewN _ = w4 at *
    have hb4 := Hb3.out.ofDrewN hw4
    have hf4 := Hf3.out.keeps ((Keeps.refl [] w3).ofDrewN hw4) (by simp)
    have kp4 := Kp3.out.ofDrewN hw4
    have hf7' : w4.frozen? ⟨f, 7, none⟩ = false := (file_facts hf4).2.2.2.2.2.2.2.2.2
    have Hb4 := Lib.hid hb4
    have Hf4 := Lib.hid hf4
    have Kp4 := Lib.hid kp4
    clear hw4 hb4 hf4 kp4 h7 hf7
    go_wp2_with fail
    refine (Try.bytes_Clone_at ⟨d, p, none⟩ k (cp - p) ((zs.drop p).take k) w4 (by simp [Hz.out]; omega) (by omega) (fun i hi => by
      have e : (zs.drop p).take k = (zs.drop p).take k := rfl
      have hx : ((zs.drop p).take k).getD i 0 = zs.getD (p + i) 0 := by simp [List.getD, hi]
      have ha : (⟨d, p, none⟩ : Addr).add i = ⟨d, p + i, none⟩ := by unfold Addr.add; split <;> simp_all
      have h0 := Hc.out (p + i) (by omega)
      rw [hx, ha]
      exact (World.cell?_of_block (Kp4.out.block _ (World.block_lt_of_cell? w _ h0) (by simpa using e4))).trans h0)).mono ?_
    rintro e w5 ⟨u, rfl, hu5, hun, hbel⟩
    have kp45 : Keeps [] w4 w5 := ⟨hbel.os, hbel.tape, hbel.output, hbel.size, fun k hk _ => hbel.block k hk⟩
    obtain ⟨ua, uc, rfl⟩ := ownsRow_slice hu5
    have hb5 := Hb4.out.keeps kp45 (by simp)
    have hf5 := Hf4.out.keeps kp45 (by simp)
    have kp5 := Kp4.out.trans (kp45.mono (by simp))
    have h7 := (file_facts hf5).2.2.2.2.2.2.1
    have hf7 := (file_facts hf5).2.2.2.2.2.2.2.2.2
    have Hu5 := Lib.hid hu5
    have Hb5 := Lib.hid hb5
    have Hf5 := Lib.hid hf5
    have Kp5 := Lib.hid kp5
    clear hu5 hun hbel kp45 hb5 hf5 kp5 hf7' ke
    go_wp2_with fail
    have hb6 : FsAt (w5.setCell ⟨f, 7, none⟩ (.int .i64 ((p : Int) + (k : Int)))) b 1 (s.called 1 false) := Hb5.out.setNe (fun e => e1 e.symm) _
    refine leaves_cons (f := 43) (args := #[.pointer (some ⟨b, 0, none⟩)]) (by simp) (by simp [go_sem]) ?_
    refine (unlock_deferred Try.muLib ⟨b, 0, none⟩ .returning _ ?_ ?_).mono ?_
    · rw [hb6.cell]; rfl
    · exact hb6.free 0
    rintro e u' w'' ⟨rfl, rfl, rfl⟩
    refine ⟨_, results_tmp2 rfl _ _ _, k, .slice ua k uc, rfl, k1, k2, K3.out, hb6.set 0 _ rfl, ?_, ?_, ?_⟩
    · refine (heap_set_ne (by simpa using e1) _).trans ?_
      have h := heap_set (i := 7) Hf5.out (.int .i64 ((p : Int) + (k : Int)))
      exact h
    · have hh := Hu5.out
      have hle : w.heap.size ≤ w4.heap.size := Kp4.out.size
      have hlb : b < w.heap.size := lt_of_block Hb.out
      have hlf : f < w.heap.size := lt_of_block Hf.out
      have h1 := ownsRow_setCell_other hh (a := ⟨f, 7, none⟩) (fun e => by have := (hh.lt _ e).1; simp at this; omega) (.int .i64 ((p : Int) + (k : Int)))
      have h2 := ownsRow_setCell_other h1 (a := ⟨b, 0, none⟩) (fun e => by have := (h1.lt _ e).1; simp at this; omega) (.int .i32 0)
      refine ⟨h2.1, ?_⟩
      rcases h2.2 with h3 | ⟨g', c', cur, h3, h4, h5⟩
      · exact .inl h3
      · exact .inr ⟨g', c', cur, h3, Nat.le_trans hle h4, h5⟩
    · exact ((Kp5.out.mono (by simp)).setCell (by simp) _).setCell (by simp) _
  · rw [hsh] at g8
    clear hsh
    have hs0' : (0 : Int) < (sn : Int) := by omega
    have hmod0 : 0 ≤ s.ops 1 % (sn : Int) := Int.emod_nonneg _ (by omega)
    have hmod1 : s.ops 1 % (sn : Int) < (sn : Int) := Int.emod_lt_of_pos _ (by omega)
    obtain ⟨j, hj⟩ : ∃ j : Nat, s.ops 1 % (sn : Int) = (j : Int) := ⟨_, (Int.toNat_of_nonneg hmod0).symm⟩
    have hz4 := (hs3 j (by omega)).1
    have hz5 := (hs3 j (by omega)).2
    generalize z j = zj at *
    obtain ⟨mo, hmo⟩ : ∃ mo, min most zj = mo := ⟨_, rfl⟩
    have m1 : 1 ≤ mo := by omega
    have m2 : mo ≤ most := by omega
    clear hs3
    go_wp2_with fail
    clear hmo hz4 hz5 hj hmod0 hmod1 hs0' hs0 hs1
    clear g8 g15 h4
    have kk : ((min mo ((n - p : Nat) : Int)).toNat : Int) = min mo ((n - p : Nat) : Int) := Int.toNat_of_nonneg (by omega)
    generalize hk : (min mo ((n - p : Nat) : Int)).toNat = k at *
    have ke : min mo ((n - p : Nat) : Int) = (k : Int) := kk.symm
    have k1 : (k : Int) ≤ most := by omega
    have k2 : k ≤ n - p := by omega
    have k3 : k = 0 → p = n := by omega
    have k4 : (k : Int) ≤ ((cp - p : Nat) : Int) := by omega
    have k5 : (0 : Int) ≤ (k : Int) := by omega
    have K3 := Lib.hid k3
    clear hk kk k3
    have tp : min (p : Int) (n : Int) = (p : Int) := by omega
    have hp0 : (0 : Int) ≤ (p : Int) := by omega
    have hp1 : (p : Int) ≤ (n : Int) := by omega
    have hp2 : (p : Int) ≤ (cp : Int) := by omega
    have hn1 : (n : Int) ≤ (cp : Int) := by omega
    have hpe : (cp = p) = False := by simp; omega
    refine wp_goes fun J hJ => ?_
    go_quiet (fail)
    refine hJ _ _ ?_
    clear hJ hpe tp h6 k0
    generalize hw4 : w3.drewN _ = w4 at *
    have hb4 := Hb3.out.ofDrewN hw4
    have hf4 := Hf3.out.keeps ((Keeps.refl [] w3).ofDrewN hw4) (by simp)
    have kp4 := Kp3.out.ofDrewN hw4
    have hf7' : w4.frozen? ⟨f, 7, none⟩ = false := (file_facts hf4).2.2.2.2.2.2.2.2.2
    have Hb4 := Lib.hid hb4
    have Hf4 := Lib.hid hf4
    have Kp4 := Lib.hid kp4
    clear hw4 hb4 hf4 kp4 h7 hf7
    go_wp2_with fail
    refine (Try.bytes_Clone_at ⟨d, p, none⟩ k (cp - p) ((zs.drop p).take k) w4 (by simp [Hz.out]; omega) (by omega) (fun i hi => by
      have e : (zs.drop p).take k = (zs.drop p).take k := rfl
      have hx : ((zs.drop p).take k).getD i 0 = zs.getD (p + i) 0 := by simp [List.getD, hi]
      have ha : (⟨d, p, none⟩ : Addr).add i = ⟨d, p + i, none⟩ := by unfold Addr.add; split <;> simp_all
      have h0 := Hc.out (p + i) (by omega)
      rw [hx, ha]
      exact (World.cell?_of_block (Kp4.out.block _ (World.block_lt_of_cell? w _ h0) (by simpa using e4))).trans h0)).mono ?_
    rintro e w5 ⟨u, rfl, hu5, hun, hbel⟩
    have kp45 : Keeps [] w4 w5 := ⟨hbel.os, hbel.tape, hbel.output, hbel.size, fun k hk _ => hbel.block k hk⟩
    obtain ⟨ua, uc, rfl⟩ := ownsRow_slice hu5
    have hb5 := Hb4.out.keeps kp45 (by simp)
    have hf5 := Hf4.out.keeps kp45 (by simp)
    have kp5 := Kp4.out.trans (kp45.mono (by simp))
    have h7 := (file_facts hf5).2.2.2.2.2.2.1
    have hf7 := (file_facts hf5).2.2.2.2.2.2.2.2.2
    have Hu5 := Lib.hid hu5
    have Hb5 := Lib.hid hb5
    have Hf5 := Lib.hid hf5
    have Kp5 := Lib.hid kp5
    clear hu5 hun hbel kp45 hb5 hf5 kp5 hf7' ke
    go_wp2_with fail
    have hb6 : FsAt (w5.setCell ⟨f, 7, none⟩ (.int .i64 ((p : Int) + (k : Int)))) b 1 (s.called 1 false) := Hb5.out.setNe (fun e => e1 e.symm) _
    refine leaves_cons (f := 43) (args := #[.pointer (some ⟨b, 0, none⟩)]) (by simp) (by simp [go_sem]) ?_
    refine (unlock_deferred Try.muLib ⟨b, 0, none⟩ .returning _ ?_ ?_).mono ?_
    · rw [hb6.cell]; rfl
    · exact hb6.free 0
    rintro e u' w'' ⟨rfl, rfl, rfl⟩
    refine ⟨_, results_tmp2 rfl _ _ _, k, .slice ua k uc, rfl, k1, k2, K3.out, hb6.set 0 _ rfl, ?_, ?_, ?_⟩
    · refine (heap_set_ne (by simpa using e1) _).trans ?_
      have h := heap_set (i := 7) Hf5.out (.int .i64 ((p : Int) + (k : Int)))
      exact h
    · have hh := Hu5.out
      have hle : w.heap.size ≤ w4.heap.size := Kp4.out.size
      have hlb : b < w.heap.size := lt_of_block Hb.out
      have hlf : f < w.heap.size := lt_of_block Hf.out
      have h1 := ownsRow_setCell_other hh (a := ⟨f, 7, none⟩) (fun e => by have := (hh.lt _ e).1; simp at this; omega) (.int .i64 ((p : Int) + (k : Int)))
      have h2 := ownsRow_setCell_other h1 (a := ⟨b, 0, none⟩) (fun e => by have := (h1.lt _ e).1; simp at this; omega) (.int .i32 0)
      refine ⟨h2.1, ?_⟩
      rcases h2.2 with h3 | ⟨g', c', cur, h3, h4, h5⟩
      · exact .inl h3
      · exact .inr ⟨g', c', cur, h3, Nat.le_trans hle h4, h5⟩
    · exact ((Kp5.out.mono (by simp)).setCell (by simp) _).setCell (by simp) _

end Go.Proofs.Ytolnojhepakaoaa
