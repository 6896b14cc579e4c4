/- all: a file read to its end, piece by piece: the walk. -/
import Derived.Test.YtfplfnhhiipgcaaReadAny
namespace Go.Proofs.Ytfplfnhhiipgcaa
open Go.RowKit Go.Maps Go.MuLone

/-- What stays of a system's block while files are opened, read and closed. -/
structure Stay (s s' : FSt) : Prop where
  mb : s'.mb = s.mb
  mp : s'.mp = s.mp
  used : s'.used = s.used
  sh : s'.sh = s.sh
  life : s'.life = s.life
  opn : s'.opn = s.opn
theorem Stay.refl (s : FSt) : Stay s s := ⟨rfl, rfl, rfl, rfl, rfl, rfl⟩
theorem Stay.trans {a b c : FSt} (h : Stay a b) (k : Stay b c) : Stay a c := ⟨k.mb.trans h.mb, k.mp.trans h.mp, k.used.trans h.used, k.sh.trans h.sh, k.life.trans h.life, k.opn.trans h.opn⟩
theorem Stay.called (s : FSt) (k : Nat) : Stay s (s.called k false) := ⟨rfl, rfl, rfl, rfl, rfl, rfl⟩

/-- The state of the loop in 'all'. -/
def AllRel (w : World) (B b g f : Nat) (s : FSt) (N : Int) (nm : ByteArray) (v : Value) (n : Nat) (sy : Int) (zs : List Int) (out i : Value) (wr : World) : Prop :=
  ∃ (p k : Nat) (s' : FSt), p ≤ n ∧ k ≤ p ∧ i = .int .i64 k ∧ wr.ownsRow B 5 1 out p ((zs.take p).map (Value.int .u8)) ∧ B ≤ wr.heap.size ∧ FsAt wr b 0 s' ∧ Stay s s' ∧ Fine s' (N + k) ∧ FileAt wr f b s.life nm true false false g (p : Int) 0 ∧
    BodyAt wr g v sy 1 false ∧ Keeps [b, g] w wr

theorem Fine.mono {s : FSt} {N M : Int} (h : Fine s N) (hm : N ≤ M) : Fine s M :=
  ⟨h.fa, h.pi, h.pp, h.drk, h.c0, Int.le_trans h.c1 hm, h.o0, fun k => Int.le_trans (h.o1 k) hm, h.m0, Int.le_trans h.m1 hm, h.n0, h.mh, h.mb, h.mf, h.w0, h.w1⟩
theorem row_up {w : World} {B B' : Nat} {v : Value} {n : Nat} {xs : List Value} (h : w.ownsRow B 5 1 v n xs) (hB : B' ≤ B) : w.ownsRow B' 5 1 v n xs := by
  refine ⟨h.1, ?_⟩
  rcases h.2 with h3 | ⟨g', c', cur, h3, h4, h5⟩
  · exact .inl h3
  · exact .inr ⟨g', c', cur, h3, Nat.le_trans hB h4, h5⟩

/-- What 'all' gives. -/
def AllPost (w : World) (b g : Nat) (s : FSt) (N : Int) (v : Value) (n : Nat) (sy : Int) (zs : List Int) (e : Ending) (w' : World) : Prop :=
  ∃ (u : Value) (s' : FSt), e = .returned (.tuple #[u, .int .i64 0]) ∧ FsAt w' b 0 s' ∧ Stay s s' ∧ Fine s' (N + 4194304) ∧ BodyAt w' g v sy 0 false ∧ w'.ownsRow 0 5 1 v n (zs.map (Value.int .u8)) ∧ w'.ownsRow w.heap.size 5 1 u n (zs.map (Value.int .u8)) ∧ Keeps [b, g] w w'

set_option maxRecDepth 100000 in
set_option maxHeartbeats 3200000 in
theorem all_ok (b g : Nat) (s : FSt) (N : Int) (k0 : Nat) (D : DataW Value) (nm : ByteArray) (v : Value) (n : Nat) (sy : Int) (zs : List Int) (most : Int) (w : World) (hb : FsAt w b 0 s) (hF : Fine s N) (hN : N < 1152921504606846976) (ho0 : s.opn = 0) (hn : Nam nm) (hown : w.ownsMap Try.prog 9 heldR s.mp k0 D) (hne : s.mp ≠ b)
    (hat : D.atKey (key nm) (.held (.pointer none)) = .held (.pointer (some ⟨g, 0, none⟩))) (hg : BodyAt w g v sy 0 false) (hv : w.ownsRow 0 5 1 v n (zs.map (Value.int .u8))) (hn1 : n ≤ 1048576) (hm : 1 ≤ most) (hsh : ShortAt w s.sh b)
    (e2 : g ≠ b) (e4 : v.ownBlock ≠ some b) (e5 : v.ownBlock ≠ some g) (e6 : g ≠ s.mp) (hsb : ∀ so sb sn sc, s.sh = .slice (some ⟨sb, so, none⟩) sn sc → 0 < sn → sb ≠ g) :
    Calls Try.prog 16 #[.pointer (some ⟨b, 0, none⟩), .string nm, .int .i64 most] w (AllPost w b g s N v n sy zs) := by
  have Hat := Lib.hid hat
  have Hown := Lib.hid hown
  have Hn := Lib.hid hn
  have Hb := Lib.hid hb
  have Hg := Lib.hid hg
  have Hv := Lib.hid hv
  have Hsh := Lib.hid hsh
  have HF := Lib.hid hF
  have Ho0 := Lib.hid ho0
  have Hsb := Lib.hid hsb
  clear hat hown hn hb hg hv hsh hF ho0 hsb
  go_enter Try.func16, Try.ntmps16
  go_wp2_with fail
  refine (open_read b g s k0 D nm v sy 0 w Hb.out Hn.out Hown.out hne Hat.out Hg.out e2 (by have := HF.out.mh; have := Ho0.out; omega) HF.out.fa HF.out.pi HF.out.c0 (by have := HF.out.c1; omega) (HF.out.o0 0) (by have := HF.out.o1 0; omega) (.inl HF.out.pp) HF.out.drk HF.out.n0 (by have := HF.out.mh; omega) (by omega) (by omega)).mono ?_
  rintro e w1 ⟨f, rfl, hb1, hg1, hf1, kp1, hfw⟩
  have hgl : g < w.heap.size := lt_of_block Hg.out
  have hbl : b < w.heap.size := lt_of_block Hb.out
  have hfb : f ≠ b := by omega
  have hfg : f ≠ g := by omega
  have hv1 := ownsRow_keeps Hv.out kp1 (fun j hj => by simp; exact ⟨fun e => e4 (e ▸ hj), fun e => e5 (e ▸ hj)⟩)
  have hs1 := Hsh.out.keeps kp1 (fun so sb sn sc h h0 => by
    have h2 := Hsb.out so sb sn sc h h0
    rcases Hsh.out with ⟨so2, sc2, h'⟩ | ⟨sb2, so2, sn2, sc2, z, h', _, _, h3, _⟩
    · rw [h'] at h; simp at h; omega
    · rw [h'] at h; simp at h; simp; omega)
  go_wp2_with fail
  refine (num_ok 0 w1).mono ?_
  rintro e w' ⟨rfl, rfl⟩
  go_wp2_with fail
  obtain ⟨s1, hs1e⟩ : ∃ s1, s1 = (s.called 0 false).opened 0 := ⟨_, rfl⟩
  have hF1 : Fine s1 (N + 1) := by
    have h := HF.out.called 0
    rw [hs1e]
    exact ⟨h.fa, h.pi, h.pp, h.drk, h.c0, h.c1, h.o0, h.o1, by have := h.m0; show 0 ≤ s.made + 0; have h2 := HF.out.m0; omega, by have h2 := HF.out.m1; show s.made + 0 ≤ N + 1; omega, by have h2 := HF.out.n0; show 0 ≤ s.opn + 1; omega, h.mh, h.mb, h.mf, h.w0, h.w1⟩
  have hl1 : s1.life = s.life := by rw [hs1e]; rfl
  have hm1 : s1.mp = s.mp ∧ s1.mb = s.mb ∧ s1.used = s.used ∧ s1.sh = s.sh ∧ s1.opn = s.opn + 1 := by rw [hs1e]; exact ⟨rfl, rfl, rfl, rfl, rfl⟩
  rw [← hs1e] at hb1
  rw [← hl1] at hf1
  have hB : w1.heap.size ≤ w1.heap.size := Nat.le_refl _
  have hfB : f < w1.heap.size := lt_of_block hf1
  have hwB : w.heap.size ≤ w1.heap.size := kp1.size
  generalize hBdef : w1.heap.size = B at *
  have Hrel : AllRel w B b g f s1 (N + 1) nm v n sy zs (.slice none 0 0) (.int .i64 0) w1 := ⟨0, 0, s1, Nat.zero_le _, Nat.le_refl _, rfl, by simpa using World.ownsRow_nil w1 B 5 1, by omega, hb1, Stay.refl _, by simpa using hF1, hf1, by simpa using hg1, kp1⟩
  clear hBdef hs1e hB hb1 hf1 hg1 kp1 hv1 hs1
  have Hm1 := Lib.hid hm1
  have Hl1 := Lib.hid hl1
  clear hm1 hl1 hF1
  go_loopw [10, 11] (fun out i wr => AllRel w B b g f s1 (N + 1) nm v n sy zs out i wr) (fun _ i _ => 2097152 - (intOf i).toNat)
  case atStart => exact Hrel
  case round =>
    obtain ⟨p, k, s', hp, hk, rfl, hout, hBs, hb2, hst, hF2, hf2, hg2, kp2⟩ := hrel
    clear Hrel
    have hv2 := ownsRow_keeps Hv.out kp2 (fun j hj => by simp; exact ⟨fun e => e4 (e ▸ hj), fun e => e5 (e ▸ hj)⟩)
    have hs2 := Hsh.out.keeps kp2 (fun so sb sn sc h h0 => by
      have h2 := Hsb.out so sb sn sc h h0
      rcases Hsh.out with ⟨so2, sc2, h'⟩ | ⟨sb2, so2, sn2, sc2, z, h', _, _, h3, _⟩
      · rw [h'] at h; simp at h; omega
      · rw [h'] at h; simp at h; simp; omega)
    have hkb : (k : Int) < 2097152 := by omega
    have hsl : s'.life = s1.life := hst.life
    have hshe : s'.sh = s.sh := hst.sh.trans Hm1.out.2.2.2.1
    rw [← hsl] at hf2
    rw [← hshe] at hs2
    have Hout := Lib.hid hout
    have Hb2 := Lib.hid hb2
    have Hst := Lib.hid hst
    have HF2 := Lib.hid hF2
    have Hf2 := Lib.hid hf2
    have Hg2 := Lib.hid hg2
    have Kp2 := Lib.hid kp2
    have Hv2 := Lib.hid hv2
    have Hs2 := Lib.hid hs2
    have Hsl := Lib.hid hsl
    obtain ⟨oa, oc, hoe⟩ := ownsRow_slice hout
    have Hoe := Lib.hid hoe
    clear hout hb2 hst hF2 hf2 hg2 kp2 hv2 hs2 hsl hshe hoe
    go_wp2_with fail
    refine (read_any f b g s' (N + 1 + k) nm p 0 v n sy 1 false zs most _ Hb2.out HF2.out (by omega) Hf2.out Hg2.out Hv2.out (by omega) hp hm Hs2.out hfb e2 e4).mono ?_
    rintro e w3 ⟨kk, u, rfl, hk1, hk2, hk3, hb3, hf3, hu3, kp3⟩
    obtain ⟨ua, uc, rfl⟩ := ownsRow_slice hu3
    go_wp2_with fail
    refine (num_ok 0 w3).mono ?_
    rintro e w' ⟨rfl, rfl⟩
    have hfw3 : f < w3.heap.size := lt_of_block hf3
    have hb3l : b < w3.heap.size := lt_of_block hb3
    have hsz3 := kp3.size
    have hg3 := Hg2.out.keeps kp3 (by simp; omega)
    have hst3 := Hst.out.trans (Stay.called s' 1)
    have hF3 := HF2.out.called 1
    have hout3 := ownsRow_keeps Hout.out kp3 (fun j hj => by have := (Hout.out.lt j hj).1; simp; omega)
    have kp3' : Keeps [b, g] w w3 := (Kp2.out.mono (T := [b, g, f]) (by intro k hk; simp at hk ⊢; omega)).trans (kp3.mono (by intro k hk; simp at hk ⊢; omega)) |>.drop (fun k hk => by simp at hk ⊢; omega)
    have hfl3 : FileAt w3 f b s1.life nm true false false g ((p + kk : Nat) : Int) 0 := by rw [← Hsl.out]; exact hf3
    have hv3 := ownsRow_keeps Hv.out kp3' (fun j hj => by simp; exact ⟨fun e => e4 (e ▸ hj), fun e => e5 (e ▸ hj)⟩)
    have hw2w : w.heap.size ≤ w3.heap.size := kp3'.size
    have Hb3 := Lib.hid hb3
    have Hg3 := Lib.hid hg3
    have Hst3 := Lib.hid hst3
    have HF3 := Lib.hid hF3
    have Hout3 := Lib.hid hout3
    have Kp3 := Lib.hid kp3'
    have Hf3 := Lib.hid hfl3
    have Hv3 := Lib.hid hv3
    have Hu3 := Lib.hid hu3
    have Hk3 := Lib.hid hk3
    clear hb3 hg3 hst3 hF3 hout3 kp3' hfl3 hv3 hf3 kp3 hu3 hk3
    by_cases hkz : kk = 0
    · have hpn : p = n := Hk3.out hkz
      subst hkz
      have Hpn := Lib.hid hpn
      clear hpn
      go_wp2_with fail
      refine (close_ok f b g _ nm false _ 0 v sy 1 false w3 Hb3.out (by have h := Hf3.out; rw [← Hst3.out.life] at h; exact h) Hg3.out hfb e2 hfg (by omega) (by omega) (by have h := Hst3.out.opn; have h2 := Hm1.out.2.2.2.2; have h3 := Ho0.out; omega) (by have h := Hst3.out.opn; have h2 := Hm1.out.2.2.2.2; have h3 := Ho0.out; omega) HF3.out.fa HF3.out.pi HF3.out.c0 (by have := HF3.out.c1; omega) (HF3.out.o0 4) (by have := HF3.out.o1 4; omega) (.inl HF3.out.pp) HF3.out.drk).mono ?_
      rintro e w4 ⟨rfl, hb4, hf4, hg4, kp4⟩
      have hFc := HF3.out.called 4
      have Hb4 := Lib.hid hb4
      have Hg4 := Lib.hid hg4
      have Kp4 := Lib.hid kp4
      have HFc := Lib.hid hFc
      clear hb4 hf4 hg4 kp4 hFc
      go_wp2_with fail
      refine (num_ok 0 w4).mono ?_
      rintro e w' ⟨rfl, rfl⟩
      have hx := Hoe.out
      go_wp2_with fail
      go_ret2
      have hzl : zs.length = n := by have := Hv.out.1; simpa using this
      have hM := Hm1.out
      have hO := Ho0.out
      have h3 := Hst3.out
      refine ⟨_, _, rfl, Hb4.out, ⟨h3.mb.trans hM.2.1, h3.mp.trans hM.1, h3.used.trans hM.2.2.1, h3.sh.trans hM.2.2.2.1, h3.life.trans Hl1.out, ?_⟩, ?_, Hg4.out, ?_, ?_, ?_⟩
      · have h4 := h3.opn
        have h5 := hM.2.2.2.2
        show (s'.called 1 false).opn - 1 = s.opn
        omega
      · have h := HFc.out
        have h4 := h3.opn
        have h5 := hM.2.2.2.2
        exact Fine.mono ⟨h.fa, h.pi, h.pp, h.drk, h.c0, h.c1, h.o0, h.o1, h.m0, h.m1, by show 0 ≤ (s'.called 1 false).opn - 1; omega, h.mh, h.mb, h.mf, h.w0, h.w1⟩ (by omega)
      · exact ownsRow_keeps Hv3.out Kp4.out (fun j hj => by have := (Hv.out.lt j hj).2; simp; exact ⟨fun e => e4 (e ▸ hj), by omega, fun e => e5 (e ▸ hj)⟩)
      · have hr := row_up (ownsRow_keeps Hout3.out Kp4.out (fun j hj => by have := (Hout3.out.lt j hj).1; simp; omega)) hwB
        rw [hx, Hpn.out, List.take_of_length_le (by omega)] at hr
        rw [← Hpn.out] at hr ⊢
        exact hr
      · exact (Kp3.out.mono (T := [b, g, f]) (by intro k hk; simp at hk ⊢; omega)).trans (Kp4.out.mono (by intro k hk; simp at hk ⊢; omega)) |>.drop (fun k hk => by simp at hk ⊢; omega)
    · obtain ⟨ug, uc', hue, hug, hugl⟩ := Hu3.out.form (by omega)
      simp only [Value.slice.injEq] at hue
      obtain ⟨rfl, -, rfl⟩ := hue
      obtain ⟨i0, hi, hz0, hz1, hz2⟩ := info_parts info5
      have t1 : ((kk : Int) == 0) = false := by rw [beq_eq_false_iff_ne]; omega
      have t2 : decide (most < (kk : Int)) = false := by rw [decide_eq_false_iff_not]; omega
      have hzl : zs.length = n := by have := Hv.out.1; simpa using this
      have hxl : (((zs.drop p).take kk).map (Value.int .u8)).length = kk * 1 := by simp; omega
      have hcu := Hu3.out.cells (g := ug) rfl
      have hone : ∀ u ∈ ((zs.drop p).take kk).map (Value.int .u8), u.oneCell' = true := fun u hu => by obtain ⟨x, _, rfl⟩ := List.mem_map.1 hu; rfl
      have b63 : p + kk ≤ maxLen := by unfold maxLen; omega
      have b47 : (p + kk) * 1 ≤ 140737488355328 := by omega
      have hB3 : B ≤ w3.heap.size := by omega
      have Hi := Lib.hid hi
      have Hz0 := Lib.hid hz0
      have Hz1 := Lib.hid hz1
      have Hz2 := Lib.hid hz2
      have Hxl := Lib.hid hxl
      have Hcu := Lib.hid hcu
      have Hone := Lib.hid hone
      have B63 := Lib.hid b63
      have B47 := Lib.hid b47
      have Hzl := Lib.hid hzl
      have Hk2 := Lib.hid hk2
      clear hi hz0 hz1 hz2 hxl hcu hone b63 b47 hzl hk2
      go_wp2_with (at_builtin; go_must (refine wpList_append_own _ rfl _ _ 36 rfl B 5 i0 (.int .u8 0) 1 1 Try.underlying36 Hi.out Hz0.out Hz1.out Hz2.out rfl (by decide) u10 p ((zs.take p).map (Value.int .u8)) rfl Hout3.out ⟨ug, 0, none⟩ kk uc (((zs.drop p).take kk).map (Value.int .u8)) rfl Hxl.out Hcu.out Hone.out B63.out B47.out hB3 ?_; intro v4 w4 hown4 hgrow4 hnil4))
      have hrow : ∀ j, u10.ownBlock = some j → B ≤ j := fun j hj => (Hout3.out.lt j hj).1
      have hnb : ∀ j, j < B → u10.ownBlock ≠ some j := fun j hj e => by have := hrow j e; omega
      have hFc : Fine (s'.called 1 false) (N + 1 + ((k + 1 : Nat) : Int)) := Fine.mono HF3.out (by omega)
      refine ⟨⟨p + kk, k + 1, s'.called 1 false, by have := Hk2.out; omega, by omega, by go_num, ?_, Nat.le_trans hB3 hgrow4.size, block_grown Hb3.out hgrow4 (hnb b (by omega)), Hst3.out, hFc, block_grown Hf3.out hgrow4 (hnb f (by omega)), block_grown Hg3.out hgrow4 (hnb g (by omega)), Kp3.out.grown hgrow4 (fun j hj => .inr (by have := hrow j hj; omega))⟩, by simp [intOf]; omega⟩
      rw [List.take_add, List.map_append]
      exact hown4
end Go.Proofs.Ytfplfnhhiipgcaa
