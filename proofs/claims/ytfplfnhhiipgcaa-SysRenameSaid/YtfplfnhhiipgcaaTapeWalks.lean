/- SysTape, where the pieces or the list of short reads are empty: the walks. -/
import Derived.Test.YtfplfnhhiipgcaaTapeWalk
namespace Go.Proofs.Ytfplfnhhiipgcaa
open Go.RowKit Go.Maps Go.MuLone

set_option maxHeartbeats 400000 in
theorem fits_nil (pa : Option Addr) (C : Nat) (w : World) : Calls Try.prog 10 #[.slice pa 0 C] w fun e w' => e = .returned (.bool true) ∧ w = w' := by
  go_enter Try.func10, Try.ntmps10
  go_wp2_with fail
  refine wp_loop_rounds 1 ?_; rw [rounds_succ]
  go_wp2_with fail
  go_ret
  exact ⟨rfl, rfl⟩

set_option maxRecDepth 100000 in
set_option maxHeartbeats 3200000 in
theorem tape_some_nil (pb po N C sc : Nat) (sa : Option Addr) (A : Nat → Option Addr) (L Cc : Nat → Nat) (X : Nat → List Int) (half most : Int) (w : World) (hN : N ≤ 5864062014805)
    (hp : ∀ i, i < N → w.cell? ⟨pb, po + i, none⟩ = some (.slice (A i) (L i) (Cc i)) ∧ PieceAt w (A i) (L i) (Cc i) (X i)) :
    Calls Try.prog 3 #[.slice (some ⟨pb, po, none⟩) N C, .int .i64 half, .slice sa 0 sc, .int .i64 most] w fun e w' => e = .returned (.bool true) ∧ Keeps [] w w' := by
  have Hp := Lib.hid hp
  clear hp
  go_enter Try.func3, Try.ntmps3
  go_wp2_with fail
  refine (fits_ok pb po N C A L Cc w (by omega) (fun i hi => ⟨(Hp.out i hi).1, by have h := (Hp.out i hi).2.1; have h2 := (Hp.out i hi).2.2.1; omega⟩)).mono ?_
  rintro e w' ⟨t, rfl, ht, rfl⟩
  cases t with
  | false =>
    clear ht
    go_wp2_with fail
    go_ret
    exact ⟨rfl, Keeps.refl _ _⟩
  | true =>
    have htot := ht rfl
    clear ht
    by_cases hm : most < 1
    · have t1 : decide (most < 1) = true := by rw [decide_eq_true_iff]; omega
      go_wp2_with fail
      go_ret
      exact ⟨rfl, Keeps.refl _ _⟩
    have t1 : decide (most < 1) = false := by rw [decide_eq_false_iff_not]; omega
    go_wp2_with fail
    refine wp_loop_rounds 1 ?_; rw [rounds_succ]
    have hok : ShortOk w (.slice sa 0 sc) := .inl ⟨_, _, rfl⟩
    have Hok := Lib.hid hok
    clear hok
    go_wp2_with fail
    refine (wide_ok 0 _ w Hok.out (by omega)).mono ?_
    rintro e w1 ⟨b, mp, sh', d, rfl, hb1, hm1, hs1, hne1, hwb, hwm, kp1⟩
    clear Hok
    have hF1 : Fine (newFS 67108864 1024 256 0 sh' d mp) 0 := ⟨rfl, rfl, rfl, rfl, by simp [newFS], by simp [newFS], fun k => by simp [newFS], fun k => by simp [newFS], by simp [newFS], by simp [newFS], by simp [newFS], rfl, rfl, rfl, by simp [newFS], by simp [newFS]⟩
    have hs1e : (newFS 67108864 1024 256 0 sh' d mp).mp = mp ∧ (newFS 67108864 1024 256 0 sh' d mp).used = 0 ∧ (newFS 67108864 1024 256 0 sh' d mp).written = 0 ∧ (newFS 67108864 1024 256 0 sh' d mp).sh = sh' ∧ (newFS 67108864 1024 256 0 sh' d mp).life = 0 ∧ (newFS 67108864 1024 256 0 sh' d mp).opn = 0 := ⟨rfl, rfl, rfl, rfl, rfl, rfl⟩
    generalize newFS 67108864 1024 256 0 sh' d mp = s0 at *
    have HF1 := Lib.hid hF1
    have Hs1e := Lib.hid hs1e
    have Hb1 := Lib.hid hb1
    have Hm1 := Lib.hid hm1
    have Hs1 := Lib.hid hs1
    have Kp1 := Lib.hid kp1
    clear hF1 hs1e hb1 hm1 hs1 kp1
    go_wp2_with fail
    refine (open_new b s0 0 _ tape w1 Hb1.out tape_nam (by rw [Hs1e.out.1]; exact Hm1.out) (by rw [Hs1e.out.1]; exact hne1) rfl (by have := HF1.out.mf; omega) (by have := HF1.out.mh; have := Hs1e.out.2.2.2.2.2; omega) rfl HF1.out.fa HF1.out.pi HF1.out.c0 (by have := HF1.out.c1; omega) (HF1.out.o0 0) (by have := HF1.out.o1 0; omega) (.inl HF1.out.pp) HF1.out.drk HF1.out.m0 (by have := HF1.out.m1; omega) (by omega) HF1.out.n0 (by have := HF1.out.mh; omega)).mono ?_
    rintro e w2 ⟨f, g, rfl, hb2, hg2, hf2, hm2, kp2, hg0, hf0, hfg⟩
    go_wp2_with fail
    refine (num_ok 0 w2).mono ?_
    rintro e w' ⟨rfl, rfl⟩
    go_wp2_with fail
    obtain ⟨s2, hs2e⟩ : ∃ s2, s2 = (s0.called 0 false).opened 1 := ⟨_, rfl⟩
    have hs2f : s2.used = s0.used ∧ s2.written = s0.written ∧ s2.mp = s0.mp ∧ s2.sh = s0.sh ∧ s2.life = s0.life ∧ s2.opn = s0.opn + 1 := by rw [hs2e]; exact ⟨rfl, rfl, rfl, rfl, rfl, rfl⟩
    have hF2 : Fine s2 2 := by
      have h1 := Fine.mono (HF1.out.called 0) (show (0 : Int) + 1 ≤ 2 by omega)
      have h2 := HF1.out
      rw [hs2e]
      exact ⟨h1.fa, h1.pi, h1.pp, h1.drk, h1.c0, h1.c1, h1.o0, h1.o1, by have := h2.m0; show 0 ≤ s0.made + 1; omega, by have := h2.m1; show s0.made + 1 ≤ 2; omega, by have := h2.n0; show 0 ≤ s0.opn + 1; omega, h1.mh, h1.mb, h1.mf, h1.w0, h1.w1⟩
    rw [← hs2e] at hb2
    have he := Hs1e.out
    have hlb : b < w1.heap.size := lt_of_block Hb1.out
    have hlm : mp < w1.heap.size := Hm1.out.lt
    have hkp2 : Keeps [b, mp] w1 w2 := by rw [← he.1]; exact kp2
    have hold : Keeps [] w w2 := ((Kp1.out.mono (by simp)).trans hkp2).drop (fun k hk => .inr (by simp at hk; omega))
    have hin : TapeIn w w1.heap.size b mp g sh' X L 2 0 0 f (.slice none 0 0) (.slice none 0 0) s2 w2 :=
      { fs := hb2, fine := by simpa using hF2, used := by rw [hs2f.1, he.2.1]; rfl, written := by rw [hs2f.2.1, he.2.2.1]; rfl, mpe := by rw [hs2f.2.2.1, he.1], she := by rw [hs2f.2.2.2.1, he.2.2.2.1], life := by rw [hs2f.2.2.2.2.1, he.2.2.2.2.1], opn := by rw [hs2f.2.2.2.2.2, he.2.2.2.2.2]; rfl, file := (by rw [he.2.2.2.2.1] at hf2; exact hf2), body := hg2, rowV := World.ownsRow_nil _ _ _ _, rowW := World.ownsRow_nil _ _ _ _, hB := hkp2.size, bB := hlb, mB := hlm, fB := hf0, gB := hg0, fg := hfg, vg := (by simp [Value.ownBlock]), vf := (by simp [Value.ownBlock]), wg := (by simp [Value.ownBlock]), wf := (by simp [Value.ownBlock]), vw := (fun j hj => by simp [Value.ownBlock] at hj), map := (by rw [← he.1]; exact hm2), short := Hs1.out.keeps hkp2 (Hs1.out.apart Hm1.out), shB := Hs1.out.lt, wB := ⟨hwb, hwm⟩, bm := hne1, old := hold }
    have Hin := Lib.hid hin
    have Htot := Lib.hid htot
    clear hin hold hkp2 he hs2f hF2 hb2 hg2 hf2 hm2 kp2 hg0 hf0 hfg hs2e HF1 Hs1e Hb1 Hm1 Hs1 Kp1
    generalize w1.heap.size = B at *
    have Hl := Lib.hid hlb
    clear hlb hlm
    go_loopw [11, 13, 14] (fun f want i wr => TapeRel w B b mp g sh' X L N f want i wr) (fun _ _ i _ => N - (intOf i).toNat)
    case atStart => exact ⟨0, f, _, s2, Nat.zero_le _, rfl, rfl, Hin.out⟩
    case round =>
      obtain ⟨k', fb, v, s, hk', rfl, rfl, hin⟩ := hrel
      clear Hin
      have HIN0 := Lib.hid hin
      clear hin
      by_cases hlt : k' < N
      · have hcell : wr.cell? ⟨pb, po + k', none⟩ = some (.slice (A k') (L k') (Cc k')) := (World.cell?_of_block (HIN0.out.old.block _ (World.block_lt_of_cell? w _ (Hp.out k' hlt).1) (by simp))).trans (Hp.out k' hlt).1
        by_cases hh : (k' : Int) = half
        · have th : ((k' : Int) == half) = true := by rw [beq_iff_eq]; exact hh
          have Hh := Lib.hid hh
          clear hh hcell
          go_wp2_with fail
          refine (tape_close HIN0.out (by omega)).mono ?_
          rintro e wc ⟨sC, rfl, hshut⟩
          have HSH := Lib.hid hshut
          clear hshut
          go_wp2_with fail
          refine (num_ok 0 wc).mono ?_
          rintro e w' ⟨rfl, rfl⟩
          go_wp2_with fail
          refine (tape_reopen HSH.out (by omega)).mono ?_
          rintro e wd ⟨fb2, sD, rfl, hin2⟩
          have HIN := Lib.hid hin2
          clear hin2
          go_wp2_with fail
          refine (num_ok 0 wd).mono ?_
          rintro e w' ⟨rfl, rfl⟩
          have hcell : wd.cell? ⟨pb, po + k', none⟩ = some (.slice (A k') (L k') (Cc k')) := (World.cell?_of_block (HIN.out.old.block _ (World.block_lt_of_cell? w _ (Hp.out k' hlt).1) (by simp))).trans (Hp.out k' hlt).1
          go_wp2_with fail
          refine (tape_write HIN.out (Hp.out k' hlt).2 (by have := tot_le L (show k' + 1 ≤ N by omega); have := Htot.out; omega) (by omega)).mono ?_
          rintro e wb ⟨v', s', rfl, hin3⟩
          have HIN3 := Lib.hid hin3
          clear hin3
          have hbB := HIN3.out.bB
          have hnew := HIN3.out.old
          obtain ⟨oa, oc, hoe⟩ := ownsRow_slice HIN3.out.rowW
          have Hoe := Lib.hid hoe
          clear hoe
          have hcp : wb.cell? ⟨pb, po + k', none⟩ = some (.slice (A k') (L k') (Cc k')) := (World.cell?_of_block (hnew.block _ (World.block_lt_of_cell? w _ (Hp.out k' hlt).1) (by simp))).trans (Hp.out k' hlt).1
          clear hcell
          have tt : ((L k' : Int) != (L k' : Int)) = false := by simp
          have Hnew := Lib.hid hnew
          clear hnew
          go_wp2_with fail
          refine (num_ok 0 wb).mono ?_
          rintro e w' ⟨rfl, rfl⟩
          obtain ⟨i0, hi, hz0, hz1, hz2⟩ := info_parts info5
          have hpk := (Hp.out k' hlt).2
          have hnone : A k' = none → L k' = 0 ∧ Cc k' = 0 := fun h => by have h1 := hpk.2.2.2.1 h; have h2 := hpk.1; omega
          have hxl : ((X k').map (Value.int .u8)).length = L k' := by rw [List.length_map]; exact hpk.2.2.1
          have hcu : ∀ ad, A k' = some ad → ∀ j u, ((X k').map (Value.int .u8))[j]? = some u → wb.cell? (ad.add j) = some u := fun ad ha => hpk.cells Hnew.out ha
          have htk : tot L k' + L k' ≤ 1048576 := by have h1 := tot_le L (show k' + 1 ≤ N by omega); have h2 := Htot.out; have h3 : tot L (k' + 1) = tot L k' + L k' := rfl; omega
          have b63 : tot L k' + L k' ≤ maxLen := by unfold maxLen; omega
          have b47 : (tot L k' + L k') * 1 ≤ 140737488355328 := by omega
          have Hi := Lib.hid hi
          have Hz0 := Lib.hid hz0
          have Hz1 := Lib.hid hz1
          have Hz2 := Lib.hid hz2
          have Hnone := Lib.hid hnone
          have Hxl := Lib.hid hxl
          have Hcu := Lib.hid hcu
          have B63 := Lib.hid b63
          have B47 := Lib.hid b47
          clear hi hz0 hz1 hz2 hpk hnone hxl hcu htk b63 b47
          go_wp2_with (at_builtin; (first | (refine wpList_append_piece rfl _ _ 36 rfl B 5 i0 (.int .u8 0) 1 Try.underlying36 Hi.out Hz0.out Hz1.out Hz2.out rfl _ (tot L k') ((cat X k').map (Value.int .u8)) rfl HIN3.out.rowW (A k') (L k') (Cc k') ((X k').map (Value.int .u8)) rfl Hnone.out Hxl.out Hcu.out (oneCell_bytes _) B63.out B47.out HIN3.out.hB ?_; intro v4 w4 hown4 hgrow4 hloc4) | fail))
          refine ⟨⟨k' + 1, fb2, v', s', by omega, rfl, by go_num, tape_next HIN3.out (by omega) hown4 hgrow4 hloc4⟩, by simp [intOf]; omega⟩
        · have th : ((k' : Int) == half) = false := by rw [beq_eq_false_iff_ne]; exact hh
          have HIN := HIN0
          clear HIN0
          go_wp2_with fail
          refine (tape_write HIN.out (Hp.out k' hlt).2 (by have := tot_le L (show k' + 1 ≤ N by omega); have := Htot.out; omega) (by omega)).mono ?_
          rintro e wb ⟨v', s', rfl, hin3⟩
          have HIN3 := Lib.hid hin3
          clear hin3
          have hbB := HIN3.out.bB
          have hnew := HIN3.out.old
          obtain ⟨oa, oc, hoe⟩ := ownsRow_slice HIN3.out.rowW
          have Hoe := Lib.hid hoe
          clear hoe
          have hcp : wb.cell? ⟨pb, po + k', none⟩ = some (.slice (A k') (L k') (Cc k')) := (World.cell?_of_block (hnew.block _ (World.block_lt_of_cell? w _ (Hp.out k' hlt).1) (by simp))).trans (Hp.out k' hlt).1
          clear hcell
          have tt : ((L k' : Int) != (L k' : Int)) = false := by simp
          have Hnew := Lib.hid hnew
          clear hnew
          go_wp2_with fail
          refine (num_ok 0 wb).mono ?_
          rintro e w' ⟨rfl, rfl⟩
          obtain ⟨i0, hi, hz0, hz1, hz2⟩ := info_parts info5
          have hpk := (Hp.out k' hlt).2
          have hnone : A k' = none → L k' = 0 ∧ Cc k' = 0 := fun h => by have h1 := hpk.2.2.2.1 h; have h2 := hpk.1; omega
          have hxl : ((X k').map (Value.int .u8)).length = L k' := by rw [List.length_map]; exact hpk.2.2.1
          have hcu : ∀ ad, A k' = some ad → ∀ j u, ((X k').map (Value.int .u8))[j]? = some u → wb.cell? (ad.add j) = some u := fun ad ha => hpk.cells Hnew.out ha
          have htk : tot L k' + L k' ≤ 1048576 := by have h1 := tot_le L (show k' + 1 ≤ N by omega); have h2 := Htot.out; have h3 : tot L (k' + 1) = tot L k' + L k' := rfl; omega
          have b63 : tot L k' + L k' ≤ maxLen := by unfold maxLen; omega
          have b47 : (tot L k' + L k') * 1 ≤ 140737488355328 := by omega
          have Hi := Lib.hid hi
          have Hz0 := Lib.hid hz0
          have Hz1 := Lib.hid hz1
          have Hz2 := Lib.hid hz2
          have Hnone := Lib.hid hnone
          have Hxl := Lib.hid hxl
          have Hcu := Lib.hid hcu
          have B63 := Lib.hid b63
          have B47 := Lib.hid b47
          clear hi hz0 hz1 hz2 hpk hnone hxl hcu htk b63 b47
          go_wp2_with (at_builtin; (first | (refine wpList_append_piece rfl _ _ 36 rfl B 5 i0 (.int .u8 0) 1 Try.underlying36 Hi.out Hz0.out Hz1.out Hz2.out rfl _ (tot L k') ((cat X k').map (Value.int .u8)) rfl HIN3.out.rowW (A k') (L k') (Cc k') ((X k').map (Value.int .u8)) rfl Hnone.out Hxl.out Hcu.out (oneCell_bytes _) B63.out B47.out HIN3.out.hB ?_; intro v4 w4 hown4 hgrow4 hloc4) | fail))
          refine ⟨⟨k' + 1, fb, v', s', by omega, rfl, by go_num, tape_next HIN3.out (by omega) hown4 hgrow4 hloc4⟩, by simp [intOf]; omega⟩
      · have hkN : k' = N := by omega
        obtain ⟨oa, oc, hoe⟩ := ownsRow_slice HIN0.out.rowW
        have Hoe := Lib.hid hoe
        have HkN := Lib.hid hkN
        clear hoe hkN
        go_wp2_with fail
        refine (tape_close HIN0.out (by omega)).mono ?_
        rintro e wc ⟨sC, rfl, hshut⟩
        have HSH := Lib.hid hshut
        clear hshut
        go_wp2_with fail
        refine (num_ok 0 wc).mono ?_
        rintro e w' ⟨rfl, rfl⟩
        have hgB := HSH.out.gB
        have hbB := HSH.out.bB
        have hsbg : ∀ so sb sn sc, sC.sh = .slice (some ⟨sb, so, none⟩) sn sc → 0 < sn → sb ≠ g := fun so sb sn sc e h0 => by have := HSH.out.shB so sb sn sc (by rw [← HSH.out.she]; exact e) h0; omega
        have hvb : v.ownBlock ≠ some b := fun e => by have := (HSH.out.rowV.lt _ e).1; omega
        have hle : tot L k' ≤ 1048576 := by have h1 := tot_le L (show k' ≤ N by omega); have h2 := Htot.out; omega
        have Hle := Lib.hid hle
        clear hle
        go_wp2_with fail
        refine (all_ok b g sC (2 + 1 + 4 * (k' : Int)) 1 _ tape v (tot L k') 0 (cat X k') most wc HSH.out.fs HSH.out.fine (by omega) HSH.out.opn tape_nam (by rw [HSH.out.mpe]; exact HSH.out.map) (by rw [HSH.out.mpe]; exact hne1) (tape_at g) HSH.out.body (row_up HSH.out.rowV (Nat.zero_le _)) Hle.out (by omega) (by rw [HSH.out.she]; exact HSH.out.short) (by omega) hvb HSH.out.vg (by rw [HSH.out.mpe]; have := HSH.out.mB; omega) hsbg).mono ?_
        rintro e wd ⟨u, sD, rfl, hbD, hst, hFD, hgD, hvD, huD, kpD⟩
        have hmapD := ownsMap_keeps HSH.out.map kpD (by have := HSH.out.mB; simp; omega)
        have hwD := ownsRow_keeps HSH.out.rowW kpD (fun j hj => by have h6 := (HSH.out.rowW.lt j hj).1; simp; exact ⟨by omega, fun e => HSH.out.wg (e ▸ hj)⟩)
        have holdD : Keeps [] w wd := ((HSH.out.old.mono (by simp)).trans kpD).drop (fun j hj => .inr (by have h6 := HSH.out.wB.1; simp at hj; omega))
        have hmpD : sD.mp = mp := hst.mp.trans HSH.out.mpe
        have husD : sD.used = (tot L k' : Nat) := hst.used.trans HSH.out.used
        have hubase := huD
        have hcu : wc.heap.size ≤ wd.heap.size := kpD.size
        have hbc : b < wc.heap.size := lt_of_block HSH.out.fs
        have HbD := Lib.hid hbD
        have HgD := Lib.hid hgD
        have HvD := Lib.hid hvD
        have HuD := Lib.hid huD
        have HmapD := Lib.hid hmapD
        have HwD := Lib.hid hwD
        have HoldD := Lib.hid holdD
        have HmpD := Lib.hid hmpD
        have HusD := Lib.hid husD
        clear hbD hst hFD hgD hvD huD kpD hmapD hwD holdD hmpD husD hubase hsbg
        go_wp2_with fail
        refine (look_any b g sD tape (tot L k') _ 1 v 0 0 false (cat X k') wd HbD.out tape_nam (by rw [HmpD.out]; exact HmapD.out) (by rw [HmpD.out]; exact hne1) (tape_at g) HgD.out (by omega) HvD.out hvb (by have := Hle.out; omega)).mono ?_
        rintro e we ⟨u2, rfl, hbE, hu2, kpE⟩
        have hwE := ownsRow_keeps HwD.out kpE (fun j hj => by have h6 := (HwD.out.lt j hj).1; simp; omega)
        have huE := ownsRow_keeps HuD.out kpE (fun j hj => by have h6 := (HuD.out.lt j hj).1; simp; omega)
        have HbE := Lib.hid hbE
        have Hu2 := Lib.hid hu2
        have HwE := Lib.hid hwE
        have HuE := Lib.hid huE
        have KpE := Lib.hid kpE
        clear hbE hu2 hwE huE kpE
        go_wp2_with fail
        refine (same_ok _ _ (cat X k') we (bytes_row HuE.out) (bytes_row HwE.out)).mono ?_
        rintro e w' ⟨rfl, rfl⟩
        go_wp2_with fail
        refine (same_ok _ _ (cat X k') we Hu2.out (bytes_row HwE.out)).mono ?_
        rintro e w' ⟨rfl, rfl⟩
        go_wp2_with fail
        refine (stats_ok b sD we HbE.out).mono ?_
        rintro e wf ⟨rfl, hbF, kpF⟩
        have hx := Hoe.out
        have hfl := used_field sD wf
        rw [HusD.out] at hfl
        clear hbF
        have KpF := Lib.hid kpF
        clear kpF
        go_wp2_with fail
        go_ret
        refine ⟨rfl, ?_⟩
        · exact ((HoldD.out.mono (T := [b]) (by simp)).trans KpE.out |>.trans KpF.out).drop (fun j hj => .inr (by have h6 := HIN0.out.wB.1; simp at hj; omega))

set_option maxRecDepth 100000 in
set_option maxHeartbeats 3200000 in
theorem tape_none (pa : Option Addr) (C sb so sn sc : Nat) (half most : Int) (z : Nat → Int) (w : World)
    (hs : ∀ j, j < sn → w.cell? ⟨sb, so + j, none⟩ = some (.int .i64 (z j))) (hsn : sn ≤ 4611686018427387904) :
    Calls Try.prog 3 #[.slice pa 0 C, .int .i64 half, .slice (some ⟨sb, so, none⟩) sn sc, .int .i64 most] w fun e w' => e = .returned (.bool true) ∧ Keeps [] w w' := by
  have Hs := Lib.hid hs
  clear hs
  go_enter Try.func3, Try.ntmps3
  go_wp2_with fail
  refine (fits_nil pa C w).mono ?_
  rintro e w' ⟨rfl, rfl⟩
  by_cases hm : most < 1
  · have t1 : decide (most < 1) = true := by rw [decide_eq_true_iff]; omega
    go_wp2_with fail
    go_ret
    exact ⟨rfl, Keeps.refl _ _⟩
  by_cases hsn : 64 < sn
  · have t1 : decide (most < 1) = false := by rw [decide_eq_false_iff_not]; omega
    go_wp2_with fail
    go_ret
    exact ⟨rfl, Keeps.refl _ _⟩
  have t1 : decide (most < 1) = false := by rw [decide_eq_false_iff_not]; omega
  have t0 : decide (64 < (sn : Int)) = false := by rw [decide_eq_false_iff_not]; omega
  go_wp2_with fail
  go_loop [9] (fun i => ∃ k : Nat, k ≤ sn ∧ i = .int .i64 k ∧ ∀ j, j < k → 1 ≤ z j) (fun i => sn - (intOf i).toNat)
  case atStart => exact ⟨0, Nat.zero_le _, rfl, fun j hj => by omega⟩
  case round =>
    obtain ⟨k, hk, rfl, hz⟩ := hrel
    have Hz := Lib.hid hz
    clear hz
    by_cases hlt : k < sn
    · have hc := Hs.out k hlt
      by_cases hzk : z k < 1
      · have t2 : decide (z k < 1) = true := by rw [decide_eq_true_iff]; omega
        go_wp2_with fail
        go_ret
        exact ⟨rfl, Keeps.refl _ _⟩
      · have t2 : decide (z k < 1) = false := by rw [decide_eq_false_iff_not]; omega
        go_wp2_with fail
        go_round
        case rel => exact ⟨k + 1, by omega, by go_num, fun j hj => by
          rcases Nat.lt_or_ge j k with h | h
          · exact Hz.out j h
          · have : j = k := by omega
            rw [this]; omega⟩
        case measure => simp [intOf]; omega
    · have hks : k = sn := by omega
      have hz1 : ∀ j, j < sn → 1 ≤ z j := fun j hj => Hz.out j (by omega)
      have hok : ShortOk w (.slice (some ⟨sb, so, none⟩) sn sc) := by
        rcases Nat.eq_zero_or_pos sn with h | h
        · exact .inl ⟨_, _, by rw [h]⟩
        · exact .inr ⟨sb, so, sn, sc, z, rfl, h, by omega, fun j hj => ⟨Hs.out j hj, hz1 j hj⟩⟩
      have Hok := Lib.hid hok
      clear hks hz1 hok Hz
      go_wp2_with fail
      refine (wide_ok 0 _ w Hok.out (by omega)).mono ?_
      rintro e w1 ⟨b, mp, sh', d, rfl, hb1, hm1, hs1, hne1, hwb, hwm, kp1⟩
      clear Hok
      have hF1 : Fine (newFS 67108864 1024 256 0 sh' d mp) 0 := ⟨rfl, rfl, rfl, rfl, by simp [newFS], by simp [newFS], fun k => by simp [newFS], fun k => by simp [newFS], by simp [newFS], by simp [newFS], by simp [newFS], rfl, rfl, rfl, by simp [newFS], by simp [newFS]⟩
      have hs1e : (newFS 67108864 1024 256 0 sh' d mp).mp = mp ∧ (newFS 67108864 1024 256 0 sh' d mp).used = 0 ∧ (newFS 67108864 1024 256 0 sh' d mp).written = 0 ∧ (newFS 67108864 1024 256 0 sh' d mp).sh = sh' ∧ (newFS 67108864 1024 256 0 sh' d mp).life = 0 ∧ (newFS 67108864 1024 256 0 sh' d mp).opn = 0 := ⟨rfl, rfl, rfl, rfl, rfl, rfl⟩
      generalize newFS 67108864 1024 256 0 sh' d mp = s0 at *
      have HF1 := Lib.hid hF1
      have Hs1e := Lib.hid hs1e
      have Hb1 := Lib.hid hb1
      have Hm1 := Lib.hid hm1
      have Hs1 := Lib.hid hs1
      have Kp1 := Lib.hid kp1
      clear hF1 hs1e hb1 hm1 hs1 kp1
      go_wp2_with fail
      refine (open_new b s0 0 _ tape w1 Hb1.out tape_nam (by rw [Hs1e.out.1]; exact Hm1.out) (by rw [Hs1e.out.1]; exact hne1) rfl (by have := HF1.out.mf; omega) (by have := HF1.out.mh; have := Hs1e.out.2.2.2.2.2; omega) rfl HF1.out.fa HF1.out.pi HF1.out.c0 (by have := HF1.out.c1; omega) (HF1.out.o0 0) (by have := HF1.out.o1 0; omega) (.inl HF1.out.pp) HF1.out.drk HF1.out.m0 (by have := HF1.out.m1; omega) (by omega) HF1.out.n0 (by have := HF1.out.mh; omega)).mono ?_
      rintro e w2 ⟨f, g, rfl, hb2, hg2, hf2, hm2, kp2, hg0, hf0, hfg⟩
      go_wp2_with fail
      refine (num_ok 0 w2).mono ?_
      rintro e w' ⟨rfl, rfl⟩
      go_wp2_with fail
      obtain ⟨s2, hs2e⟩ : ∃ s2, s2 = (s0.called 0 false).opened 1 := ⟨_, rfl⟩
      have hs2f : s2.used = s0.used ∧ s2.written = s0.written ∧ s2.mp = s0.mp ∧ s2.sh = s0.sh ∧ s2.life = s0.life ∧ s2.opn = s0.opn + 1 := by rw [hs2e]; exact ⟨rfl, rfl, rfl, rfl, rfl, rfl⟩
      have hF2 : Fine s2 2 := by
        have h1 := Fine.mono (HF1.out.called 0) (show (0 : Int) + 1 ≤ 2 by omega)
        have h2 := HF1.out
        rw [hs2e]
        exact ⟨h1.fa, h1.pi, h1.pp, h1.drk, h1.c0, h1.c1, h1.o0, h1.o1, by have := h2.m0; show 0 ≤ s0.made + 1; omega, by have := h2.m1; show s0.made + 1 ≤ 2; omega, by have := h2.n0; show 0 ≤ s0.opn + 1; omega, h1.mh, h1.mb, h1.mf, h1.w0, h1.w1⟩
      rw [← hs2e] at hb2
      have he := Hs1e.out
      have hlb : b < w1.heap.size := lt_of_block Hb1.out
      have hlm : mp < w1.heap.size := Hm1.out.lt
      have hkp2 : Keeps [b, mp] w1 w2 := by rw [← he.1]; exact kp2
      have hold : Keeps [] w w2 := ((Kp1.out.mono (by simp)).trans hkp2).drop (fun k hk => .inr (by simp at hk; omega))
      have hin : TapeIn w w1.heap.size b mp g sh' (fun _ => []) (fun _ => 0) 2 0 0 f (.slice none 0 0) (.slice none 0 0) s2 w2 :=
        { fs := hb2, fine := by simpa using hF2, used := by rw [hs2f.1, he.2.1]; rfl, written := by rw [hs2f.2.1, he.2.2.1]; rfl, mpe := by rw [hs2f.2.2.1, he.1], she := by rw [hs2f.2.2.2.1, he.2.2.2.1], life := by rw [hs2f.2.2.2.2.1, he.2.2.2.2.1], opn := by rw [hs2f.2.2.2.2.2, he.2.2.2.2.2]; rfl, file := (by rw [he.2.2.2.2.1] at hf2; exact hf2), body := hg2, rowV := World.ownsRow_nil _ _ _ _, rowW := World.ownsRow_nil _ _ _ _, hB := hkp2.size, bB := hlb, mB := hlm, fB := hf0, gB := hg0, fg := hfg, vg := (by simp [Value.ownBlock]), vf := (by simp [Value.ownBlock]), wg := (by simp [Value.ownBlock]), wf := (by simp [Value.ownBlock]), vw := (fun j hj => by simp [Value.ownBlock] at hj), map := (by rw [← he.1]; exact hm2), short := Hs1.out.keeps hkp2 (Hs1.out.apart Hm1.out), shB := Hs1.out.lt, wB := ⟨hwb, hwm⟩, bm := hne1, old := hold }
      have Hin := Lib.hid hin
      clear hin hold hkp2 he hs2f hF2 hb2 hg2 hf2 hm2 kp2 hg0 hf0 hfg hs2e HF1 Hs1e Hb1 Hm1 Hs1 Kp1
      generalize w1.heap.size = B at *
      have Hl := Lib.hid hlb
      clear hlb hlm
      have HIN0 := Hin
      clear Hin
      refine wp_loop_rounds 1 ?_; rw [rounds_succ]
      go_wp2_with fail
      refine (tape_close HIN0.out (by omega)).mono ?_
      rintro e wc ⟨sC, rfl, hshut⟩
      have HSH := Lib.hid hshut
      clear hshut
      go_wp2_with fail
      refine (num_ok 0 wc).mono ?_
      rintro e w' ⟨rfl, rfl⟩
      have hgB := HSH.out.gB
      have hbB := HSH.out.bB
      have hsbg : ∀ so sb sn sc, sC.sh = .slice (some ⟨sb, so, none⟩) sn sc → 0 < sn → sb ≠ g := fun so sb sn sc e h0 => by have := HSH.out.shB so sb sn sc (by rw [← HSH.out.she]; exact e) h0; omega
      have hvb : (Value.slice none 0 0).ownBlock ≠ some b := fun e => by have := (HSH.out.rowV.lt _ e).1; omega
      have hle : tot (fun _ => 0) 0 ≤ 1048576 := Nat.zero_le _
      have Hle := Lib.hid hle
      clear hle
      go_wp2_with fail
      refine (all_ok b g sC (2 + 1 + 4 * ((0 : Nat) : Int)) 1 _ tape (.slice none 0 0) (tot (fun _ => 0) 0) 0 (cat (fun _ => []) 0) most wc HSH.out.fs HSH.out.fine (by omega) HSH.out.opn tape_nam (by rw [HSH.out.mpe]; exact HSH.out.map) (by rw [HSH.out.mpe]; exact hne1) (tape_at g) HSH.out.body (row_up HSH.out.rowV (Nat.zero_le _)) Hle.out (by omega) (by rw [HSH.out.she]; exact HSH.out.short) (by omega) hvb HSH.out.vg (by rw [HSH.out.mpe]; have := HSH.out.mB; omega) hsbg).mono ?_
      rintro e wd ⟨u, sD, rfl, hbD, hst, hFD, hgD, hvD, huD, kpD⟩
      have hmapD := ownsMap_keeps HSH.out.map kpD (by have := HSH.out.mB; simp; omega)
      have hwD := ownsRow_keeps HSH.out.rowW kpD (fun j hj => by have h6 := (HSH.out.rowW.lt j hj).1; simp; exact ⟨by omega, fun e => HSH.out.wg (e ▸ hj)⟩)
      have holdD : Keeps [] w wd := ((HSH.out.old.mono (by simp)).trans kpD).drop (fun j hj => .inr (by have h6 := HSH.out.wB.1; simp at hj; omega))
      have hmpD : sD.mp = mp := hst.mp.trans HSH.out.mpe
      have husD : sD.used = (tot (fun _ => 0) 0 : Nat) := hst.used.trans HSH.out.used
      have hubase := huD
      have hcu : wc.heap.size ≤ wd.heap.size := kpD.size
      have hbc : b < wc.heap.size := lt_of_block HSH.out.fs
      have HbD := Lib.hid hbD
      have HgD := Lib.hid hgD
      have HvD := Lib.hid hvD
      have HuD := Lib.hid huD
      have HmapD := Lib.hid hmapD
      have HwD := Lib.hid hwD
      have HoldD := Lib.hid holdD
      have HmpD := Lib.hid hmpD
      have HusD := Lib.hid husD
      clear hbD hst hFD hgD hvD huD kpD hmapD hwD holdD hmpD husD hubase hsbg
      go_wp2_with fail
      refine (look_any b g sD tape (tot (fun _ => 0) 0) _ 1 (.slice none 0 0) 0 0 false (cat (fun _ => []) 0) wd HbD.out tape_nam (by rw [HmpD.out]; exact HmapD.out) (by rw [HmpD.out]; exact hne1) (tape_at g) HgD.out (by omega) HvD.out hvb (by have := Hle.out; omega)).mono ?_
      rintro e we ⟨u2, rfl, hbE, hu2, kpE⟩
      have hwE := ownsRow_keeps HwD.out kpE (fun j hj => by have h6 := (HwD.out.lt j hj).1; simp; omega)
      have huE := ownsRow_keeps HuD.out kpE (fun j hj => by have h6 := (HuD.out.lt j hj).1; simp; omega)
      have HbE := Lib.hid hbE
      have Hu2 := Lib.hid hu2
      have HwE := Lib.hid hwE
      have HuE := Lib.hid huE
      have KpE := Lib.hid kpE
      clear hbE hu2 hwE huE kpE
      go_wp2_with fail
      refine (same_ok _ _ (cat (fun _ => []) 0) we (bytes_row HuE.out) (bytes_row HwE.out)).mono ?_
      rintro e w' ⟨rfl, rfl⟩
      go_wp2_with fail
      refine (same_ok _ _ (cat (fun _ => []) 0) we Hu2.out (bytes_row HwE.out)).mono ?_
      rintro e w' ⟨rfl, rfl⟩
      go_wp2_with fail
      refine (stats_ok b sD we HbE.out).mono ?_
      rintro e wf ⟨rfl, hbF, kpF⟩
      have hfl := used_field sD wf
      rw [HusD.out] at hfl
      clear hbF
      have KpF := Lib.hid kpF
      clear kpF
      go_wp2_with fail
      go_ret
      refine ⟨rfl, ?_⟩
      · exact ((HoldD.out.mono (T := [b]) (by simp)).trans KpE.out |>.trans KpF.out).drop (fun j hj => .inr (by have h6 := HIN0.out.wB.1; simp at hj; omega))

set_option maxRecDepth 100000 in
set_option maxHeartbeats 3200000 in
theorem tape_none_nil (pa : Option Addr) (C sc : Nat) (sa : Option Addr) (half most : Int) (w : World) :
    Calls Try.prog 3 #[.slice pa 0 C, .int .i64 half, .slice sa 0 sc, .int .i64 most] w fun e w' => e = .returned (.bool true) ∧ Keeps [] w w' := by
  go_enter Try.func3, Try.ntmps3
  go_wp2_with fail
  refine (fits_nil pa C w).mono ?_
  rintro e w' ⟨rfl, rfl⟩
  by_cases hm : most < 1
  · have t1 : decide (most < 1) = true := by rw [decide_eq_true_iff]; omega
    go_wp2_with fail
    go_ret
    exact ⟨rfl, Keeps.refl _ _⟩
  have t1 : decide (most < 1) = false := by rw [decide_eq_false_iff_not]; omega
  go_wp2_with fail
  refine wp_loop_rounds 1 ?_; rw [rounds_succ]
  have hok : ShortOk w (.slice sa 0 sc) := .inl ⟨_, _, rfl⟩
  have Hok := Lib.hid hok
  clear hok
  go_wp2_with fail
  refine (wide_ok 0 _ w Hok.out (by omega)).mono ?_
  rintro e w1 ⟨b, mp, sh', d, rfl, hb1, hm1, hs1, hne1, hwb, hwm, kp1⟩
  clear Hok
  have hF1 : Fine (newFS 67108864 1024 256 0 sh' d mp) 0 := ⟨rfl, rfl, rfl, rfl, by simp [newFS], by simp [newFS], fun k => by simp [newFS], fun k => by simp [newFS], by simp [newFS], by simp [newFS], by simp [newFS], rfl, rfl, rfl, by simp [newFS], by simp [newFS]⟩
  have hs1e : (newFS 67108864 1024 256 0 sh' d mp).mp = mp ∧ (newFS 67108864 1024 256 0 sh' d mp).used = 0 ∧ (newFS 67108864 1024 256 0 sh' d mp).written = 0 ∧ (newFS 67108864 1024 256 0 sh' d mp).sh = sh' ∧ (newFS 67108864 1024 256 0 sh' d mp).life = 0 ∧ (newFS 67108864 1024 256 0 sh' d mp).opn = 0 := ⟨rfl, rfl, rfl, rfl, rfl, rfl⟩
  generalize newFS 67108864 1024 256 0 sh' d mp = s0 at *
  have HF1 := Lib.hid hF1
  have Hs1e := Lib.hid hs1e
  have Hb1 := Lib.hid hb1
  have Hm1 := Lib.hid hm1
  have Hs1 := Lib.hid hs1
  have Kp1 := Lib.hid kp1
  clear hF1 hs1e hb1 hm1 hs1 kp1
  go_wp2_with fail
  refine (open_new b s0 0 _ tape w1 Hb1.out tape_nam (by rw [Hs1e.out.1]; exact Hm1.out) (by rw [Hs1e.out.1]; exact hne1) rfl (by have := HF1.out.mf; omega) (by have := HF1.out.mh; have := Hs1e.out.2.2.2.2.2; omega) rfl HF1.out.fa HF1.out.pi HF1.out.c0 (by have := HF1.out.c1; omega) (HF1.out.o0 0) (by have := HF1.out.o1 0; omega) (.inl HF1.out.pp) HF1.out.drk HF1.out.m0 (by have := HF1.out.m1; omega) (by omega) HF1.out.n0 (by have := HF1.out.mh; omega)).mono ?_
  rintro e w2 ⟨f, g, rfl, hb2, hg2, hf2, hm2, kp2, hg0, hf0, hfg⟩
  go_wp2_with fail
  refine (num_ok 0 w2).mono ?_
  rintro e w' ⟨rfl, rfl⟩
  go_wp2_with fail
  obtain ⟨s2, hs2e⟩ : ∃ s2, s2 = (s0.called 0 false).opened 1 := ⟨_, rfl⟩
  have hs2f : s2.used = s0.used ∧ s2.written = s0.written ∧ s2.mp = s0.mp ∧ s2.sh = s0.sh ∧ s2.life = s0.life ∧ s2.opn = s0.opn + 1 := by rw [hs2e]; exact ⟨rfl, rfl, rfl, rfl, rfl, rfl⟩
  have hF2 : Fine s2 2 := by
    have h1 := Fine.mono (HF1.out.called 0) (show (0 : Int) + 1 ≤ 2 by omega)
    have h2 := HF1.out
    rw [hs2e]
    exact ⟨h1.fa, h1.pi, h1.pp, h1.drk, h1.c0, h1.c1, h1.o0, h1.o1, by have := h2.m0; show 0 ≤ s0.made + 1; omega, by have := h2.m1; show s0.made + 1 ≤ 2; omega, by have := h2.n0; show 0 ≤ s0.opn + 1; omega, h1.mh, h1.mb, h1.mf, h1.w0, h1.w1⟩
  rw [← hs2e] at hb2
  have he := Hs1e.out
  have hlb : b < w1.heap.size := lt_of_block Hb1.out
  have hlm : mp < w1.heap.size := Hm1.out.lt
  have hkp2 : Keeps [b, mp] w1 w2 := by rw [← he.1]; exact kp2
  have hold : Keeps [] w w2 := ((Kp1.out.mono (by simp)).trans hkp2).drop (fun k hk => .inr (by simp at hk; omega))
  have hin : TapeIn w w1.heap.size b mp g sh' (fun _ => []) (fun _ => 0) 2 0 0 f (.slice none 0 0) (.slice none 0 0) s2 w2 :=
    { fs := hb2, fine := by simpa using hF2, used := by rw [hs2f.1, he.2.1]; rfl, written := by rw [hs2f.2.1, he.2.2.1]; rfl, mpe := by rw [hs2f.2.2.1, he.1], she := by rw [hs2f.2.2.2.1, he.2.2.2.1], life := by rw [hs2f.2.2.2.2.1, he.2.2.2.2.1], opn := by rw [hs2f.2.2.2.2.2, he.2.2.2.2.2]; rfl, file := (by rw [he.2.2.2.2.1] at hf2; exact hf2), body := hg2, rowV := World.ownsRow_nil _ _ _ _, rowW := World.ownsRow_nil _ _ _ _, hB := hkp2.size, bB := hlb, mB := hlm, fB := hf0, gB := hg0, fg := hfg, vg := (by simp [Value.ownBlock]), vf := (by simp [Value.ownBlock]), wg := (by simp [Value.ownBlock]), wf := (by simp [Value.ownBlock]), vw := (fun j hj => by simp [Value.ownBlock] at hj), map := (by rw [← he.1]; exact hm2), short := Hs1.out.keeps hkp2 (Hs1.out.apart Hm1.out), shB := Hs1.out.lt, wB := ⟨hwb, hwm⟩, bm := hne1, old := hold }
  have Hin := Lib.hid hin
  clear hin hold hkp2 he hs2f hF2 hb2 hg2 hf2 hm2 kp2 hg0 hf0 hfg hs2e HF1 Hs1e Hb1 Hm1 Hs1 Kp1
  generalize w1.heap.size = B at *
  have Hl := Lib.hid hlb
  clear hlb hlm
  have HIN0 := Hin
  clear Hin
  refine wp_loop_rounds 1 ?_; rw [rounds_succ]
  go_wp2_with fail
  refine (tape_close HIN0.out (by omega)).mono ?_
  rintro e wc ⟨sC, rfl, hshut⟩
  have HSH := Lib.hid hshut
  clear hshut
  go_wp2_with fail
  refine (num_ok 0 wc).mono ?_
  rintro e w' ⟨rfl, rfl⟩
  have hgB := HSH.out.gB
  have hbB := HSH.out.bB
  have hsbg : ∀ so sb sn sc, sC.sh = .slice (some ⟨sb, so, none⟩) sn sc → 0 < sn → sb ≠ g := fun so sb sn sc e h0 => by have := HSH.out.shB so sb sn sc (by rw [← HSH.out.she]; exact e) h0; omega
  have hvb : (Value.slice none 0 0).ownBlock ≠ some b := fun e => by have := (HSH.out.rowV.lt _ e).1; omega
  have hle : tot (fun _ => 0) 0 ≤ 1048576 := Nat.zero_le _
  have Hle := Lib.hid hle
  clear hle
  go_wp2_with fail
  refine (all_ok b g sC (2 + 1 + 4 * ((0 : Nat) : Int)) 1 _ tape (.slice none 0 0) (tot (fun _ => 0) 0) 0 (cat (fun _ => []) 0) most wc HSH.out.fs HSH.out.fine (by omega) HSH.out.opn tape_nam (by rw [HSH.out.mpe]; exact HSH.out.map) (by rw [HSH.out.mpe]; exact hne1) (tape_at g) HSH.out.body (row_up HSH.out.rowV (Nat.zero_le _)) Hle.out (by omega) (by rw [HSH.out.she]; exact HSH.out.short) (by omega) hvb HSH.out.vg (by rw [HSH.out.mpe]; have := HSH.out.mB; omega) hsbg).mono ?_
  rintro e wd ⟨u, sD, rfl, hbD, hst, hFD, hgD, hvD, huD, kpD⟩
  have hmapD := ownsMap_keeps HSH.out.map kpD (by have := HSH.out.mB; simp; omega)
  have hwD := ownsRow_keeps HSH.out.rowW kpD (fun j hj => by have h6 := (HSH.out.rowW.lt j hj).1; simp; exact ⟨by omega, fun e => HSH.out.wg (e ▸ hj)⟩)
  have holdD : Keeps [] w wd := ((HSH.out.old.mono (by simp)).trans kpD).drop (fun j hj => .inr (by have h6 := HSH.out.wB.1; simp at hj; omega))
  have hmpD : sD.mp = mp := hst.mp.trans HSH.out.mpe
  have husD : sD.used = (tot (fun _ => 0) 0 : Nat) := hst.used.trans HSH.out.used
  have hubase := huD
  have hcu : wc.heap.size ≤ wd.heap.size := kpD.size
  have hbc : b < wc.heap.size := lt_of_block HSH.out.fs
  have HbD := Lib.hid hbD
  have HgD := Lib.hid hgD
  have HvD := Lib.hid hvD
  have HuD := Lib.hid huD
  have HmapD := Lib.hid hmapD
  have HwD := Lib.hid hwD
  have HoldD := Lib.hid holdD
  have HmpD := Lib.hid hmpD
  have HusD := Lib.hid husD
  clear hbD hst hFD hgD hvD huD kpD hmapD hwD holdD hmpD husD hubase hsbg
  go_wp2_with fail
  refine (look_any b g sD tape (tot (fun _ => 0) 0) _ 1 (.slice none 0 0) 0 0 false (cat (fun _ => []) 0) wd HbD.out tape_nam (by rw [HmpD.out]; exact HmapD.out) (by rw [HmpD.out]; exact hne1) (tape_at g) HgD.out (by omega) HvD.out hvb (by have := Hle.out; omega)).mono ?_
  rintro e we ⟨u2, rfl, hbE, hu2, kpE⟩
  have hwE := ownsRow_keeps HwD.out kpE (fun j hj => by have h6 := (HwD.out.lt j hj).1; simp; omega)
  have huE := ownsRow_keeps HuD.out kpE (fun j hj => by have h6 := (HuD.out.lt j hj).1; simp; omega)
  have HbE := Lib.hid hbE
  have Hu2 := Lib.hid hu2
  have HwE := Lib.hid hwE
  have HuE := Lib.hid huE
  have KpE := Lib.hid kpE
  clear hbE hu2 hwE huE kpE
  go_wp2_with fail
  refine (same_ok _ _ (cat (fun _ => []) 0) we (bytes_row HuE.out) (bytes_row HwE.out)).mono ?_
  rintro e w' ⟨rfl, rfl⟩
  go_wp2_with fail
  refine (same_ok _ _ (cat (fun _ => []) 0) we Hu2.out (bytes_row HwE.out)).mono ?_
  rintro e w' ⟨rfl, rfl⟩
  go_wp2_with fail
  refine (stats_ok b sD we HbE.out).mono ?_
  rintro e wf ⟨rfl, hbF, kpF⟩
  have hfl := used_field sD wf
  rw [HusD.out] at hfl
  clear hbF
  have KpF := Lib.hid kpF
  clear kpF
  go_wp2_with fail
  go_ret
  refine ⟨rfl, ?_⟩
  · exact ((HoldD.out.mono (T := [b]) (by simp)).trans KpE.out |>.trans KpF.out).drop (fun j hj => .inr (by have h6 := HIN0.out.wB.1; simp at hj; omega))
end Go.Proofs.Ytfplfnhhiipgcaa
