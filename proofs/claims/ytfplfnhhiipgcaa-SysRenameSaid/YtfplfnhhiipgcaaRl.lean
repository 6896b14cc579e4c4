/- SysRename: the walk. -/
import Derived.Test.YtfplfnhhiipgcaaRn
import Derived.Deep.DeepCutAuto
namespace Go.Proofs.Ytfplfnhhiipgcaa
open Go.RowKit Go.Maps Go.MuLone

theorem leftNew_slice {w2 wr : World} {b mp n : Nat} {xs : List Int} {want : Value} (h : LeftNew w2 b mp xs n want wr) : ∃ wa wn, want = .slice wa n wn := by
  obtain ⟨_, _, _, _, _, _, _, _, _, _, _, _, _, hw, _⟩ := h
  exact ownsRow_slice hw

/-- The state of the loop, round by round. -/
def RenRel (w w2 : World) (B b mp g hh f m : Nat) (X : Nat → List Int) (L : Nat → Nat) (N : Nat) (cut : Int) (want good i : Value) (wr : World) : Prop :=
  ∃ (k kv : Nat) (d : Bool) (v : Value) (s : FSt), k ≤ N ∧ kv ≤ k ∧ (d = false → kv = k) ∧ i = .int .i64 k ∧ good = .bool (!d) ∧ RenIn w w2 B b mp g hh f m X L cut kv k k d 0 1 true false v want s wr

set_option maxRecDepth 100000 in
set_option maxHeartbeats 3200000 in
theorem ren_some (oa : Option Addr) (m c : Nat) (zs : List Int) (pb po N C : Nat) (A : Nat → Option Addr) (L Cc : Nat → Nat) (X : Nat → List Int) (cut keep : Int) (w : World) (ho : PieceAt w oa m c zs) (hN : N ≤ 5864062014805) (hp : ∀ i, i < N → w.cell? ⟨pb, po + i, none⟩ = some (.slice (A i) (L i) (Cc i)) ∧ PieceAt w (A i) (L i) (Cc i) (X i)) (hkeep : keep ≤ 9223372036854775807) :
    Calls Try.prog 4 #[.slice oa m c, .slice (some ⟨pb, po, none⟩) N C, .int .i64 cut, .int .i64 keep] w fun e w' => e = .returned (.bool true) ∧ Keeps [] w w' := by
  have Ho := Lib.hid ho
  clear ho
  have Hp := Lib.hid hp
  clear hp
  go_enter Try.func4, Try.ntmps4
  go_wp2_with fail
  refine (fits_ok pb po N C A L Cc w (by omega) (fun i hi => ⟨(Hp.out i hi).1, by have h := (Hp.out i hi).2.1; have h2 := (Hp.out i hi).2.2.1; omega⟩)).mono ?_
  rintro e w' ⟨t, rfl, ht, rfl⟩
  cases t with
  | false =>
    clear ht
    go_wp2_with fail
    go_ret
    exact ⟨rfl, Keeps.refl _ _⟩
  | true =>
  have htot := ht rfl
  have Htot := Lib.hid htot
  clear ht htot
  by_cases h1 : 1048576 < m
  · have t1 : decide (1048576 < (m : Int)) = true := by rw [decide_eq_true_iff]; omega
    go_wp2_with fail
    go_ret
    exact ⟨rfl, Keeps.refl _ _⟩
  have t1 : decide (1048576 < (m : Int)) = false := by rw [decide_eq_false_iff_not]; omega
  by_cases h2 : cut < 0
  · have t2 : decide (cut < 0) = true := by rw [decide_eq_true_iff]; omega
    go_wp2_with fail
    go_ret
    exact ⟨rfl, Keeps.refl _ _⟩
  have t2 : decide (cut < 0) = false := by rw [decide_eq_false_iff_not]; omega
  by_cases h3 : keep < 0
  · have t3 : decide (keep < 0) = true := by rw [decide_eq_true_iff]; omega
    go_wp2_with fail
    go_ret
    exact ⟨rfl, Keeps.refl _ _⟩
  have t3 : decide (keep < 0) = false := by rw [decide_eq_false_iff_not]; omega
  go_wp2_with fail
  refine (wide_ok cut (.slice none 0 0) w (.inl ⟨none, 0, rfl⟩) (by omega)).mono ?_
  rintro e w1 ⟨b, mp, sh', d, rfl, hb1, hm1, hs1, hne1, hwb, hwm, kp1⟩
  clear hs1 t1 t2 t3
  have Hb1 := Lib.hid hb1
  have Hm1 := Lib.hid hm1
  have Kp1 := Lib.hid kp1
  clear hb1 hm1 kp1
  go_wp2_with fail
  refine (put_any b (newFS 67108864 1024 256 cut sh' d mp) 0 _ target oa m c zs w w1 Hb1.out target_nam Hm1.out hne1 rfl (by simp [newFS]) rfl (by omega) Ho.out Kp1.out hwb (by simp [newFS]; omega) (by simp [newFS]) (by simp [newFS])).mono ?_
  rintro e w2 ⟨g, v, rfl, hb2, hg2, hrow2, hm2, kp2, hgw, hvg⟩
  have hbl : b < w1.heap.size := lt_of_block Hb1.out
  have hml : mp < w1.heap.size := Hm1.out.lt
  have hgl : g < w2.heap.size := lt_of_block hg2
  obtain ⟨s2, hs2e⟩ : ∃ s2, s2 = (newFS 67108864 1024 256 cut sh' d mp).grown m := ⟨_, rfl⟩
  rw [← hs2e] at hb2
  have hmpe : (newFS 67108864 1024 256 cut sh' d mp).mp = mp := rfl
  rw [hmpe] at hm2 kp2
  have hne2 : s2.mp = mp := by rw [hs2e]; rfl
  have hC2 : Calm s2 cut mp 0 ∧ s2.used = m ∧ s2.opn = 0 ∧ s2.made = 0 ∧ s2.written = 0 ∧ s2.drk = false ∧ s2.calls = 0 ∧ s2.mf = 1024 ∧ s2.mh = 256 := by
    rw [hs2e]
    exact ⟨⟨rfl, rfl, rfl, rfl, rfl, by simp [newFS, FSt.grown], by simp [newFS, FSt.grown], fun k => by simp [newFS, FSt.grown], fun k => by simp [newFS, FSt.grown], rfl⟩, by simp [newFS, FSt.grown], rfl, rfl, rfl, rfl, rfl, rfl, rfl⟩
  have hk2 : Keeps [] w w2 := ((Kp1.out.mono (by simp)).trans kp2).drop (fun k hk => .inr (by simp at hk; omega))
  have hsz : w1.heap.size ≤ w2.heap.size := kp2.size
  have hw1s : w.heap.size ≤ w1.heap.size := Kp1.out.size
  obtain ⟨ao, cp, rfl⟩ := ownsRow_slice hrow2
  have hmT : ∀ j, (Value.slice ao m cp).ownBlock = some j → j ≠ b ∧ j ≠ mp := fun j hj => by have := (hrow2.lt j hj).1; omega
  clear hs2e hmpe
  have Hb2 := Lib.hid hb2
  have Hg2 := Lib.hid hg2
  have Hrow2 := Lib.hid hrow2
  have Hm2 := Lib.hid hm2
  have HC2 := Lib.hid hC2
  have Hne2 := Lib.hid hne2
  have Hk2 := Lib.hid hk2
  have HmT := Lib.hid hmT
  clear hb2 hg2 hrow2 hm2 kp2 hC2 hne2 hk2 hmT Hb1 Hm1 Kp1
  go_wp2_with fail
  refine (num_ok 0 w2).mono ?_
  rintro e w' ⟨rfl, rfl⟩
  go_wp2_with fail
  by_cases hcut : cut = 1
  · refine (open_dark b s2 fresh 3 w2 Hb2.out HC2.out.1.pi HC2.out.1.c0 (by have := HC2.out.1.c1; omega) (HC2.out.1.o0 0) (by have := HC2.out.1.o1 0; omega) (by rw [HC2.out.1.pp]; omega) (by rw [HC2.out.1.pp, HC2.out.2.2.2.2.2.2.1]; omega)).mono ?_
    rintro e w3 ⟨rfl, hb3, kp3⟩
    have hleft : LeftOld w2 b mp g w3 := ⟨_, hb3, HC2.out.1.life, HC2.out.1.mpe, kp3.mono (by simp), .inl (ownsMap_bound (ownsMap_keeps Hm2.out kp3 (by simpa using hne1)) (by show Maps.size ((DataW.map []).put (key target) (ptrD g)) ≤ 1; rw [files_one]; simp [Maps.size]))⟩
    have hk3 : Keeps [] w w3 := ((Hk2.out.mono (by simp)).trans kp3).drop (fun k hk => .inr (by simp at hk; omega))
    have Hleft := Lib.hid hleft
    have Hk3 := Lib.hid hk3
    have t4 : (cut == 0) = false := by rw [beq_eq_false_iff_ne]; omega
    have Hcut := Lib.hid hcut
    clear hb3 kp3 hleft hk3 hcut
    go_wp2_with fail
    refine (num_ok 4 w3).mono ?_
    rintro e w' ⟨rfl, rfl⟩
    go_wp2_with fail
    refine (ren_reboot_old keep Hleft.out Hk3.out Hg2.out Hrow2.out (by omega) (by omega) (by omega) (by omega) hne1 hwb (by omega) (by omega) HmT.out (by omega) hkeep).mono ?_
    rintro e w4 ⟨s4, k4, D4, h4, v4, sy4, rfl, hb4, hs4, hm4, hat4, hg4, hne4, hr4, hvb4, hn4, hk4⟩
    have Hk4 := Lib.hid hk4
    have Hb4 := Lib.hid hb4
    have Hm4 := Lib.hid hm4
    have Hat4 := Lib.hid hat4
    have Hg4 := Lib.hid hg4
    have Hr4 := Lib.hid hr4
    have Hs4 := Lib.hid hs4
    clear hk4 hb4 hm4 hat4 hg4 hr4 hs4
    go_wp2_with fail
    refine (num_ok 0 w4).mono ?_
    rintro e w' ⟨rfl, rfl⟩
    go_wp2_with fail
    refine (look_any b h4 s4 target m D4 k4 v4 sy4 0 false zs w4 Hb4.out target_nam (by rw [Hs4.out]; exact Hm4.out) (by rw [Hs4.out]; exact hne1) Hat4.out Hg4.out hne4 Hr4.out hvb4 hn4).mono ?_
    rintro e w5 ⟨u, rfl, hb5, hu5, kp5⟩
    have hk5 : Keeps [] w w5 := ((Hk4.out.mono (by simp)).trans kp5).drop (fun k hk => .inr (by simp at hk; omega))
    have Hu5 := Lib.hid hu5
    have Hk5 := Lib.hid hk5
    clear hb5 hu5 kp5 hk5
    go_wp2_with fail
    refine (same_ok u _ zs w5 Hu5.out (bytes_piece Ho.out Hk5.out)).mono ?_
    rintro e w' ⟨rfl, rfl⟩
    go_wp2_with fail
    go_ret
    exact ⟨rfl, Hk5.out⟩
  have Hcut := Lib.hid hcut
  clear hcut
  refine (open_trunc_new b s2 1 _ fresh w2 Hb2.out fresh_nam (by rw [Hne2.out]; exact Hm2.out) (by rw [Hne2.out]; exact hne1) rfl (by rw [HC2.out.2.2.2.2.2.2.2.1]; omega) (by rw [HC2.out.2.2.1, HC2.out.2.2.2.2.2.2.2.2]; omega) rfl HC2.out.1.fa HC2.out.1.pi HC2.out.1.c0 (by have := HC2.out.1.c1; omega) (HC2.out.1.o0 0) (by have := HC2.out.1.o1 0; omega) (by rw [HC2.out.1.pp, HC2.out.2.2.2.2.2.2.1]; have := Hcut.out; omega) HC2.out.2.2.2.2.2.1 (by rw [HC2.out.2.2.2.1]; omega) (by rw [HC2.out.2.2.2.1]; omega) (by omega) (by rw [HC2.out.2.2.1]; omega) (by rw [HC2.out.2.2.2.2.2.2.2.2]; omega) (by rw [HC2.out.2.1]; omega) (by rw [HC2.out.2.1]; omega)).mono ?_
  rintro e w3 ⟨f, hh, rfl, hb3, hbd3, hf3, hm3, kp3, hhB, hfB, hfh⟩
  rw [Hne2.out] at hm3 kp3
  have hin : RenIn w w2 w2.heap.size b mp g hh f m X L cut 0 0 0 false 0 1 true false (.slice none 0 0) (.slice none 0 0) (((s2.called 0 false).grown 0).opened 1) w3 :=
    { fs := hb3, calm := (by have h8 := HC2.out.1.called 0 false; exact ⟨h8.fa, h8.pi, h8.pp, h8.mpe, h8.life, h8.c0, by have h9 := h8.c1; show (s2.called 0 false).calls ≤ 1 + ((0 : Nat) : Int); omega, h8.o0, fun k => by have h9 := h8.o1 k; show (s2.called 0 false).ops k ≤ 1 + ((0 : Nat) : Int); omega, h8.mb⟩), drk := rfl, dk := (fun e => by cases e), used := (by show s2.used + 0 = _; rw [HC2.out.2.1]; simp [tot]), w0 := (by show 0 ≤ s2.written; rw [HC2.out.2.2.2.2.1]; omega), w1 := (by show s2.written ≤ _; rw [HC2.out.2.2.2.2.1]; simp), opn := (by show s2.opn + 1 = 1; rw [HC2.out.2.2.1]; rfl), file := (by rw [show s2.life = 0 from HC2.out.1.life] at hf3; exact hf3), body := hbd3, rowV := World.ownsRow_nil _ _ _ _, rowW := World.ownsRow_nil _ _ _ _, hB := kp3.size, bB := (by omega), mB := (by omega), gB := hgl, fB := hfB, hhB := hhB, fh := hfh, vh := (by simp [Value.ownBlock]), vf := (by simp [Value.ownBlock]), wh := (by simp [Value.ownBlock]), wf := (by simp [Value.ownBlock]), vw := (fun j hj => by simp [Value.ownBlock] at hj), map := (by rw [← files_two]; exact hm3), wB := ⟨hwb, hwm⟩, bm := hne1, B2 := rfl, old := ((Hk2.out.mono (by simp)).trans kp3).drop (fun k hk => .inr (by simp at hk; omega)), two := kp3 }
  have Hin := Lib.hid hin
  clear hin hb3 hbd3 hf3 hm3 kp3
  have hB2 : ∃ B, B = w2.heap.size := ⟨_, rfl⟩
  obtain ⟨B, hBe⟩ := hB2
  rw [← hBe] at Hin
  have HBe := Lib.hid hBe
  clear hBe
  go_wp2_with fail
  refine (num_ok 0 w3).mono ?_
  rintro e w' ⟨rfl, rfl⟩
  go_upto_if 55 with fail
  go_cut [10, 11] (fun want done wx => RenTail w w2 b mp g cut (cat X N) (tot L N) done want wx)
  case first =>
    go_wp2_with fail
    go_loopw [10, 14, 15] (fun want good i wr => RenRel w w2 B b mp g hh f m X L N cut want good i wr) (fun _ _ i _ => N - (intOf i).toNat)
    case atStart => exact ⟨0, 0, false, _, _, Nat.zero_le _, Nat.le_refl _, fun _ => rfl, rfl, rfl, Hin.out⟩
    case round =>
      obtain ⟨k, kv, d, v, s, hk, hkv, hdk, rfl, rfl, hin⟩ := hrel
      clear Hin
      have HI := Lib.hid hin
      have Hdk := Lib.hid hdk
      have hdk0 := hin.dk
      have Hdk0 := Lib.hid hdk0
      clear hin hdk hdk0
      have hle : tot L kv ≤ 1048576 := by have h8 := tot_le L (show kv ≤ N by omega); have h9 := Htot.out; omega
      have Hle := Lib.hid hle
      clear hle
      cases d with
      | true =>
        have hleft : LeftOld w2 b mp g wr := HI.out.left Hle.out (by omega) (by omega)
        have hold := HI.out.old
        have hc0 : cut ≠ 0 := Hdk0.out rfl
        have Hleft := Lib.hid hleft
        have Hold := Lib.hid hold
        have Hc0 := Lib.hid hc0
        obtain ⟨wa, wc, hwe⟩ := ownsRow_slice HI.out.rowW
        have Hwe := Lib.hid hwe
        clear hleft hold hc0 hwe
        by_cases hlt : k < N
        · go_wp2_with fail
          go_meet
          case rel => exact ⟨Hold.out, .inl ⟨rfl, Hc0.out, Hleft.out⟩⟩
        · have hkN : k = N := by omega
          have HkN := Lib.hid hkN
          clear hkN
          go_wp2_with fail
          go_meet
          case rel => exact ⟨Hold.out, .inl ⟨rfl, Hc0.out, Hleft.out⟩⟩
      | false =>
        have hkk : kv = k := Hdk.out rfl
        subst hkk
        by_cases hlt : kv < N
        · have hcell : wr.cell? ⟨pb, po + kv, none⟩ = some (.slice (A kv) (L kv) (Cc kv)) := (World.cell?_of_block (HI.out.old.block _ (World.block_lt_of_cell? w _ (Hp.out kv hlt).1) (by simp))).trans (Hp.out kv hlt).1
          go_wp2_with fail
          refine (ren_write HI.out (Hp.out kv hlt).2 (by have h8 := tot_le L (show kv + 1 ≤ N by omega); have h9 := Htot.out; omega) (by omega) (by omega)).mono ?_
          rintro e wb hwr
          rcases hwr with ⟨v', s', rfl, hin3⟩ | ⟨s', rfl, hin3⟩
          all_goals
            have HIN3 := Lib.hid hin3
            clear hin3
            have hnew := HIN3.out.old
            obtain ⟨oa3, oc3, hoe⟩ := ownsRow_slice HIN3.out.rowW
            have Hoe := Lib.hid hoe
            clear hoe hcell
            have hcell : wb.cell? ⟨pb, po + kv, none⟩ = some (.slice (A kv) (L kv) (Cc kv)) := (World.cell?_of_block (hnew.block _ (World.block_lt_of_cell? w _ (Hp.out kv hlt).1) (by simp))).trans (Hp.out kv hlt).1
            have tt : ((L kv : Int) == (L kv : Int)) = true := by simp
            have Hnew := Lib.hid hnew
            clear hnew
            go_wp2_with fail
            refine (num_ok _ wb).mono ?_
            rintro e w' ⟨rfl, rfl⟩
            obtain ⟨i0, hi, hz0, hz1, hz2⟩ := info_parts info5
            have hpk := (Hp.out kv hlt).2
            have hnone : A kv = none → L kv = 0 ∧ Cc kv = 0 := fun h => by have h1 := hpk.2.2.2.1 h; have h2 := hpk.1; omega
            have hxl : ((X kv).map (Value.int .u8)).length = L kv := by rw [List.length_map]; exact hpk.2.2.1
            have hcu : ∀ ad, A kv = some ad → ∀ j u, ((X kv).map (Value.int .u8))[j]? = some u → wb.cell? (ad.add j) = some u := fun ad ha => hpk.cells Hnew.out ha
            have htk : tot L kv + L kv ≤ 1048576 := by have h1 := tot_le L (show kv + 1 ≤ N by omega); have h2 := Htot.out; have h3 : tot L (kv + 1) = tot L kv + L kv := rfl; omega
            have b63 : tot L kv + L kv ≤ maxLen := by unfold maxLen; omega
            have b47 : (tot L kv + L kv) * 1 ≤ 140737488355328 := by omega
            have Hi := Lib.hid hi
            have Hz0 := Lib.hid hz0
            have Hz1 := Lib.hid hz1
            have Hz2 := Lib.hid hz2
            have Hnone := Lib.hid hnone
            have Hxl := Lib.hid hxl
            have Hcu := Lib.hid hcu
            have B63 := Lib.hid b63
            have B47 := Lib.hid b47
            clear hi hz0 hz1 hz2 hpk hnone hxl hcu htk b63 b47
            go_wp2_with (at_builtin; (first | (refine wpList_append_piece rfl _ _ 36 rfl B 5 i0 (.int .u8 0) 1 Try.underlying36 Hi.out Hz0.out Hz1.out Hz2.out rfl _ (tot L kv) ((cat X kv).map (Value.int .u8)) rfl HIN3.out.rowW (A kv) (L kv) (Cc kv) ((X kv).map (Value.int .u8)) rfl Hnone.out Hxl.out Hcu.out (oneCell_bytes _) B63.out B47.out HIN3.out.hB ?_; intro v4 w4 hown4 hgrow4 hloc4) | fail))
          · refine ⟨⟨kv + 1, kv + 1, false, v', s', by omega, by omega, fun _ => rfl, by go_num, rfl, ren_next HIN3.out hown4 hgrow4 hloc4⟩, by simp [intOf]; omega⟩
          · refine ⟨⟨kv + 1, kv, true, v, s', by omega, by omega, (fun e => by cases e), by go_num, rfl, ren_next HIN3.out hown4 hgrow4 hloc4⟩, by simp [intOf]; omega⟩
        · have hkN : kv = N := by omega
          obtain ⟨wa, wc, hwe⟩ := ownsRow_slice HI.out.rowW
          have Hwe := Lib.hid hwe
          have HkN := Lib.hid hkN
          clear hwe hkN
          go_wp2_with fail
          refine (ren_sync HI.out (by omega)).mono ?_
          rintro e wa' hs
          rcases hs with ⟨sA, rfl, hA⟩ | ⟨sA, rfl, hA⟩
          · have HA := Lib.hid hA
            clear hA
            go_wp2_with fail
            refine (num_ok 0 wa').mono ?_
            rintro e w' ⟨rfl, rfl⟩
            go_wp2_with fail
            refine (ren_close HA.out (by omega)).mono ?_
            rintro e wb' hs
            rcases hs with ⟨sB, rfl, hB⟩ | ⟨sB, rfl, hB⟩
            · have HB := Lib.hid hB
              clear hB
              go_wp2_with fail
              refine (num_ok 0 wb').mono ?_
              rintro e w' ⟨rfl, rfl⟩
              go_wp2_with fail
              refine (ren_rename HB.out (by omega) Hg2.out (by omega) (by omega) Hle.out (by omega)).mono ?_
              rintro e wc' hs
              rcases hs with ⟨rfl, hN1, hN2⟩ | ⟨sC, rfl, hC⟩
              · have HN1 := Lib.hid hN1
                have HN2 := Lib.hid hN2
                clear hN1 hN2
                go_wp2_with fail
                refine (num_ok 0 wc').mono ?_
                rintro e w' ⟨rfl, rfl⟩
                go_wp2_with fail
                go_meet
                case rel => exact ⟨HN2.out, .inr ⟨rfl, by rw [← HkN.out]; exact HN1.out⟩⟩
              · have HC := Lib.hid hC
                clear hC
                go_wp2_with fail
                refine (num_ok 4 wc').mono ?_
                rintro e w' ⟨rfl, rfl⟩
                go_wp2_with fail
                go_meet
                case rel => exact ⟨HC.out.old, .inl ⟨rfl, HC.out.dk rfl, HC.out.left Hle.out (by omega) (by omega)⟩⟩
            · have HB := Lib.hid hB
              clear hB
              go_wp2_with fail
              refine (num_ok 4 wb').mono ?_
              rintro e w' ⟨rfl, rfl⟩
              go_wp2_with fail
              go_meet
              case rel => exact ⟨HB.out.old, .inl ⟨rfl, HB.out.dk rfl, HB.out.left Hle.out (by omega) (by omega)⟩⟩
          · have HA := Lib.hid hA
            clear hA
            go_wp2_with fail
            refine (num_ok 4 wa').mono ?_
            rintro e w' ⟨rfl, rfl⟩
            go_wp2_with fail
            go_meet
            case rel => exact ⟨HA.out.old, .inl ⟨rfl, HA.out.dk rfl, HA.out.left Hle.out (by omega) (by omega)⟩⟩
  case rest =>
    obtain ⟨hk3, hcase⟩ := hcut
    have Hk3 := Lib.hid hk3
    clear hk3
    rcases hcase with ⟨rfl, hc0, hl⟩ | ⟨rfl, hn⟩
    · have t4 : (cut == 0) = false := by rw [beq_eq_false_iff_ne]; exact hc0
      have Hleft := Lib.hid hl
      clear hc0 hl
      go_wp2_with fail
      refine (ren_reboot_old keep Hleft.out Hk3.out Hg2.out Hrow2.out (by omega) (by omega) (by omega) (by omega) hne1 hwb (by omega) (by omega) HmT.out (by omega) hkeep).mono ?_
      rintro e w4 ⟨s4, k4, D4, h4, v4, sy4, rfl, hb4, hs4, hm4, hat4, hg4, hne4, hr4, hvb4, hn4, hk4⟩
      have Hk4 := Lib.hid hk4
      have Hb4 := Lib.hid hb4
      have Hm4 := Lib.hid hm4
      have Hat4 := Lib.hid hat4
      have Hg4 := Lib.hid hg4
      have Hr4 := Lib.hid hr4
      have Hs4 := Lib.hid hs4
      clear hk4 hb4 hm4 hat4 hg4 hr4 hs4
      go_wp2_with fail
      refine (num_ok 0 w4).mono ?_
      rintro e w' ⟨rfl, rfl⟩
      go_wp2_with fail
      refine (look_any b h4 s4 target m D4 k4 v4 sy4 0 false zs w4 Hb4.out target_nam (by rw [Hs4.out]; exact Hm4.out) (by rw [Hs4.out]; exact hne1) Hat4.out Hg4.out hne4 Hr4.out hvb4 hn4).mono ?_
      rintro e w5 ⟨u, rfl, hb5, hu5, kp5⟩
      have hk5 : Keeps [] w w5 := ((Hk4.out.mono (by simp)).trans kp5).drop (fun k hk => .inr (by simp at hk; omega))
      have Hu5 := Lib.hid hu5
      have Hk5 := Lib.hid hk5
      clear hb5 hu5 kp5 hk5
      go_wp2_with fail
      refine (same_ok u _ zs w5 Hu5.out (bytes_piece Ho.out Hk5.out)).mono ?_
      rintro e w' ⟨rfl, rfl⟩
      go_wp2_with fail
      go_ret
      exact ⟨rfl, Hk5.out⟩
    · obtain ⟨wa, wn, hwe⟩ := leftNew_slice hn
      subst hwe
      have Hn := Lib.hid hn
      clear hn
      by_cases hcz : cut = 0
      · have t4 : (cut == 0) = true := by rw [beq_iff_eq]; exact hcz
        have Hcz := Lib.hid hcz
        clear hcz
        go_wp2_with fail
        refine (ren_reboot_new keep Hn.out Hk3.out (by omega) (by omega) hne1 hwb (by omega) hkeep).mono ?_
        rintro e w4 ⟨⟨s4, k4, D4, h4, v4, sy4, rfl, hb4, hs4, hm4, hat4, hg4, hne4, hr4, hvb4, hn4, hk4⟩, hw4⟩
        have Hk4 := Lib.hid hk4
        have Hb4 := Lib.hid hb4
        have Hm4 := Lib.hid hm4
        have Hat4 := Lib.hid hat4
        have Hg4 := Lib.hid hg4
        have Hr4 := Lib.hid hr4
        have Hs4 := Lib.hid hs4
        have Hw4 := Lib.hid hw4
        clear hk4 hb4 hm4 hat4 hg4 hr4 hs4 hw4
        go_wp2_with fail
        refine (num_ok 0 w4).mono ?_
        rintro e w' ⟨rfl, rfl⟩
        go_wp2_with fail
        refine (look_any b h4 s4 target (tot L N) D4 k4 v4 sy4 0 false (cat X N) w4 Hb4.out target_nam (by rw [Hs4.out]; exact Hm4.out) (by rw [Hs4.out]; exact hne1) Hat4.out Hg4.out hne4 Hr4.out hvb4 hn4).mono ?_
        rintro e w5 ⟨u, rfl, hb5, hu5, kp5⟩
        have hk5 : Keeps [] w w5 := ((Hk4.out.mono (by simp)).trans kp5).drop (fun k hk => .inr (by simp at hk; omega))
        have hw5 := ownsRow_keeps Hw4.out kp5 (fun j hj => by have h6 := (Hw4.out.lt j hj).1; simp; omega)
        have Hu5 := Lib.hid hu5
        have Hk5 := Lib.hid hk5
        have Hw5 := Lib.hid hw5
        clear hb5 hu5 kp5 hk5 hw5
        go_wp2_with fail
        refine (same_ok u _ (cat X N) w5 Hu5.out (bytes_row Hw5.out)).mono ?_
        rintro e w' ⟨rfl, rfl⟩
        go_wp2_with fail
        go_ret
        exact ⟨rfl, Hk5.out⟩
      · have t4 : (cut == 0) = false := by rw [beq_eq_false_iff_ne]; exact hcz
        go_wp2_with fail
        refine (ren_reboot_new keep Hn.out Hk3.out (by omega) (by omega) hne1 hwb (by omega) hkeep).mono ?_
        rintro e w4 ⟨⟨s4, k4, D4, h4, v4, sy4, rfl, hb4, hs4, hm4, hat4, hg4, hne4, hr4, hvb4, hn4, hk4⟩, hw4⟩
        have Hk4 := Lib.hid hk4
        have Hb4 := Lib.hid hb4
        have Hm4 := Lib.hid hm4
        have Hat4 := Lib.hid hat4
        have Hg4 := Lib.hid hg4
        have Hr4 := Lib.hid hr4
        have Hs4 := Lib.hid hs4
        have Hw4 := Lib.hid hw4
        clear hk4 hb4 hm4 hat4 hg4 hr4 hs4 hw4
        go_wp2_with fail
        refine (num_ok 0 w4).mono ?_
        rintro e w' ⟨rfl, rfl⟩
        go_wp2_with fail
        refine (look_any b h4 s4 target (tot L N) D4 k4 v4 sy4 0 false (cat X N) w4 Hb4.out target_nam (by rw [Hs4.out]; exact Hm4.out) (by rw [Hs4.out]; exact hne1) Hat4.out Hg4.out hne4 Hr4.out hvb4 hn4).mono ?_
        rintro e w5 ⟨u, rfl, hb5, hu5, kp5⟩
        have hk5 : Keeps [] w w5 := ((Hk4.out.mono (by simp)).trans kp5).drop (fun k hk => .inr (by simp at hk; omega))
        have hw5 := ownsRow_keeps Hw4.out kp5 (fun j hj => by have h6 := (Hw4.out.lt j hj).1; simp; omega)
        have Hu5 := Lib.hid hu5
        have Hk5 := Lib.hid hk5
        have Hw5 := Lib.hid hw5
        clear hb5 hu5 kp5 hk5 hw5
        go_wp2_with fail
        refine (same_ok u _ (cat X N) w5 Hu5.out (bytes_row Hw5.out)).mono ?_
        rintro e w' ⟨rfl, rfl⟩
        go_wp2_with fail
        go_ret
        exact ⟨rfl, Hk5.out⟩
end Go.Proofs.Ytfplfnhhiipgcaa
