/- The document's Make, walked. -/
import Derived.Test.YthajgfldjjgkiaaRm
namespace Go.Proofs.Ythajgfldjjgkiaa
open Go.RowKit
set_option maxRecDepth 100000

set_option maxHeartbeats 4000000 in
theorem ref_one {w : World} {v : Value} {W : List Int} {fan : Nat} (hv : SlI w v W) (hE : givE W fan = 0) (h1 : W.length = 1) :
    Calls Try.prog 26 #[v, .int .i64 (fan : Int)] w (RefR w [⟨[0], 1⟩]) := by
  have GE := Lib.hid (given_ok (fan := (fan : Int)) hv)
  rw [hE] at GE
  obtain ⟨a, c, rfl, hc, hc2⟩ := hv.form
  rw [h1] at GE hc ⊢
  clear hv hE h1
  go_enter Try.func26, Try.ntmps26
  go_wp2_with fail
  refine GE.out.mono ?_
  rintro e w' ⟨rfl, rfl⟩
  have B1 := Lib.hid (BlkAt.new w [.int .i64 0] 3)
  have B2 := Lib.hid (BlkAt.new (w.alloc (.cells #[.int .i64 0] 3)) [.slice (some ⟨w.heap.size, 0, none⟩) 1 1, .int .i64 1] 46)
  have BE := Lib.hid (show Below w.heap.size w ((w.alloc (.cells #[.int .i64 0] 3)).alloc (.cells #[.slice (some ⟨w.heap.size, 0, none⟩) 1 1, .int .i64 1] 46)) from ((Below.refl _ _).alloc (Nat.le_refl _) _).alloc (by simp) _)
  have hs : (w.alloc (.cells #[.int .i64 0] 3)).heap.size = w.heap.size + 1 := by simp
  rw [hs] at B2
  clear hs
  go_wp2_with fail
  go_ret2
  refine ⟨_, rfl, StOwn.st (g := w.heap.size + 1) (gi := fun _ => w.heap.size) (B := w.heap.size) ⟨rfl, B2.out, Nat.le_succ _, fun i hi => ?_, fun i j hi hj _ => ?_⟩ (by simp) (fun i hi => ?_), BE.out⟩
  · have : i = 0 := by simp at hi; omega
    subst this
    exact ⟨B1.out.alloc _, Nat.le_refl _⟩
  · simp at hi hj; omega
  · have : i = 0 := by simp at hi; omega
    subst this
    simp
theorem ref_not {w : World} {v : Value} {W : List Int} {fan : Int} (hv : SlI w v W) (hE : givE W fan ≠ 0) :
    Calls Try.prog 26 #[v, .int .i64 fan] w (Same w (.tuple #[.slice none 0 0, .int .i64 (givE W fan)])) := by
  have GE := Lib.hid (given_ok (fan := fan) hv)
  obtain ⟨a, c, rfl, hc, hc2⟩ := hv.form
  clear hv
  generalize givE W fan = E at *
  have t1 : decide (E = 0) = false := decide_eq_false hE
  have t2 : (E == 0) = false := by simpa using hE
  have t3 : (E != 0) = true := by simpa using hE
  clear hE
  go_enter Try.func26, Try.ntmps26
  go_wp2_with fail
  refine GE.out.mono ?_
  rintro e w' ⟨rfl, rfl⟩
  go_wp2_with fail
  go_ret2
  exact ⟨rfl, rfl⟩
set_option maxHeartbeats 8000000 in
theorem ref_many {w : World} {v : Value} {W : List Int} {fan : Nat} (hv : SlI w v W) (hE : givE W fan = 0) (h1 : 2 ≤ W.length) :
    Calls Try.prog 26 #[v, .int .i64 (fan : Int)] w (RefR w (mkS W fan (need W.length fan))) := by
  have GE := Lib.hid (given_ok (fan := (fan : Int)) hv)
  rw [hE] at GE
  obtain ⟨e1, e2, _, e3, e4⟩ := givE_ok hE
  have MK := Lib.hid (mk_ok (fan := fan) e4 (by omega) h1)
  have LS := Lib.hid (fun s => left_step (n := W.length) (fan := fan) (s := s) (by omega) h1)
  have LO := Lib.hid (fun s => left_one (n := W.length) (fan := fan) (s := s) (by omega) h1)
  have TOT := Lib.hid e4.tot
  have HV := Lib.hid hv
  obtain ⟨b, off, c, rfl, hc, hb, hcell⟩ := hv.get (by rintro rfl; simp at h1)
  have HC := Lib.hid hcell
  have NB := Lib.hid (show need W.length fan ≤ 65536 from by
    obtain ⟨q, q1, q2⟩ := need_spec (fan := fan) (by omega) h1
    have : q ≤ W.length - 2 := by rw [q1]; have := Nat.le_mul_of_pos_left q (show 0 < fan - 1 by omega); omega
    omega)
  have hmod : ((W.length : Int) - 2) % ((fan : Int) - 1) = (((W.length - 2) % (fan - 1) : Nat) : Int) := by
    have e5 : (W.length : Int) - 2 = ((W.length - 2 : Nat) : Int) := by omega
    have e6 : (fan : Int) - 1 = ((fan - 1 : Nat) : Int) := by omega
    rw [e5, e6]
    rfl
  obtain ⟨r, hr⟩ : ∃ r, r = (W.length - 2) % (fan - 1) := ⟨_, rfl⟩
  rw [← hr] at hmod
  have HR := Lib.hid hr
  have hrlt : r < fan - 1 := by rw [hr]; exact Nat.mod_lt _ (by omega)
  have HMOD := Lib.hid hmod
  clear hv hE hr e4 hmod hcell
  have b1 : (W.length : Int) ≤ 65536 := by omega
  have b2 : (2 : Int) ≤ (W.length : Int) := by omega
  have b0 : decide ((W.length : Int) = 1) = false := decide_eq_false (by omega)
  have b0b : ((W.length : Int) == 1) = false := by simp; omega
  have b0c : (W.length == 1) = false := by simp; omega
  go_enter Try.func26, Try.ntmps26
  go_wp2_with fail
  refine GE.out.mono ?_
  rintro e w' ⟨rfl, rfl⟩
  have hfn : ¬ (fan : Int) - 1 = 0 := by omega
  go_wp2_with (at_builtin; refine wp_apI rfl _ _ rfl (.slice none 0 0) [] rfl (OwnI.nil w) ⟨b, off, none⟩ W.length c W rfl rfl (by omega) (fun j hj => by rw [add_plain]; exact HC.out j hj) (by simp; omega) ?_; intro ga cap w1 h1a h2a h3a; have hmod := HMOD.out)
  clear hmod
  have ST := Lib.hid (show RmR w W fan (.slice (some ⟨ga, 0, none⟩) W.length cap) (.slice none 0 0) (.int .i64 (W.length : Int)) (.int .i64 (2 + (r : Int))) w1 from by
    refine ⟨0, ga, cap, .slice none 0 0, fun _ => .slice none 0 0, rfl, rfl, rfl, ?_, Nat.zero_le _, ?_, OwnS.nil _ _ _, fun i hi => absurd hi (by omega), ?_, ?_, fun b hb => by cases hb⟩
    · unfold tkn; rw [if_pos rfl, ← HR.out]; congr 1
    · have := h1a
      simp only [List.length_nil, Nat.zero_add, List.nil_append] at this
      exact this
    · exact h2a.below (Nat.le_refl _) (fun x e => by cases e)
    · rcases h3a with e | e
      · cases e
      · omega)
  clear h1a h2a h3a GE HC
  go_loopw [8, 9, 10, 11] (fun v8 v9 v10 v11 wr => RmR w W fan v8 v9 v10 v11 wr) (fun _ _ v10 _ _ => (intOf v10).toNat)
  case atStart => exact ST.out
  case round =>
    clear ST
    obtain ⟨s, ga, cap, vs, f, rfl, rfl, rfl, rfl, hs, hm⟩ := hrel
    have M := Lib.hid hm
    obtain ⟨sa, sc, rfl⟩ := hm.steps.form
    clear hm
    by_cases hlt : s < need W.length fan
    · have hl1 := (LO.out s hs).2 hlt
      have t1 : decide (1 < (left W.length fan s : Int)) = true := decide_eq_true (by omega)
      have t1n : decide (1 < left W.length fan s) = true := decide_eq_true hl1
      obtain ⟨k1, k2⟩ := MK.out s hs
      obtain ⟨k3, k4⟩ := LS.out s hlt
      have htk := tkn_le W.length fan s (by omega)
      have htk2 := tkn_ge W.length fan s (by omega)
      have hlt65 : s < 65536 := Nat.lt_of_lt_of_le hlt NB.out
      have LE := Lib.hid (show tkn W.length fan (s + 1) = fan by unfold tkn; rw [if_neg (by omega)])
      have PK := Lib.hid (fun i (h : i ≤ tkn W.length fan s) => pk_ok (A := mkA W fan s) (i := i) (by omega))
      have PL := Lib.hid (fun i (h : i < tkn W.length fan s) => pk_isL (A := mkA W fan s) (i := i) (by omega))
      have TB := Lib.hid (show tot (mkA W fan s) ≤ 70368744177664 by rw [k2]; have := TOT.out; omega)
      have K4 := Lib.hid k4
      have K3 := Lib.hid k3
      have hlen := Lib.hid (mkA_len W fan s)
      obtain ⟨tk, hTK⟩ : ∃ tk, tk = tkn W.length fan s := ⟨_, rfl⟩
      have HTK := Lib.hid hTK
      rw [← hTK] at htk htk2 PK PL K3 K4 ⊢
      obtain ⟨lf, hLF⟩ : ∃ lf, lf = left W.length fan s := ⟨_, rfl⟩
      have HLF := Lib.hid hLF
      rw [← hLF] at hl1 t1 t1n K3 K4 ⊢
      clear k1 k2 k3 k4 hTK hLF
      obtain ⟨wo, rfl⟩ : ∃ wo, wo = wr := ⟨wr, rfl⟩
      have SI := Lib.hid (show RiR wo ga (W.length + s) cap tk (mkA W fan s) (.slice none 0 0) (.int .i64 0) (.int .i64 0) wo from ⟨0, _, rfl, rfl, rfl, Nat.zero_le _, M.out.all, by rw [show pkL (mkA W fan s) 0 = [] from rfl, srt_nil]; exact OwnI.nil wo, (fun b hb => by cases hb), Kp.refl _ _, M.out.all.lt'⟩)
      go_wp2_with fail
      go_loopw [12, 13, 14] (fun v12 v13 v14 wr => RiR wo ga (W.length + s) cap tk (mkA W fan s) v12 v13 v14 wr) (fun _ _ v14 _ => tk - (intOf v14).toNat)
      case atStart => exact SI.out
      case round =>
        clear SI
        obtain ⟨i, vi, rfl, rfl, rfl, hi, hr⟩ := hrel
        have R := Lib.hid hr
        clear hr
        by_cases hit : i < tk
        · have u1 : decide ((i : Int) < (tk : Int)) = true := decide_eq_true (by omega)
          have u1n : decide (i < tk) = true := decide_eq_true hit
          obtain ⟨l1, l2⟩ := PL.out i hit
          have hlA : (pkA (mkA W fan s) i).length = W.length + s := by rw [pkA_len, hlen.out]
          have LG := Lib.hid (lightest_ok R.out.all.sl (by rw [hlA]; omega) (by intro e; rw [e] at hlA; simp at hlA; omega))
          rw [l2] at LG
          rw [show bst (some (ls (pkA (mkA W fan s) i))) = (ls (pkA (mkA W fan s) i) : Int) from rfl] at LG
          have xlt : ls (pkA (mkA W fan s) i) < W.length + s := by rw [← hlA]; exact l1.lt
          have cx := R.out.all.cell (ls (pkA (mkA W fan s) i)) ((pkA (mkA W fan s) i).getD (ls (pkA (mkA W fan s) i)) (-1)) (by
            rw [List.getD_eq_getElem?_getD, List.getElem?_eq_getElem (by rw [hlA]; exact xlt)]; rfl)
          have hy0 := l1.1
          have hp0 := (PK.out i (by omega)).2.2
          have hp1 := (PK.out (i + 1) (by omega)).2.1
          have hp2 := tot_nonneg (pkA (mkA W fan s) (i + 1))
          have PSS := Lib.hid (show pkS (mkA W fan s) (i + 1) = pkS (mkA W fan s) i + (pkA (mkA W fan s) i).getD (ls (pkA (mkA W fan s) i)) (-1) from rfl)
          have sb : pkS (mkA W fan s) i + (pkA (mkA W fan s) i).getD (ls (pkA (mkA W fan s) i)) (-1) ≤ 70368744177664 := by rw [← PSS.out]; have := TB.out; omega
          have RN := Lib.hid (fun m (w' : World) (e : Ending) => (R.out.drew m).next (e := e) (w' := w') (ls (pkA (mkA W fan s) i)) rfl)
          have PU := Lib.hid (fun m => put_ok (w := (wr.drewN m).setCell ⟨ga, ls (pkA (mkA W fan s) i), none⟩ (.int .i64 (-1))) (ls (pkA (mkA W fan s) i) : Int) (((R.out.drew m).inn).kp (Kp.set _ _ _ _) (fun b hb e => by
            have h3 := R.out.blk b hb
            have h4 := R.out.lt
            omega)) (by rw [srt_len, pkL_len]; omega))
          have fx := R.out.all.free (ls (pkA (mkA W fan s) i))
          have lga := R.out.all.lt'
          clear hlA hp1 hp2 l1 l2
          generalize ls (pkA (mkA W fan s) i) = x at *
          generalize (pkA (mkA W fan s) i).getD x (-1) = y at *
          have NX := Lib.hid (fun (w' : World) (vi' : Value) (h : RiAt wo w' ga (W.length + s) cap (mkA W fan s) (i + 1) vi') => show RiR wo ga (W.length + s) cap tk (mkA W fan s) vi' (.int .i64 (pkS (mkA W fan s) i + y)) (.int .i64 ((i : Int) + 1)) w' from ⟨i + 1, vi', rfl, by rw [PSS.out], by congr 1, hit, h⟩)
          generalize pkS (mkA W fan s) i = sm at *
          have ME := Lib.hid (show tk - ((i : Int) + 1).toNat < tk - (i : Int).toNat by omega)
          go_wp2_with fail
          refine LG.out.mono ?_
          rintro e w2 ⟨rfl, m, rfl⟩
          have PU2 := Lib.hid (PU.out m)
          have RN2 := Lib.hid (RN.out m)
          have cx2 : (wr.drewN m).cell? ⟨ga, x, none⟩ = some (.int .i64 y) := cx
          have fx2 : (wr.drewN m).frozen? ⟨ga, x, none⟩ = false := fx
          have lga2 : ga < (wr.drewN m).heap.size := lga
          clear LG PU RN cx fx lga
          generalize wr.drewN m = wq at *
          have ix : (x : Int) < (W.length : Int) + (s : Int) := by omega
          have ix0 : (0 : Int) ≤ (x : Int) := by omega
          go_wp2_with fail
          refine PU2.out.mono ?_
          intro e w3 hp
          obtain ⟨vi', rfl, hri⟩ := RN2.out w3 e hp
          have NX2 := Lib.hid (NX.out w3 vi' hri)
          clear hp hri NX RN2 PU2
          go_wp2_with fail
          go_roundw
          case rel => exact NX2.out
          case measure => exact ME.out
        · have u1 : decide ((i : Int) < (tk : Int)) = false := decide_eq_false (by omega)
          have u1n : decide (i < tk) = false := decide_eq_false hit
          have hie : i = tk := by omega
          subst hie
          obtain ⟨a3, c3, rfl⟩ : ∃ a c, vi = .slice a i c := by
            rcases R.out.inn.2 with ⟨hv, h0⟩ | ⟨g, cap, cur, hv, _⟩
            · rw [srt_len, pkL_len] at h0; exact ⟨none, 0, by rw [hv, h0]⟩
            · rw [srt_len, pkL_len] at hv; exact ⟨_, _, hv⟩
          have hlA := Lib.hid (show (pkA (mkA W fan s) i).length = W.length + s by rw [pkA_len, hlen.out])
          obtain ⟨out, hout⟩ : ∃ out, out = W.length + s := ⟨_, rfl⟩
          have HOUT := Lib.hid hout
          have eo : (W.length : Int) + (s : Int) = (out : Int) := by omega
          clear hout
          have BN := Lib.hid (BlkAt.new wr [.slice a3 i c3, .int .i64 (out : Int)] 46)
          have BA := Lib.hid (below_alloc wr (.cells #[.slice a3 i c3, .int .i64 (out : Int)] 46))
          have S1 := Lib.hid (show OwnS (wr.alloc (.cells #[.slice a3 i c3, .int .i64 (out : Int)] 46)) (.slice sa s sc) f (outs (mkS W fan s)) s from (M.out.steps.kp R.out.kp (fun b hb e => own_ne M.out.steps M.out.all hb rfl e)).below BA.out)
          have hne := Lib.hid (fun b (hb : (Value.slice sa s sc).ownBlock = some b) => show b ≠ ga from fun e => own_ne M.out.steps M.out.all hb rfl e)
          clear u1 u1n hit hi
          generalize hsum : pkS (mkA W fan s) i = sm at *
          have HSUM := Lib.hid hsum
          clear hsum
          go_upto_region 23 with (at_builtin; refine wp_apS rfl _ _ rfl (.slice sa s sc) f (outs (mkS W fan s)) s rfl S1.out wr.heap.size rfl (.slice a3 i c3) (out : Int) rfl BN.out (by omega) ?_; intro g4 c4 w4 s41 s42 s43)
          have B1 := Lib.hid s41
          have K1 := Lib.hid (show Kp wr w4 (fun k => (Value.slice sa s sc).ownBlock = some k) from (Kp.of _ BA.out).tr s42)
          have Q1 := Lib.hid (show (Value.slice sa s sc).ownBlock = some g4 ∨ wr.heap.size ≤ g4 from s43.imp id (fun e => by rw [e]; simp))
          clear s41 s42 s43 BN BA S1
          have A1 := Lib.hid (show OwnI w4 (.slice (some ⟨ga, 0, none⟩) (W.length + s) cap) (pkA (mkA W fan s) i) from R.out.all.kp K1.out (fun b hb e => by
            injection hb with hb
            exact hne.out b e (by rw [← hb])))
          have BN := Lib.hid (BlkAt.new w4 [.int .i64 sm] 3)
          have BA := Lib.hid (below_alloc w4 (.cells #[.int .i64 sm] 3))
          have A2 := Lib.hid (show OwnI (w4.alloc (.cells #[.int .i64 sm] 3)) (.slice (some ⟨ga, 0, none⟩) (W.length + s) cap) (pkA (mkA W fan s) i) from A1.out.below BA.out)
          clear A1
          have hsl : (pkA (mkA W fan s) i).length + 1 ≤ 17592186044416 := by rw [hlA.out]; omega
          go_upto_region 24 with (at_builtin; refine wp_apI rfl _ _ rfl (.slice (some ⟨ga, 0, none⟩) (W.length + s) cap) (pkA (mkA W fan s) i) rfl A2.out ⟨w4.heap.size, 0, none⟩ 1 1 [sm] rfl rfl (by omega) (fun j hj => by
            have : j = 0 := by simp at hj; omega
            subst this
            exact BN.out.cell 0 _ rfl) hsl ?_; intro g5 c5 w5 s51 s52 s53)
          have B2 := Lib.hid (show OwnI w5 (.slice (some ⟨g5, 0, none⟩) (W.length + s + 1) c5) (mkA W fan (s + 1)) from by
            have q : mkA W fan (s + 1) = pkA (mkA W fan s) i ++ [sm] := by rw [mkA, ← HTK.out, HSUM.out]
            rw [q]
            rw [hlA.out] at s51
            exact s51)
          have K2 := Lib.hid (show Kp w4 w5 (fun k => k = ga) from (Kp.of _ BA.out).tr (s52.mono (fun x _ e => by injection e with e; exact e.symm)))
          have Q2 := Lib.hid (show g5 = ga ∨ w4.heap.size ≤ g5 from by
            rcases s53 with e | e
            · left; injection e with e; exact e.symm
            · right; rw [e]; simp)
          have HLA := Lib.hid hlA.out
          have e5 := hlA.out
          rw [e5]
          clear e5 hsl s51 s52 s53
          have MN := Lib.hid (M.out.next (by rw [← HTK.out]; exact R.out) (by rw [← HOUT.out]; exact B1.out) K1.out Q1.out B2.out K2.out Q2.out)
          have hlo : (i : Int) ≤ (lf : Int) := by have := K3.out; omega
          have hlf : (lf : Int) ≤ 65536 := by
            have q := left_le (n := W.length) (fan := fan) (s := s) (by omega) h1 hs
            have := HLF.out
            omega
          have FIN := Lib.hid (show RmR w W fan (.slice (some ⟨g5, 0, none⟩) (W.length + s + 1) c5) (.slice (some ⟨g4, 0, none⟩) (s + 1) c4) (.int .i64 ((lf : Int) - (i : Int) + 1)) (.int .i64 (fan : Int)) w5 from ⟨s + 1, g5, c5, _, _, rfl, rfl, by
            congr 1
            have := K4.out
            omega, by rw [LE.out], hlt, MN.out⟩)
          have ME := Lib.hid (show ((lf : Int) - (i : Int) + 1).toNat < (lf : Int).toNat by omega)
          go_wp2_with fail
          exact ⟨FIN.out, ME.out⟩
    · have hse : s = need W.length fan := by omega
      have hl1 : ¬ 1 < left W.length fan s := fun h => hlt ((LO.out s hs).1 h)
      have t1 : decide (1 < (left W.length fan s : Int)) = false := decide_eq_false (by omega)
      have t1n : decide (1 < left W.length fan s) = false := decide_eq_false hl1
      have D := Lib.hid M.out.done
      have HSE := Lib.hid hse
      clear hl1 hse
      go_wp2_with fail
      go_ret2
      rw [← HSE.out]
      exact D.out
end Go.Proofs.Ythajgfldjjgkiaa
