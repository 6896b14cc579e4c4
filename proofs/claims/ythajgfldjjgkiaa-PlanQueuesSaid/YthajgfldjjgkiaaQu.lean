/- PlanQueues. -/
import Derived.Test.YthajgfldjjgkiaaGd
import Derived.Test.YthajgfldjjgkiaaCw
import Derived.Test.YthajgfldjjgkiaaGn
import Derived.Test.YthajgfldjjgkiaaLm
namespace Go.Proofs.Ythajgfldjjgkiaa
open Go.RowKit
set_option maxRecDepth 100000

theorem srt_rise (l : List Int) : Rise (srt l) := fun a b hab hb => by
  have := List.pairwise_iff_getElem.1 (srt_up l) a b (by omega) hb hab
  rw [List.getD_eq_getElem?_getD, List.getD_eq_getElem?_getD, List.getElem?_eq_getElem hb, List.getElem?_eq_getElem (show a < (srt l).length by omega)]
  exact this
def mkC (W : List Int) (f : Nat) : Int := costF W (mkAll W f) (mkAll W f).length
set_option maxHeartbeats 3200000 in
theorem ground_any {w : World} {v : Value} {W : List Int} {f : Nat} (hv : SlI w v (srt W)) (hE : givE W (f : Int) = 0) (hn2 : W.length ≤ 2048) : Calls Try.prog 29 #[v, .int .i64 (f : Int)] w (fun e w' => e = .returned (.int .i64 (mkC W f)) ∧ Below w.heap.size w w') := by
  obtain ⟨e1, e2, e3, e4, hW⟩ := givE_ok hE
  by_cases h1 : W.length = 1
  · obtain ⟨x, rfl⟩ := List.length_eq_one_iff.1 h1
    have hs : srt [x] = [x] := List.perm_singleton.1 (srt_perm [x])
    rw [hs] at hv
    have hc : mkC [x] f = x := by
      unfold mkC
      have ha : mkAll [x] f = [⟨[0], 1⟩] := if_pos rfl
      rw [ha]
      show (0 : Int) + lsum (fun r => wtF [x] [⟨[0], 1⟩] 0 r.toNat) (inOf [⟨[0], 1⟩] 0) = x
      show (0 : Int) + (x + 0) = x
      omega
    obtain ⟨b, off, c, rfl, _, lb, hcell⟩ := hv.get (by simp)
    have c0 := hcell 0 (by simp)
    rw [Nat.add_zero] at c0
    have c0' : w.cell? ⟨b, off, none⟩ = some (.int .i64 x) := c0
    have HC := Lib.hid hc
    clear hv hcell c0 hs hc
    go_enter Try.func29, Try.ntmps29
    go_wp2_with fail
    go_ret
    exact ⟨by rw [HC.out]; rfl, Below.refl _ _⟩
  · have hn : 2 ≤ W.length := by omega
    have hf : 2 ≤ f := by omega
    have hc : mkC W f = sumZ (stepC W f) (need W.length f) := by
      unfold mkC
      have ha : mkAll W f = mkS W f (need W.length f) := if_neg h1
      rw [ha, mkS_len]
      exact (mk_cost hW hf hn _ (Nat.le_refl _)).2
    rw [hc]
    exact ground_ok hv hW hf (by omega) hn hn2 (srt_perm W) (srt_rise W)
def QsR (w : World) (W : List Int) (v14 v15 : Value) (wr : World) : Prop := ∃ i : Nat, v14 = .int .i64 (sumZ (fun i => W.getD i 0) i) ∧ v15 = .int .i64 (i : Int) ∧ i ≤ W.length ∧ wr = w
set_option maxHeartbeats 16000000 in
theorem queues_law {w : World} {v : Value} {W : List Int} {fan wider : Int} (hv : SlI w v W) : Calls Try.prog 9 #[v, .int .i64 fan, .int .i64 wider] w (RetTrue w) := by
  have HV := Lib.hid hv
  have GV := Lib.hid (given_ok (fan := fan) hv)
  have MK := Lib.hid (make_any (fan := fan) hv)
  obtain ⟨a, c, rfl, hc, hc2⟩ := hv.form
  clear hv
  by_cases hE : givE W fan = 0
  · by_cases hl : 2048 < W.length
    · have t1 : decide (2048 < (W.length : Int)) = true := decide_eq_true (by omega)
      rw [hE] at GV
      go_enter Try.func9, Try.ntmps9
      go_wp2_with (go_at_call 24; refine GV.out.mono ?_; rintro e w' ⟨rfl, rfl⟩)
      go_ret
      exact ⟨rfl, Below.refl _ _⟩
    · have t1 : decide (2048 < (W.length : Int)) = false := decide_eq_false (by omega)
      have hl2 : W.length ≤ 2048 := by omega
      have HE := Lib.hid hE
      obtain ⟨e1, e2, e3, e4, hW⟩ := givE_ok hE
      obtain ⟨f, hf⟩ : ∃ f : Nat, fan = (f : Int) := ⟨fan.toNat, by omega⟩
      subst hf
      have P := Lib.hid (mk_plan hE)
      rw [Int.toNat_natCast] at P
      have CS := Lib.hid (cost_sum hW P.out e3)
      have M1 := Lib.hid (mk_one hE)
      rw [Int.toNat_natCast] at M1
      have HW := Lib.hid hW
      rw [hE] at GV
      have SB := Lib.hid (fun i (h : i ≤ W.length) => show 0 ≤ sumZ (fun i => W.getD i 0) i ∧ sumZ (fun i => W.getD i 0) i ≤ 1073741824 * (i : Int) from by
        induction i with
        | zero => simp [sumZ]
        | succ i ih =>
          obtain ⟨a1, a2⟩ := ih (by omega)
          have := HW.out _ (List.getElem_mem (show i < W.length by omega))
          have e : W.getD i 0 = W[i] := by simp [show i < W.length by omega]
          rw [sumZ, e]
          omega)
      have NU := Lib.hid (fun W : World => num_ok 0 (by omega) (by omega) W)
      clear hl hE hW
      go_enter Try.func9, Try.ntmps9
      go_upto_region 4 with (go_at_call 24; refine GV.out.mono ?_; rintro e w' ⟨rfl, rfl⟩)
      go_wp2_with fail
      refine MK.out.mono ?_
      rintro e w1 ⟨l, ss, rfl, st1, hs1, k1⟩
      rw [if_pos HE.out, Int.toNat_natCast] at hs1
      rw [HE.out]
      have K1 := Lib.hid k1
      have HS1 := Lib.hid hs1
      have CO := Lib.hid (cost_ok (fan := (f : Int)) (HV.out.below k1) st1)
      obtain ⟨la, lc, rfl, _, _⟩ := st1.form
      clear st1 hs1 k1 MK
      go_wp2_with fail
      refine CO.out.mono ?_
      rintro e w2 ⟨x1, E1, rfl, hE1, hx1, k2⟩
      have z1 : E1 = 0 := by
        rcases hE1 with ⟨z, _⟩ | ⟨_, _, z⟩ | ⟨_, z, _⟩
        · exact absurd HE.out z
        · exact z
        · refine absurd ?_ z
          rw [Int.toNat_natCast, HS1.out]
          exact P.out
      subst z1
      rw [if_pos rfl, HS1.out] at hx1
      replace hx1 : x1 = mkC W f := hx1
      subst hx1
      have K2 := Lib.hid (K1.out.trans (k2.mono K1.out.size))
      have SD := Lib.hid (sorted_ok (HV.out.below K2.out) (by omega))
      clear hE1 k2 CO
      go_wp2_with fail
      refine SD.out.mono ?_
      rintro e w3 ⟨sv, rfl, ho, k3⟩
      have K3 := Lib.hid (K2.out.trans (k3.mono K2.out.size))
      have GR := Lib.hid (ground_any ho.sl HE.out hl2)
      clear ho k3 SD
      go_wp2_with fail
      refine GR.out.mono ?_
      rintro e w4 ⟨rfl, k4⟩
      have K4 := Lib.hid (K3.out.trans (k4.mono K3.out.size))
      clear k4 GR
      obtain ⟨C, hC⟩ : ∃ C, C = mkC W f := ⟨_, rfl⟩
      have HC := Lib.hid hC
      rw [← hC]
      clear hC
      have SO := Lib.hid (show QsR w4 W (.int .i64 0) (.int .i64 0) w4 from ⟨0, rfl, rfl, Nat.zero_le _, rfl⟩)
      go_wp2_with fail
      go_loopw [14, 15] (fun v14 v15 wr => QsR w4 W v14 v15 wr) (fun _ v15 _ => W.length - (intOf v15).toNat)
      case atStart => exact SO.out
      case round =>
        clear SO
        obtain ⟨i, rfl, rfl, hi, rfl⟩ := hrel
        have sb := SB.out i hi
        by_cases hlt : i < W.length
        · have u1 : decide ((i : Int) < (W.length : Int)) = true := decide_eq_true (by omega)
          have u1n : decide (i < W.length) = true := decide_eq_true hlt
          have ii : (i : Int) < (W.length : Int) := by omega
          have ii0 : (0 : Int) ≤ (i : Int) := by omega
          have sb1 := SB.out (i + 1) hlt
          obtain ⟨xb, xo, xc', e5, _, l5, g5⟩ := SlI.ne (HV.out.below K4.out) (by rintro rfl; exact absurd hlt (Nat.not_lt_zero _))
          injection e5 with e5 _ e6
          subst e5 e6
          have q1 := g5 i hlt
          have e : W.getD i 0 = W[i] := by simp [hlt]
          have SN := Lib.hid (show sumZ (fun i => W.getD i 0) (i + 1) = sumZ (fun i => W.getD i 0) i + W[i] by rw [sumZ, e])
          rw [SN.out] at sb1
          have NX := Lib.hid (show QsR wr W (.int .i64 (sumZ (fun i => W.getD i 0) i + W[i])) (.int .i64 ((i : Int) + 1)) wr from ⟨i + 1, by rw [SN.out], by congr 1, hlt, rfl⟩)
          clear g5 e SN
          generalize W[i] = x at *
          generalize sumZ (fun i => W.getD i 0) i = y at *
          go_wp2_with fail
          go_roundw
          case rel => exact NX.out
          case measure => simp [intOf]; omega
        · have u1 : decide ((i : Int) < (W.length : Int)) = false := decide_eq_false (by omega)
          have u1n : decide (i < W.length) = false := decide_eq_false hlt
          have hie : i = W.length := by omega
          have HIE := Lib.hid hie
          obtain ⟨Y, hY⟩ : ∃ Y, Y = sumZ (fun i => W.getD i 0) i := ⟨_, rfl⟩
          have HY := Lib.hid hY
          rw [← hY] at sb ⊢
          have hle : Y ≤ C := by
            have := CS.out.1
            rw [hY, hie, HC.out]
            exact this
          have v1 : decide (C < Y) = false := decide_eq_false (by omega)
          have v2 : decide (C = C) = true := decide_eq_true rfl
          have v3 : (C == C) = true := beq_self_eq_true _
          have v4 : (C != C) = false := by simp
          have CY := Lib.hid (show (W.length : Int) ≤ (f : Int) → C = Y from fun h => by
            rw [HC.out, hY, hie]
            exact CS.out.2 (M1.out h))
          clear hY hie hle hlt hi
          by_cases hwf : (W.length : Int) ≤ (f : Int)
          case' pos =>
            have v5 : decide ((W.length : Int) ≤ (f : Int)) = true := decide_eq_true hwf
            have v5n : decide (W.length ≤ f) = true := decide_eq_true (by omega)
            have hcy := CY.out hwf
            have v6 : decide (C = Y) = true := decide_eq_true hcy
            have v7 : (C == Y) = true := by rw [hcy]; exact beq_self_eq_true _
            have v8 : (C != Y) = false := by rw [hcy]; simp
            clear hcy hwf CY
            go_upto_region 17 with (go_at_call 23; refine (NU.out _).mono ?_; rintro e w' ⟨rfl, rfl⟩)
            clear v5 v5n v6 v7 v8
          case' neg =>
            have v5 : decide ((W.length : Int) ≤ (f : Int)) = false := decide_eq_false hwf
            have v5n : decide (W.length ≤ f) = false := decide_eq_false (by omega)
            clear hwf CY
            go_upto_region 17 with (go_at_call 23; refine (NU.out _).mono ?_; rintro e w' ⟨rfl, rfl⟩)
            clear v5 v5n
          all_goals
            by_cases hw1 : wider ≤ (f : Int)
            · have v5 : decide (wider ≤ (f : Int)) = true := decide_eq_true hw1
              go_wp2_with fail
              go_ret
              exact ⟨rfl, K4.out⟩
            · have v5 : decide (wider ≤ (f : Int)) = false := decide_eq_false hw1
              by_cases hw2 : 64 < wider
              · have v6 : decide (64 < wider) = true := decide_eq_true hw2
                go_wp2_with fail
                go_ret
                exact ⟨rfl, K4.out⟩
              · have v6 : decide (64 < wider) = false := decide_eq_false hw2
                have GW := Lib.hid (give_wider HE.out (show (f : Int) ≤ wider by omega) (by omega))
                have CH := Lib.hid (cheapest GW.out (P.out.wider (show f ≤ wider.toNat by omega)))
                have MW := Lib.hid (make_any (fan := wider) (HV.out.below K4.out))
                clear hw1 hw2
                go_wp2_with fail
                refine MW.out.mono ?_
                rintro e w5 ⟨l2, s2, rfl, st2, hs2, k5⟩
                rw [if_pos GW.out] at hs2
                rw [GW.out]
                have K5 := Lib.hid (K4.out.trans (k5.mono K4.out.size))
                have HS2 := Lib.hid hs2
                have CW := Lib.hid (cost_ok (fan := wider) (HV.out.below K5.out) st2)
                obtain ⟨l2a, l2c, rfl, _, _⟩ := st2.form
                clear st2 hs2 k5 MW
                go_wp2_with fail
                refine CW.out.mono ?_
                rintro e w6 ⟨x2, E2, rfl, hE2, hx2, k6⟩
                have z2 : E2 = 0 := by
                  rcases hE2 with ⟨z, _⟩ | ⟨_, _, z⟩ | ⟨_, z, _⟩
                  · exact absurd GW.out z
                  · exact z
                  · refine absurd ?_ z
                    rw [HS2.out]
                    exact mk_plan GW.out
                subst z2
                rw [if_pos rfl] at hx2
                have K6 := Lib.hid (K5.out.trans (k6.mono K5.out.size))
                have key := CH.out
                rw [← HS2.out, ← hx2, ← HS1.out] at key
                have key1 : x2 ≤ C := by
                  have := key.1
                  rw [HS1.out] at this
                  rw [HC.out]
                  exact this
                have n1 : decide (x2 ≤ C) = true := decide_eq_true key1
                have n2 : decide ((s2.length : Int) ≤ (ss.length : Int)) = true := decide_eq_true (by have := key.2; omega)
                have n3 : decide (s2.length ≤ ss.length) = true := decide_eq_true key.2
                clear hE2 hx2 k6 CW key key1
                go_wp2_with (go_at_call 23; refine (NU.out _).mono ?_; rintro e w' ⟨rfl, rfl⟩)
                go_ret
                exact ⟨rfl, K6.out⟩
  · generalize givE W fan = E at *
    have t1 : decide (E = 0) = false := decide_eq_false hE
    have t2 : (E == 0) = false := by simpa using hE
    have t3 : (E != 0) = true := by simpa using hE
    clear hE
    go_enter Try.func9, Try.ntmps9
    go_wp2_with (go_at_call 24; refine GV.out.mono ?_; rintro e w' ⟨rfl, rfl⟩)
    go_ret
    exact ⟨rfl, Below.refl _ _⟩
end Go.Proofs.Ythajgfldjjgkiaa
