/- PlanWhole: every Make's plan is whole. -/
import Derived.Test.YthajgfldjjgkiaaFw
import Derived.Test.YthajgfldjjgkiaaDw
import Derived.Test.YthajgfldjjgkiaaHm
namespace Go.Proofs.Ythajgfldjjgkiaa
open Go.RowKit
set_option maxRecDepth 100000

theorem need_div {W : List Int} {fan : Int} {ss : List Stp} (hE : givE W fan = 0) (hs : ss = mkAll W fan.toNat) : (decide (1 < (W.length : Int)) = false ∧ ss.length = 1) ∨ (decide (1 < (W.length : Int)) = true ∧ ((W.length : Int) - 1 + fan - 2) / (fan - 1) = (ss.length : Int)) := by
  obtain ⟨e1, e2, e3, e4, hW⟩ := givE_ok hE
  subst hs
  by_cases h : W.length = 1
  · left
    refine ⟨decide_eq_false (by omega), ?_⟩
    unfold mkAll
    rw [if_pos h]; rfl
  · right
    obtain ⟨f, r, q, hf, f2, f64, n1, r1, l1, l2, P, each⟩ := mk_nums hE (by omega)
    have efn : fan.toNat = f := by omega
    rw [efn, l2]
    refine ⟨decide_eq_true (by omega), ?_⟩
    unfold need
    have e5 : (W.length : Int) - 1 + fan - 2 = ((W.length + f - 3 : Nat) : Int) := by omega
    have e6 : fan - 1 = ((f - 1 : Nat) : Int) := by omega
    rw [e5, e6]
    rfl
theorem mk_lens {W : List Int} {fan : Int} {ss : List Stp} (hE : givE W fan = 0) (hs : ss = mkAll W fan.toNat) (k : Nat) (h : k < ss.length) : ((inOf ss k).length : Int) ≤ fan ∧ (decide (0 < (k : Int)) = false ∨ (decide (0 < (k : Int)) = true ∧ ((inOf ss k).length : Int) = fan)) := by
  obtain ⟨e1, e2, e3, e4, hW⟩ := givE_ok hE
  rw [inOf_get h]
  subst hs
  by_cases h1 : W.length = 1
  · have hl : (mkAll W fan.toNat).length = 1 := by unfold mkAll; rw [if_pos h1]; rfl
    have := (mk_plan hE).each k h
    have := this.hi
    exact ⟨by omega, Or.inl (decide_eq_false (by omega))⟩
  · obtain ⟨f, r, q, hf, f2, f64, n1, r1, l1, l2, P, each⟩ := mk_nums hE (by omega)
    have efn : fan.toNat = f := by omega
    rw [efn] at h
    have := each k h
    have e : (mkAll W fan.toNat)[k].inn.length = (mkAll W f)[k].inn.length := by simp only [efn]
    rw [e, this]
    by_cases h0 : k = 0
    · rw [if_pos h0]; exact ⟨by omega, Or.inl (decide_eq_false (by omega))⟩
    · rw [if_neg h0]; exact ⟨by omega, Or.inr ⟨decide_eq_true (by omega), by omega⟩⟩
theorem StAt.steps {w : World} {v : Value} {ss : List Stp} (h : StAt w v ss) (h0 : 0 < ss.length) : ∃ (b off c : Nat), v = .slice (some ⟨b, off, none⟩) ss.length c ∧ b < w.heap.size ∧ ∀ k, k < ss.length → ∃ (xa : Option Addr) (xl xc : Nat), xl = (inOf ss k).length ∧ w.cell? ⟨b, off + k * 2, none⟩ = some (.slice xa xl xc) ∧ w.cell? ⟨b, off + k * 2 + 1, none⟩ = some (.int .i64 (ss.getD k ⟨[], 0⟩).out) ∧ SlI w (.slice xa xl xc) (inOf ss k) ∧ xl ≤ 9223372036854775807 := by
  obtain ⟨b, off, c, fv, ev, _, hb, hg⟩ := h.get (by rintro rfl; simp at h0)
  refine ⟨b, off, c, ev, hb, fun k hk => ?_⟩
  obtain ⟨g1, g2, g3⟩ := hg k hk
  obtain ⟨xa, xc, hx, y1, y2⟩ := g3.form
  rw [hx] at g1 g3
  rw [inOf_get hk]
  refine ⟨xa, ss[k].inn.length, xc, rfl, g1, ?_, g3, by omega⟩
  rw [Nat.add_assoc, g2]
  simp [hk]
theorem SlI.pick {w : World} {xa : Option Addr} {xl xc i : Nat} {l : List Int} (h : SlI w (.slice xa xl xc) l) (hl : xl = l.length) (hi : i < l.length) (hp : ∀ x ∈ l, 0 ≤ x) : ∃ xb xo rn : Nat, xa = some ⟨xb, xo, none⟩ ∧ xb < w.heap.size ∧ w.cell? ⟨xb, xo + i, none⟩ = some (.int .i64 (rn : Int)) ∧ l[i] = (rn : Int) := by
  obtain ⟨b, off, c, e, _, hb, hg⟩ := SlI.ne h (by rintro rfl; exact absurd hi (Nat.not_lt_zero _))
  injection e with e1 _ _
  have := hp _ (List.getElem_mem hi)
  have e2 : l[i] = ((l[i].toNat : Nat) : Int) := by omega
  exact ⟨b, off, l[i].toNat, e1, hb, by rw [← e2]; exact hg i hi, e2⟩
theorem PlanOk.outs {n fan : Nat} {ss : List Stp} (p : PlanOk n fan ss) {k : Nat} (h : k < ss.length) : (ss.getD k ⟨[], 0⟩).out = ((n + k : Nat) : Int) := by
  have := (p.each k h).out
  rw [← this]
  simp [h]
def FiR (w : World) (g T n : Nat) (v11 : Value) (wr : World) : Prop := ∃ j : Nat, v11 = .int .i64 (j : Int) ∧ j ≤ n ∧ CoAt w wr g T T (fillF j)
def HoR (w : World) (g T n : Nat) (ss : List Stp) (v12 : Value) (wr : World) : Prop := ∃ k : Nat, v12 = .int .i64 (k : Int) ∧ k ≤ ss.length ∧ CoAt w wr g T T (hdF n ss k 0)
def HiR (w : World) (g T n : Nat) (ss : List Stp) (k : Nat) (v13 : Value) (wr : World) : Prop := ∃ i : Nat, v13 = .int .i64 (i : Int) ∧ i ≤ (inOf ss k).length ∧ CoAt w wr g T T (hdF n ss k i)
set_option maxHeartbeats 16000000 in
theorem whole_law {w : World} {v : Value} {W : List Int} {fan : Int} (hv : SlI w v W) : Calls Try.prog 4 #[v, .int .i64 fan] w (RetTrue w) := by
  have HV := Lib.hid hv
  have GV := Lib.hid (given_ok (fan := fan) hv)
  have MK := Lib.hid (make_any (fan := fan) hv)
  obtain ⟨a, c, rfl, hc, hc2⟩ := hv.form
  clear hv
  by_cases hE : givE W fan = 0
  · by_cases hl : 2048 < W.length
    · have t1 : decide (2048 < (W.length : Int)) = true := decide_eq_true (by omega)
      rw [hE] at GV
      go_enter Try.func4, Try.ntmps4
      go_wp2_with (go_at_call 24; refine GV.out.mono ?_; rintro e w' ⟨rfl, rfl⟩)
      go_ret
      exact ⟨rfl, Below.refl _ _⟩
    · have t1 : decide (2048 < (W.length : Int)) = false := decide_eq_false (by omega)
      have HL := Lib.hid (show W.length ≤ 2048 by omega)
      have HE := Lib.hid hE
      rw [hE] at GV
      clear hl hE
      go_enter Try.func4, Try.ntmps4
      go_upto_region 4 with (go_at_call 24; refine GV.out.mono ?_; rintro e w' ⟨rfl, rfl⟩)
      go_wp2_with fail
      refine MK.out.mono ?_
      rintro e w1 ⟨l, ss, rfl, st1, hs1, k1⟩
      rw [if_pos HE.out] at hs1
      have HS1 := Lib.hid hs1
      have K1 := Lib.hid k1
      have hp := mk_plan HE.out
      rw [← hs1] at hp
      have P := Lib.hid hp
      have z1 : ss.length ≤ 2048 := by have := hp.few; have := HL.out; omega
      have z2 : 0 < ss.length := hp.some
      have z3 : 1 ≤ W.length := (givE_ok HE.out).2.2.1
      have z4 : W.length ≤ 2048 := HL.out
      obtain ⟨zf1, zf2, _⟩ := givE_ok HE.out
      have ND := Lib.hid (need_div HE.out hs1)
      obtain ⟨b1, o1, c1, rfl, l1, sg⟩ := st1.steps z2
      have SG := Lib.hid sg
      have ST1 := Lib.hid st1
      rw [HE.out]
      have NU := Lib.hid (fun W : World => num_ok 0 (by omega) (by omega) W)
      obtain ⟨T, hT⟩ : ∃ T, T = W.length + ss.length := ⟨_, rfl⟩
      have HT := Lib.hid hT
      have HT2 := Lib.hid (show (W.length : Int) + (ss.length : Int) = (T : Int) by omega)
      have T0 : 0 < T := by omega
      have T1 : T ≤ 131072 := by omega
      clear hs1 k1 hp st1 MK hT sg
      have n1 : ((ss.length : Int) == (ss.length : Int)) = true := beq_self_eq_true _
      have key : ∀ (K : Act → World → Prop) (x : Nat), True := fun _ _ => trivial
      go_upto_region 7 with fail
      rcases ND.out with ⟨nd1, nd2⟩ | ⟨nd1, nd2⟩
      case' inl =>
        have nd3 : decide ((ss.length : Int) = 1) = true := decide_eq_true (by omega)
        have nd4 : ((ss.length : Int) == 1) = true := by rw [nd2]; rfl
        have nd5 : ((ss.length : Int) != 1) = false := by rw [nd2]; rfl
        clear ND nd2
        go_upto_region 11 with (go_at_call 23; refine (NU.out _).mono ?_; rintro e w' ⟨rfl, rfl⟩)
        clear nd1 nd3 nd4 nd5
      case' inr =>
        clear ND
        go_upto_region 11 with (go_at_call 23; refine (NU.out _).mono ?_; rintro e w' ⟨rfl, rfl⟩)
        clear nd1 nd2
      all_goals
        go_wp2_with (at_make; refine wp_mkL rfl _ _ 22 3 rfl (.int .i64 0) 1 8 Try.underlying22 info3 .i64 .i64 _ T HT2.out rfl rfl (by omega) (by omega) _ (iV_zero T) ?_; intro w2 hb2 hbel2)
        have ST := Lib.hid (show FiR w1 w1.heap.size T W.length (.int .i64 0) w2 from by
          refine ⟨0, rfl, Nat.zero_le _, ?_, hbel2, Nat.le_refl _⟩
          have : nL (fillF 0) T = List.replicate T 0 := (nL_congr (fun i _ => by unfold fillF; rw [if_neg (by omega)])).trans (nL_zero T)
          rw [this]
          exact hb2.ownI (by simp) (by omega))
        clear hb2 hbel2
        have GG := Lib.hid (Nat.le_refl w1.heap.size)
        obtain ⟨g, hg⟩ : ∃ g, g = w1.heap.size := ⟨_, rfl⟩
        rw [← hg] at ST
        rw [← hg]
        clear hg GG
        go_loopw [11] (fun v11 wr => FiR w1 g T W.length v11 wr) (fun v11 _ => W.length - (intOf v11).toNat)
        case atStart => exact ST.out
        case round =>
          clear ST
          obtain ⟨j, rfl, hj, hco⟩ := hrel
          have C := Lib.hid hco
          clear hco
          by_cases hlt : j < W.length
          · have u1 : decide ((j : Int) < (W.length : Int)) = true := decide_eq_true (by omega)
            have u1n : decide (j < W.length) = true := decide_eq_true hlt
            have jT : j < T := by have := HT.out; omega
            have cn := C.out.cell j jT
            have fz := C.out.own.free j
            have lg := C.out.own.lt'
            have NX := Lib.hid (C.out.set j 1)
            rw [fillF_next] at NX
            have ij : (j : Int) < (T : Int) := by omega
            have ij0 : (0 : Int) ≤ (j : Int) := by omega
            clear C
            go_wp2_with fail
            go_roundw
            case rel => exact ⟨j + 1, by congr 1, hlt, NX.out⟩
            case measure => simp [intOf]; omega
          · have u1 : decide ((j : Int) < (W.length : Int)) = false := decide_eq_false (by omega)
            have u1n : decide (j < W.length) = false := decide_eq_false hlt
            have SO := Lib.hid (show HoR w1 g T W.length ss (.int .i64 0) wr from ⟨0, rfl, Nat.zero_le _, by
              rw [← hdF_start, show W.length = j by omega]; exact C.out⟩)
            clear C
            go_wp2_with fail
            clear u1 u1n hlt hj
            go_loopw [12] (fun v12 wr => HoR w1 g T W.length ss v12 wr) (fun v12 _ => ss.length - (intOf v12).toNat)
            case atStart => exact SO.out
            case round =>
              clear SO
              obtain ⟨k, rfl, hk, hco⟩ := hrel
              have C := Lib.hid hco
              clear hco
              by_cases hlt : k < ss.length
              · have u1 : decide ((k : Int) < (ss.length : Int)) = true := decide_eq_true (by omega)
                have u1n : decide (k < ss.length) = true := decide_eq_true hlt
                have ik : (k : Int) < (ss.length : Int) := by omega
                have ik0 : (0 : Int) ≤ (k : Int) := by omega
                obtain ⟨xa, xl, xc, hxl, q1, q2, xs, xm⟩ := SG.out k hlt
                obtain ⟨o, ho⟩ : ∃ o, o = W.length + k := ⟨_, rfl⟩
                have HO := Lib.hid ho
                have ho2 : (W.length : Int) + (k : Int) = (o : Int) := by omega
                rw [P.out.outs hlt, ← ho] at q2
                have XS := Lib.hid xs
                have HXL := Lib.hid hxl
                have HLE := (mk_lens HE.out HS1.out k hlt).1
                have HEQ := Lib.hid (mk_lens HE.out HS1.out k hlt).2
                rw [← hxl] at HLE HEQ
                have oT : o < T := by have := HT.out; omega
                have y1 : decide (fan < (xl : Int)) = false := decide_eq_false (by omega)
                have y2 : decide ((o : Int) = (o : Int)) = true := decide_eq_true rfl
                have y3 : ((o : Int) == (o : Int)) = true := beq_self_eq_true _
                have y4 : ((o : Int) != (o : Int)) = false := by simp
                have w1' := ((bcell C.out.bel).1 b1 _ l1).trans q1
                have w2' := ((bcell C.out.bel).1 b1 _ l1).trans q2
                have lw := Nat.lt_of_lt_of_le l1 C.out.bel.size
                have Q1 := Lib.hid q1
                have SI := Lib.hid (show HiR w1 g T W.length ss k (.int .i64 0) wr from ⟨0, rfl, Nat.zero_le _, C.out⟩)
                clear hxl xs q1 q2 ho C
                rcases HEQ.out with h0 | ⟨h0, hfx⟩
                case' inl =>
                  have h1 : decide (0 < k) = false := decide_eq_false (by have := of_decide_eq_false h0; omega)
                  clear HEQ
                  go_upto_region 21 with fail
                case' inr =>
                  have h1 : decide (0 < k) = true := decide_eq_true (by have := of_decide_eq_true h0; omega)
                  have f1 : decide ((xl : Int) = fan) = true := decide_eq_true hfx
                  have f2 : ((xl : Int) == fan) = true := by rw [hfx]; exact beq_self_eq_true _
                  have f3 : ((xl : Int) != fan) = false := by rw [hfx]; simp
                  clear HEQ hfx
                  go_upto_region 21 with fail
                  clear f1 f2 f3
                all_goals
                  clear h0 h1 w1' w2' lw y1 y2 y3 y4
                  go_wp2_with fail
                  go_loopw [13] (fun v13 wr => HiR w1 g T W.length ss k v13 wr) (fun v13 _ => xl - (intOf v13).toNat)
                  case atStart => exact SI.out
                  case round =>
                    clear SI
                    obtain ⟨i, rfl, hi, hco⟩ := hrel
                    have C := Lib.hid hco
                    clear hco
                    rw [← HXL.out] at hi
                    have w1' := ((bcell C.out.bel).1 b1 _ l1).trans Q1.out
                    have lw := Nat.lt_of_lt_of_le l1 C.out.bel.size
                    by_cases hit : i < xl
                    · have u2 : decide ((i : Int) < (xl : Int)) = true := decide_eq_true (by omega)
                      have u2n : decide (i < xl) = true := decide_eq_true hit
                      have ii : (i : Int) < (xl : Int) := by omega
                      have ii0 : (0 : Int) ≤ (i : Int) := by omega
                      have hil : i < (inOf ss k).length := by rw [← HXL.out]; exact hit
                      obtain ⟨xb, xo, rn, hxa, l5, q5, hrn⟩ := SlI.pick (XS.out.below C.out.bel) HXL.out hil (fun x hx => by
                        have := (P.out.each k hlt).lt x (by rw [← inOf_get hlt]; exact hx)
                        exact this.1)
                      subst hxa
                      have D := hd_at P.out z3 (by omega) hlt hil hrn
                      have cr := C.out.cell rn (by have := D.lt; omega)
                      have co := C.out.cell o oT
                      have fr := C.out.own.free rn
                      have fo := C.out.own.free o
                      have lg := C.out.own.lt'
                      have rlt : rn < o := by have := HO.out; have := D.lt; omega
                      have d1 := D.cr
                      have d2 := D.co
                      have d3 := D.up
                      have d4 := D.next
                      rw [← HO.out] at d2 d3 d4
                      have NX := Lib.hid (fun m => (((C.out.below (below_drewN wr m)).set o (hdF W.length ss k i o + hdF W.length ss k i rn)).set rn 0))
                      rw [d4] at NX
                      clear D d4 hrn
                      generalize hdF W.length ss k i rn = x at *
                      generalize hdF W.length ss k i o = y at *
                      have x1 : decide (x = 0) = false := decide_eq_false (by omega)
                      have x2 : (x == 0) = false := by simpa using (show ¬ x = 0 by omega)
                      have x3 : decide ((rn : Int) < 0) = false := decide_eq_false (by omega)
                      have x4 : decide ((o : Int) ≤ (rn : Int)) = false := decide_eq_false (by omega)
                      have x5 : decide (o ≤ rn) = false := decide_eq_false (by omega)
                      have cr' : wr.drew.cell? ⟨g, rn, none⟩ = _ := cr
                      have co' : wr.drew.cell? ⟨g, o, none⟩ = _ := co
                      have fo' : wr.drew.frozen? ⟨g, o, none⟩ = false := fo
                      have fr' : wr.drew.frozen? ⟨g, rn, none⟩ = false := fr
                      have io : (o : Int) < (T : Int) := by omega
                      have io0 : (0 : Int) ≤ (o : Int) := by omega
                      have ir : (rn : Int) < (T : Int) := by omega
                      have ir0 : (0 : Int) ≤ (rn : Int) := by omega
                      go_wp2_with fail
                      go_region
                      all_goals
                        go_wp2_with fail
                        go_roundw
                        case rel => exact ⟨i + 1, by congr 1, by rw [← HXL.out]; exact hit, NX.out 1⟩
                        case measure => simp [intOf]; omega
                    · have u2 : decide ((i : Int) < (xl : Int)) = false := decide_eq_false (by omega)
                      have u2n : decide (i < xl) = false := decide_eq_false hit
                      have NX := Lib.hid (show HoR w1 g T W.length ss (.int .i64 ((k : Int) + 1)) wr from ⟨k + 1, by congr 1, hlt, by
                        rw [← hd_next hlt, ← HXL.out, show xl = i by omega]; exact C.out⟩)
                      clear C
                      go_wp2_with fail
                      go_roundw
                      case rel => exact NX.out
                      case measure => simp [intOf]; omega
              · have u1 : decide ((k : Int) < (ss.length : Int)) = false := decide_eq_false (by omega)
                have u1n : decide (k < ss.length) = false := decide_eq_false hlt
                have hke : k = ss.length := by omega
                obtain ⟨t, ht⟩ : ∃ t, T = t + 1 := ⟨T - 1, by omega⟩
                have KW := Lib.hid (K1.out.trans (C.out.bel.mono K1.out.size))
                have CK := Lib.hid (check_ok (fan := fan) (HV.out.below KW.out) (ST1.out.below C.out.bel))
                go_upto_region 30 with (go_at_call 13; refine CK.out.mono ?_; rintro e w5 ⟨E, rfl, hE, k5⟩)
                obtain rfl : E = 0 := by
                  rcases hE with ⟨z, _⟩ | ⟨_, _, z⟩ | ⟨_, z, _⟩
                  · exact absurd HE.out z
                  · exact z
                  · exact absurd P.out z
                have cl := (C.out.below k5).cell t (by omega)
                have lg := (C.out.below k5).own.lt'
                have D := Lib.hid (show hdF W.length ss k 0 t = (W.length : Int) by
                  rw [hke, show t = W.length + ss.length - 1 by have := HT.out; omega]
                  exact hd_last P.out z3)
                rw [D.out] at cl
                have F := Lib.hid (KW.out.trans (k5.mono KW.out.size))
                have et : (T : Int) - 1 = (t : Int) := by omega
                have it : (t : Int) < (T : Int) := by omega
                have it0 : (0 : Int) ≤ (t : Int) := by omega
                have n2 : ((W.length : Int) == (W.length : Int)) = true := beq_self_eq_true _
                have n3 : decide ((W.length : Int) = (W.length : Int)) = true := decide_eq_true rfl
                clear hke ht D hE k5 CK C
                go_wp2_with (go_at_call 23; refine (NU.out _).mono ?_; rintro e w' ⟨rfl, rfl⟩)
                go_ret
                exact ⟨rfl, F.out⟩
  · generalize givE W fan = E at *
    have t1 : decide (E = 0) = false := decide_eq_false hE
    have t2 : (E == 0) = false := by simpa using hE
    have t3 : (E != 0) = true := by simpa using hE
    clear hE
    go_enter Try.func4, Try.ntmps4
    go_wp2_with (go_at_call 24; refine GV.out.mono ?_; rintro e w' ⟨rfl, rfl⟩)
    go_ret
    exact ⟨rfl, Below.refl _ _⟩
end Go.Proofs.Ythajgfldjjgkiaa
