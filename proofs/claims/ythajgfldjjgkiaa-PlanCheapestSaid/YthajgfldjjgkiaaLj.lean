/- PlanJudges: every Check, Cost, Depth, Load. -/
import Derived.Test.YthajgfldjjgkiaaRd
import Derived.Test.YthajgfldjjgkiaaTw
import Derived.Test.YthajgfldjjgkiaaLm
namespace Go.Proofs.Ythajgfldjjgkiaa
open Go.RowKit
set_option maxRecDepth 100000

theorem run_feq {x : Nat} (h : Ieee.double.order x x = some .eq) (t : TypeId) (w : World) : (binOp BinOp.eql t (.float .f64 x) (.float .f64 x)).run Try.prog w = .ok (.bool true) w := by
  have h2 : FloatKind.f64.format.order x x = some .eq := h
  simp [binOp, Op.floatCmp, h2]
theorem PlanOk.cost {W : List Int} {fan : Nat} {ss : List Stp} (p : PlanOk W.length fan ss) (hn : 1 ≤ W.length) : costF W ss ss.length = sumZ (kw W ss) W.length := (p.inv hn ss.length (Nat.le_refl _)).cost
theorem sl_of_roomy {w : World} {g : Nat} {W : List Int} (b1 : BlkAt w g 3 (iV (rmM W 4))) (h : W.length ≤ 1000000) : SlI w (.slice (some ⟨g, 0, none⟩) W.length (W.length + 4)) W :=
  b1.sl (by omega) (by omega) _ (fun j u hu => by
    have hj : j < W.length := by have := (List.getElem?_eq_some_iff.1 hu).1; rw [iV_len] at this; exact this
    rw [iV_at W j hj] at hu
    unfold iV
    rw [List.getElem?_map, rmM_low W 4 j hj]
    exact hu)
theorem quo_le4 {p q : Nat} (hp : p ≤ 4194304) (h0 : 0 < q) (hq : q ≤ 4194304) : Ieee.double.order (quoB p q) (quoB p q) = some .eq := quo_self (by omega) h0 (by omega)
set_option maxHeartbeats 16000000 in
theorem judges_law {w : World} {v vs : Value} {W : List Int} {fan : Int} {ss : List Stp} (hv : SlI w v W) (hs : StAt w vs ss) (hi : ∀ s ∈ ss, s.inn.length ≤ 17592186044416) :
    Calls Try.prog 3 #[v, .int .i64 fan, vs] w (RetTrue w) := by
  have HV := Lib.hid hv
  have HS := Lib.hid hs
  obtain ⟨a, c, rfl, hc, hc2⟩ := hv.form
  obtain ⟨sa, sc, rfl, hsc, hsc2⟩ := hs.form
  by_cases hl : 2048 < W.length
  · have t1 : decide (2048 < (W.length : Int)) = true := decide_eq_true (by omega)
    clear hv hs hi
    go_enter Try.func3, Try.ntmps3
    go_wp2_with fail
    go_ret
    exact ⟨rfl, Below.refl _ _⟩
  · have t1 : decide (2048 < (W.length : Int)) = false := decide_eq_false (by omega)
    by_cases hl2 : 2048 < ss.length
    · have t2 : decide (2048 < (ss.length : Int)) = true := decide_eq_true (by omega)
      clear hv hs hi hl hl2
      go_enter Try.func3, Try.ntmps3
      go_wp2_with fail
      go_ret
      exact ⟨rfl, Below.refl _ _⟩
    · have t2 : decide (2048 < (ss.length : Int)) = false := decide_eq_false (by omega)
      have RO := Lib.hid (roomy_ok hv (by omega))
      have HI := Lib.hid hi
      have HL := Lib.hid (show W.length ≤ 2048 by omega)
      have HL2 := Lib.hid (show ss.length ≤ 2048 by omega)
      clear hv hs hi hl hl2
      go_enter Try.func3, Try.ntmps3
      go_wp2_with fail
      refine RO.out.mono ?_
      rintro e w1 ⟨g, rfl, hg, b1, k1⟩
      have B1 := Lib.hid b1
      have K1 := Lib.hid k1
      have TW := Lib.hid (twin_ok (HS.out.below k1) (by have := HL2.out; omega) HI.out)
      clear hg b1 k1
      go_wp2_with fail
      refine TW.out.mono ?_
      rintro e w2 ⟨t, rfl, st2, k2⟩
      have B2 := Lib.hid (B1.out.below k2)
      have T2 := Lib.hid st2
      have K2 := Lib.hid (K1.out.trans (k2.mono K1.out.size))
      clear st2 k2 TW
      have CK := Lib.hid (check_ok (fan := fan) (sl_of_roomy B2.out (by have := HL.out; omega)) T2.out)
      go_wp2_with fail
      refine CK.out.mono ?_
      rintro e w3 ⟨E, rfl, hE, k3⟩
      have B3 := Lib.hid (B2.out.below k3)
      have T3 := Lib.hid (T2.out.below k3)
      have K3 := Lib.hid (K2.out.trans (k3.mono K2.out.size))
      have HE := Lib.hid hE
      clear k3 hE CK B2 T2
      have CO := Lib.hid (cost_ok (fan := fan) (sl_of_roomy B3.out (by have := HL.out; omega)) T3.out)
      go_wp2_with fail
      refine CO.out.mono ?_
      rintro e w4 ⟨x1, E1, rfl, hE1, hx1, k4⟩
      obtain rfl : E1 = E := hE1.unique HE.out
      have B4 := Lib.hid (B3.out.below k4)
      have T4 := Lib.hid (T3.out.below k4)
      have K4 := Lib.hid (K3.out.trans (k4.mono K3.out.size))
      have X1 := Lib.hid hx1
      clear k4 hE1 hx1 CO B3 T3
      have DE := Lib.hid (depth_ok (fan := fan) (sl_of_roomy B4.out (by have := HL.out; omega)) T4.out)
      go_wp2_with fail
      refine DE.out.mono ?_
      rintro e w5 ⟨x2, E2, rfl, hE2, hx2, k5⟩
      obtain rfl : E2 = E1 := hE2.unique HE.out
      have B5 := Lib.hid (B4.out.below k5)
      have T5 := Lib.hid (T4.out.below k5)
      have K5 := Lib.hid (K4.out.trans (k5.mono K4.out.size))
      have X2 := Lib.hid hx2
      clear k5 hE2 hx2 DE B4 T4
      have LO := Lib.hid (load_ok (fan := fan) (sl_of_roomy B5.out (by have := HL.out; omega)) T5.out)
      go_wp2_with fail
      refine LO.out.mono ?_
      rintro e w6 ⟨x3, E3, rfl, hE3, hx3, k6⟩
      obtain rfl : E3 = E2 := hE3.unique HE.out
      have B6 := Lib.hid (B5.out.below k6)
      have T6 := Lib.hid (T5.out.below k6)
      have K6 := Lib.hid (K5.out.trans (k6.mono K5.out.size))
      have X3 := Lib.hid hx3
      clear k6 hE3 hx3 LO B5 T5
      have SM := Lib.hid (sameS_ok T6.out (HS.out.below K6.out))
      rw [eqS_true rfl] at SM
      go_wp2_with fail
      refine SM.out.mono ?_
      rintro e w7 ⟨rfl, m7, hm7⟩
      have k7 : Below w6.heap.size w6 w7 := by rw [hm7]; exact below_drewN w6 m7
      have B7 := Lib.hid (B6.out.below k7)
      have K7 := Lib.hid (K6.out.trans (k7.mono K6.out.size))
      clear k7 hm7 SM B6 T6
      have KP := Lib.hid (kept_ok B7.out (HV.out.below K7.out) (by have := HL.out; omega))
      go_wp2_with fail
      refine KP.out.mono ?_
      rintro e w8 ⟨rfl, m8, hm8⟩
      have k8 : Below w7.heap.size w7 w8 := by rw [hm8]; exact below_drewN w7 m8
      have K8 := Lib.hid (K7.out.trans (k8.mono K7.out.size))
      clear k8 hm8 KP B7
      have RC := Lib.hid (rcheck_ok (fan := fan) (HV.out.below K8.out) (HS.out.below K8.out))
      go_wp2_with fail
      refine RC.out.mono ?_
      rintro e w9 ⟨E4, rfl, hE4, k9⟩
      obtain rfl : E4 = E3 := hE4.unique HE.out
      have K9 := Lib.hid (K8.out.trans (k9.mono K8.out.size))
      clear k9 hE4 RC
      have RK := Lib.hid (rcost_ok (fan := fan) (HV.out.below K9.out) (HS.out.below K9.out))
      go_wp2_with fail
      refine RK.out.mono ?_
      rintro e w10 ⟨y1, E5, rfl, hE5, hy1, k10⟩
      obtain rfl : E5 = E4 := hE5.unique HE.out
      have K10 := Lib.hid (K9.out.trans (k10.mono K9.out.size))
      have Y1 := Lib.hid hy1
      clear k10 hE5 hy1 RK
      have RD := Lib.hid (rdepth_ok (fan := fan) (HV.out.below K10.out) (HS.out.below K10.out))
      go_wp2_with fail
      refine RD.out.mono ?_
      rintro e w11 ⟨y2, E6, rfl, hE6, hy2, k11⟩
      obtain rfl : E6 = E5 := hE6.unique HE.out
      have K11 := Lib.hid (K10.out.trans (k11.mono K10.out.size))
      have Y2 := Lib.hid hy2
      clear k11 hE6 hy2 RD
      have RL := Lib.hid (rload_ok (fan := fan) (HV.out.below K11.out) (HS.out.below K11.out))
      go_wp2_with fail
      refine RL.out.mono ?_
      rintro e w12 ⟨p, q, E7, rfl, hE7, hp, hq, p4, q0, q4, k12⟩
      obtain rfl : E7 = E6 := hE7.unique HE.out
      have K12 := Lib.hid (K11.out.trans (k12.mono K11.out.size))
      have Z1 := Lib.hid (show x1 = y1 by
        rw [X1.out, Y1.out]
        by_cases e : E7 = 0
        · rw [if_pos e, if_pos e]
          obtain ⟨g0, g1⟩ := HE.out.ok e
          exact g1.cost (givE_ok g0).2.2.1
        · rw [if_neg e, if_neg e])
      have Z2 := Lib.hid (show x2 = y2 by rw [X2.out, Y2.out])
      have Z3 := Lib.hid (show x3 = quoB p q by
        rw [X3.out, hp, hq]
        by_cases e : E7 = 0
        · rw [if_pos e, if_pos e, if_pos e]
        · rw [if_neg e, if_neg e, if_neg e, quo_zero])
      have RG := Lib.hid HE.out.range
      have PP := Lib.hid p4
      have Q0 := Lib.hid q0
      have Q4 := Lib.hid q4
      clear k12 hE7 hp hq p4 q0 q4 RL
      obtain rfl := Z1.out
      obtain rfl := Z2.out
      obtain rfl := Z3.out
      have NU := Lib.hid (fun W : World => num_ok E7 (by have := RG.out.1; omega) (by have := RG.out.2; omega) W)
      have rq := fun w : World => run_quo (p := p) (q := q) (by have := PP.out; omega) Q0.out (by have := Q4.out; omega) 30 w
      have re := fun w : World => run_feq (quo_le4 PP.out Q0.out Q4.out) 30 w
      clear X1 X2 X3 Y1 Y2 Z1 Z2 Z3 HE
      have ee : decide (E7 = E7) = true := decide_eq_true rfl
      have ef : (E7 == E7) = true := beq_self_eq_true _
      have eg : (E7 != E7) = false := by simp
      go_wp2_with (go_at_call 23; refine (NU.out _).mono ?_; rintro e w' ⟨rfl, rfl⟩)
      go_ret
      exact ⟨by simp; exact quo_le4 PP.out Q0.out Q4.out, K12.out⟩
end Go.Proofs.Ythajgfldjjgkiaa
