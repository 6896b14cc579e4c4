/- PlanCheapest. -/
import Derived.Test.YthajgfldjjgkiaaHq
import Derived.Test.YthajgfldjjgkiaaLj
import Derived.Test.YthajgfldjjgkiaaGn
namespace Go.Proofs.Ythajgfldjjgkiaa
open Go.RowKit
set_option maxRecDepth 100000

set_option maxHeartbeats 16000000 in
theorem cheapest_law {w : World} {v vs : Value} {W : List Int} {fan : Int} {ss : List Stp} (hv : SlI w v W) (hs : StAt w vs ss) : Calls Try.prog 10 #[v, .int .i64 fan, vs] w (RetTrue w) := by
  have HV := Lib.hid hv
  have HS := Lib.hid hs
  have MK := Lib.hid (make_any (fan := fan) hv)
  obtain ⟨a, c, rfl, hc, hc2⟩ := hv.form
  obtain ⟨sa, sc, rfl, hsc, hsc2⟩ := hs.form
  clear hv hs
  by_cases hl : 2048 < W.length
  · have t1 : decide (2048 < (W.length : Int)) = true := decide_eq_true (by omega)
    go_enter Try.func10, Try.ntmps10
    go_wp2_with fail
    go_ret
    exact ⟨rfl, Below.refl _ _⟩
  have t1 : decide (2048 < (W.length : Int)) = false := decide_eq_false (by omega)
  by_cases hl2 : 2048 < ss.length
  · have t2 : decide (2048 < (ss.length : Int)) = true := decide_eq_true (by omega)
    go_enter Try.func10, Try.ntmps10
    go_wp2_with fail
    go_ret
    exact ⟨rfl, Below.refl _ _⟩
  have t2 : decide (2048 < (ss.length : Int)) = false := decide_eq_false (by omega)
  have HL2 := Lib.hid (show ss.length ≤ 2048 by omega)
  have GR := Lib.hid (givE_range W fan)
  clear hl hl2
  go_enter Try.func10, Try.ntmps10
  go_wp2_with fail
  refine MK.out.mono ?_
  rintro e w1 ⟨l, s1, rfl, st1, hs1, k1⟩
  have ST1 := Lib.hid st1
  have HS1 := Lib.hid hs1
  have K1 := Lib.hid k1
  have GV := Lib.hid (given_ok (fan := fan) (HV.out.below k1))
  obtain ⟨la, lc, rfl, _, _⟩ := st1.form
  clear st1 hs1 k1 MK
  by_cases hE : givE W fan = 0
  · have HE := Lib.hid hE
    rw [if_pos hE] at HS1
    rw [hE] at GV ⊢
    have NU := Lib.hid (fun W : World => num_ok 0 (by omega) (by omega) W)
    have P1 := Lib.hid (mk_plan hE)
    rw [← HS1.out] at P1
    clear hE
    have CO := Lib.hid (cost_ok (fan := fan) (HV.out.below K1.out) ST1.out)
    go_upto_region 9 with first | (go_at_call 24; refine GV.out.mono ?_; rintro e w' ⟨rfl, rfl⟩) | (go_at_call 23; refine (NU.out _).mono ?_; rintro e w' ⟨rfl, rfl⟩)
    go_wp2_with fail
    refine CO.out.mono ?_
    rintro e w2 ⟨x1, E1, rfl, hE1, hx1, k2⟩
    have z1 : E1 = 0 := by
      rcases hE1 with ⟨z, _⟩ | ⟨_, _, z⟩ | ⟨_, z, _⟩
      · exact absurd HE.out z
      · exact z
      · exact absurd P1.out z
    subst z1
    rw [if_pos rfl] at hx1
    have X1 := Lib.hid hx1
    have K2 := Lib.hid (K1.out.trans (k2.mono K1.out.size))
    have RC1 := Lib.hid (rcost_ok (fan := fan) (HV.out.below K2.out) (ST1.out.below k2))
    clear hE1 hx1 k2 CO
    go_wp2_with fail
    refine RC1.out.mono ?_
    rintro e w3 ⟨y1, E2, rfl, hE2, hy1, k3⟩
    have z2 : E2 = 0 := by
      rcases hE2 with ⟨z, _⟩ | ⟨_, _, z⟩ | ⟨_, z, _⟩
      · exact absurd HE.out z
      · exact z
      · exact absurd P1.out z
    subst z2
    rw [if_pos rfl] at hy1
    have XY := Lib.hid (show x1 = y1 by rw [X1.out, hy1]; exact P1.out.cost (givE_ok HE.out).2.2.1)
    have K3 := Lib.hid (K2.out.trans (k3.mono K2.out.size))
    have RC2 := Lib.hid (rcost_ok (fan := fan) (HV.out.below K3.out) (HS.out.below K3.out))
    clear hE2 hy1 k3 RC1
    obtain rfl := XY.out
    clear XY
    go_wp2_with fail
    refine RC2.out.mono ?_
    rintro e w4 ⟨y2, E3, rfl, hE3, hy2, k4⟩
    have K4 := Lib.hid (K3.out.trans (k4.mono K3.out.size))
    have n1 : decide (x1 = x1) = true := decide_eq_true rfl
    have n2 : (x1 == x1) = true := beq_self_eq_true _
    have n3 : (x1 != x1) = false := by simp
    by_cases h3 : E3 = 0
    · subst h3
      rw [if_pos rfl] at hy2
      obtain ⟨_, p3⟩ := hE3.ok rfl
      have key := cheapest HE.out p3
      rw [← HS1.out, p3.cost (givE_ok HE.out).2.2.1, ← hy2, ← X1.out] at key
      have u1 : decide (x1 ≤ y2) = true := decide_eq_true key.1
      have u2 : decide ((s1.length : Int) ≤ (ss.length : Int)) = true := decide_eq_true (by omega)
      have u3 : decide (s1.length ≤ ss.length) = true := decide_eq_true key.2
      clear hE3 hy2 k4 RC2 p3 key
      go_wp2_with (go_at_call 23; refine (NU.out _).mono ?_; rintro e w' ⟨rfl, rfl⟩)
      go_ret
      exact ⟨rfl, K4.out⟩
    · have u1 : decide (E3 = 0) = false := decide_eq_false h3
      have u2 : (E3 == 0) = false := by simpa using h3
      have u3 : (E3 != 0) = true := by simpa using h3
      clear hE3 hy2 k4 RC2 h3
      go_wp2_with (go_at_call 23; refine (NU.out _).mono ?_; rintro e w' ⟨rfl, rfl⟩)
      go_ret
      exact ⟨rfl, K4.out⟩
  · rw [if_neg hE] at HS1
    obtain rfl := HS1.out
    have NU := Lib.hid (fun w : World => num_ok (givE W fan) (by have := GR.out; omega) (by have := GR.out; omega) w)
    generalize givE W fan = E at *
    have u1 : decide (E = 0) = false := decide_eq_false hE
    have u2 : (E == 0) = false := by simpa using hE
    have u3 : (E != 0) = true := by simpa using hE
    have n1 : decide (E = E) = true := decide_eq_true rfl
    have n2 : (E == E) = true := beq_self_eq_true _
    have n3 : (E != E) = false := by simp
    clear hE HS1 GR
    go_wp2_with first | (go_at_call 24; refine GV.out.mono ?_; rintro e w' ⟨rfl, rfl⟩) | (go_at_call 23; refine (NU.out _).mono ?_; rintro e w' ⟨rfl, rfl⟩)
    go_ret
    exact ⟨by simp, K1.out⟩
end Go.Proofs.Ythajgfldjjgkiaa
