/- PlanMakes: every Make. -/
import Derived.Test.YthajgfldjjgkiaaRw
namespace Go.Proofs.Ythajgfldjjgkiaa
open Go.RowKit
set_option maxRecDepth 100000

def RetTrue (w : World) (e : Ending) (w' : World) : Prop := e = .returned (.bool true) ∧ Below w.heap.size w w'
theorem need_le {n fan : Nat} (h : 2 ≤ fan) (hn : 2 ≤ n) : need n fan + 1 ≤ n := by
  obtain ⟨q, h1, h2⟩ := need_spec h hn
  have h3 : q ≤ (fan - 1) * q := Nat.le_mul_of_pos_left q (by omega)
  omega
theorem mkS_inn (W : List Int) (fan : Nat) : ∀ s i (h : i < (mkS W fan s).length), (mkS W fan s)[i].inn.length = tkn W.length fan i
  | 0, i, h => by simp [mkS] at h
  | s + 1, i, h => by
    rw [mkS_len] at h
    have hl := mkS_len W fan s
    by_cases e : i = s
    · subst e
      have : (mkS W fan (i + 1))[i]'(by rw [mkS_len]; exact h) = ⟨srt (pkL (mkA W fan i) (tkn W.length fan i)), ((W.length + i : Nat) : Int)⟩ := by
        simp only [mkS]
        rw [List.getElem_append_right (by omega)]
        simp [hl]
      rw [this, srt_len, pkL_len]
    · have hi : i < (mkS W fan s).length := by omega
      have : (mkS W fan (s + 1))[i]'(by rw [mkS_len]; exact h) = (mkS W fan s)[i] := by
        simp only [mkS]
        rw [List.getElem_append_left hi]
      rw [this]
      exact mkS_inn W fan s i hi
theorem mkAll_small {W : List Int} {fan : Nat} (hE : givE W fan = 0) : (mkAll W fan).length ≤ 65536 ∧ (mkAll W fan).length ≤ W.length ∧ ∀ i (h : i < (mkAll W fan).length), (mkAll W fan)[i].inn.length ≤ 64 := by
  obtain ⟨e1, e2, e3, e4, _⟩ := givE_ok hE
  unfold mkAll
  by_cases h1 : W.length = 1
  · simp only [if_pos h1]
    refine ⟨by simp, by simp; omega, fun i h => ?_⟩
    have : i = 0 := by simp at h; omega
    subst this
    simp
  · simp only [if_neg h1]
    have := need_le (n := W.length) (fan := fan) (by omega) (by omega)
    refine ⟨by rw [mkS_len]; omega, by rw [mkS_len]; omega, fun i h => ?_⟩
    rw [mkS_inn]
    have := tkn_le W.length fan i (by omega)
    omega
/-- What Make answers, whatever it is asked. -/
def AnyR (w : World) (W : List Int) (fan : Int) (e : Ending) (w' : World) : Prop := ∃ v ss, e = .returned (.tuple #[v, .int .i64 (givE W fan)]) ∧ StAt w' v ss ∧ ss = (if givE W fan = 0 then mkAll W fan.toNat else []) ∧ Below w.heap.size w w'
theorem make_any {w : World} {v : Value} {W : List Int} {fan : Int} (hv : SlI w v W) : Calls Try.prog 25 #[v, .int .i64 fan] w (AnyR w W fan) := by
  by_cases hE : givE W fan = 0
  · have hf : fan = (fan.toNat : Int) := by have := (givE_ok hE).1; omega
    have hE2 : givE W (fan.toNat : Int) = 0 := by rw [← hf]; exact hE
    have := make_ok hv hE2
    rw [← hf] at this
    refine this.mono ?_
    rintro e w' ⟨u, g, gi, rfl, h1, h2⟩
    obtain ⟨s1, _, s2⟩ := mkAll_small hE2
    exact ⟨u, _, by rw [hE], h1.st (by omega) (fun i hi => by have := s2 i hi; omega), by rw [if_pos hE], h2⟩
  · refine (make_not hv hE).mono ?_
    rintro e w' ⟨rfl, rfl⟩
    exact ⟨_, [], rfl, ⟨fun _ => .slice none 0 0, SlAt.nil w, fun i hi => absurd hi (Nat.not_lt_zero _)⟩, by rw [if_neg hE], Below.refl _ _⟩
theorem ref_any {w : World} {v : Value} {W : List Int} {fan : Int} (hv : SlI w v W) : Calls Try.prog 26 #[v, .int .i64 fan] w (AnyR w W fan) := by
  by_cases hE : givE W fan = 0
  · have hf : fan = (fan.toNat : Int) := by have := (givE_ok hE).1; omega
    have hE2 : givE W (fan.toNat : Int) = 0 := by rw [← hf]; exact hE
    have hR : Calls Try.prog 26 #[v, .int .i64 (fan.toNat : Int)] w (RefR w (mkAll W fan.toNat)) := by
      unfold mkAll
      by_cases h1 : W.length = 1
      · rw [if_pos h1]; exact ref_one hv hE2 h1
      · rw [if_neg h1]
        have := (givE_ok hE2).2.2.1
        exact ref_many hv hE2 (by omega)
    rw [← hf] at hR
    refine hR.mono ?_
    rintro e w' ⟨u, rfl, h1, h2⟩
    exact ⟨u, _, by rw [hE], h1, by rw [if_pos hE], h2⟩
  · refine (ref_not hv hE).mono ?_
    rintro e w' ⟨rfl, rfl⟩
    exact ⟨_, [], rfl, ⟨fun _ => .slice none 0 0, SlAt.nil w, fun i hi => absurd hi (Nat.not_lt_zero _)⟩, by rw [if_neg hE], Below.refl _ _⟩
theorem givE_range (W : List Int) (fan : Int) : 0 ≤ givE W fan ∧ givE W fan ≤ 100 := by unfold givE; split <;> (try split) <;> omega
set_option maxHeartbeats 4000000 in
theorem makes_law {w : World} {v : Value} {W : List Int} {fan : Int} (hv : SlI w v W) : Calls Try.prog 7 #[v, .int .i64 fan] w (RetTrue w) := by
  have HV := Lib.hid hv
  obtain ⟨a, c, rfl, hc, hc2⟩ := hv.form
  by_cases hl : 2048 < W.length
  · have t1 : decide (2048 < (W.length : Int)) = true := decide_eq_true (by omega)
    clear hv
    go_enter Try.func7, Try.ntmps7
    go_wp2_with fail
    go_ret
    exact ⟨rfl, Below.refl _ _⟩
  · have t1 : decide (2048 < (W.length : Int)) = false := decide_eq_false (by omega)
    have RO := Lib.hid (roomy_ok hv (by omega))
    have HL := Lib.hid (show W.length ≤ 2048 by omega)
    have G1 := Lib.hid (givE_range W fan)
    clear hv hl
    go_enter Try.func7, Try.ntmps7
    go_wp2_with fail
    refine RO.out.mono ?_
    rintro e w1 ⟨g, rfl, hg, b1, k1⟩
    have B1 := Lib.hid b1
    have K1 := Lib.hid k1
    have S1 := Lib.hid (show SlI w1 (.slice (some ⟨g, 0, none⟩) W.length (W.length + 4)) W from b1.sl (by omega) (by have := HL.out; omega) _ (fun j u hu => by
      have hj : j < W.length := by have := (List.getElem?_eq_some_iff.1 hu).1; rw [iV_len] at this; exact this
      rw [iV_at W j hj] at hu
      unfold iV
      rw [List.getElem?_map, rmM_low W 4 j hj]
      exact hu))
    have MK := Lib.hid (make_any (fan := fan) S1.out)
    clear hg b1 k1
    go_wp2_with fail
    refine MK.out.mono ?_
    rintro e w2 ⟨l, s2, rfl, st2, hs2, k2⟩
    have ST2 := Lib.hid st2
    have HS2 := Lib.hid hs2
    have K2 := Lib.hid k2
    have RF := Lib.hid (ref_any (fan := fan) ((HV.out.below K1.out).below k2))
    clear st2 hs2 k2
    go_wp2_with fail
    refine RF.out.mono ?_
    rintro e w3 ⟨m, s3, rfl, st3, hs3, k3⟩
    have ST3 := Lib.hid st3
    have SS := Lib.hid (sameS_ok (ST2.out.below k3) st3)
    rw [HS2.out, hs3] at SS
    rw [eqS_true rfl] at SS
    have K3 := Lib.hid k3
    clear st3 hs3 k3
    go_wp2_with fail
    refine SS.out.mono ?_
    rintro e w4 ⟨rfl, m4, hm4⟩
    have K4 := Lib.hid (show Below w3.heap.size w3 w4 from by rw [hm4]; exact below_drewN w3 m4)
    have KP := Lib.hid (kept_ok (((B1.out.below K2.out).below K3.out).below K4.out) ((((HV.out.below K1.out).below K2.out).below K3.out).below K4.out) (by have := HL.out; omega))
    clear hm4
    go_wp2_with fail
    refine KP.out.mono ?_
    rintro e w5 ⟨rfl, m5, hm5⟩
    have K5 := Lib.hid (show Below w4.heap.size w4 w5 from by rw [hm5]; exact below_drewN w4 m5)
    have NU := Lib.hid (num_ok (givE W fan) (by have := G1.out.1; omega) (by have := G1.out.2; omega) w5)
    clear hm5
    generalize givE W fan = E at *
    go_wp2_with fail
    refine NU.out.mono ?_
    rintro e w6 ⟨rfl, rfl⟩
    have FIN := Lib.hid (show Below w.heap.size w w5 from by
      have q2 := K1.out.trans (K2.out.mono K1.out.size)
      have q3 := q2.trans (K3.out.mono q2.size)
      have q4 := q3.trans (K4.out.mono q3.size)
      exact q4.trans (K5.out.mono q4.size))
    go_wp2_with fail
    go_ret
    exact ⟨by simp, FIN.out⟩
end Go.Proofs.Ythajgfldjjgkiaa
