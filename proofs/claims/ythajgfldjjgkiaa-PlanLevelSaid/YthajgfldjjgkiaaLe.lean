/- PlanLevel: every Make of runs of one weight. -/
import Derived.Test.YthajgfldjjgkiaaLv
import Derived.Test.YthajgfldjjgkiaaDw
import Derived.Test.YthajgfldjjgkiaaHm
namespace Go.Proofs.Ythajgfldjjgkiaa
open Go.RowKit
set_option maxRecDepth 100000

def fillZ (z : Int) (j : Nat) : Nat → Int := fun x => if x < j then z else 0
theorem fillZ_next (z : Int) (j : Nat) : updF (fillZ z j) j z = fillZ z (j + 1) := by
  funext x
  unfold updF fillZ
  by_cases e : x = j
  · rw [if_pos e, if_pos (by omega)]
  · rw [if_neg e]
    by_cases h : x < j
    · rw [if_pos h, if_pos (by omega)]
    · rw [if_neg h, if_neg (by omega)]
theorem fillZ_all (z : Int) (m : Nat) : nL (fillZ z m) m = List.replicate m z := by
  apply List.ext_getElem?
  intro j
  by_cases hj : j < m
  · rw [nL_at _ _ _ hj, List.getElem?_replicate, if_pos hj]
    unfold fillZ
    rw [if_pos hj]
  · rw [List.getElem?_eq_none (by rw [nL_len]; omega), List.getElem?_eq_none (by simp; omega)]
theorem bad_alike {z : Int} (h0 : 0 ≤ z) (h1 : z ≤ 1073741824) : ∀ m, badB (List.replicate m z) = false := fun m => by
  unfold badB
  rw [List.any_eq_false]
  intro x hx
  have := List.eq_of_mem_replicate hx
  subst this
  unfold bad
  simp
  omega
theorem give_alike {z fan : Int} {m : Nat} (h0 : 0 ≤ z) (h1 : z ≤ 1073741824) (f0 : 2 ≤ fan) (f1 : fan ≤ 64) (m0 : 1 ≤ m) (m1 : m ≤ 2048) : givE (List.replicate m z) fan = 0 := by
  unfold givE
  rw [if_neg (by omega), if_neg (by rw [bad_alike h0 h1, List.length_replicate]; rintro (h | h | h) <;> first | omega | cases h)]
/-- Make's plan is so deep. -/
theorem make_deep {z : Int} {m f d : Nat} (h0 : 0 ≤ z) (hf : 2 ≤ f) (m0 : 1 ≤ m) (hd : 1 ≤ d) (h1 : m ≤ f ^ d) (h2 : d = 1 ∨ f ^ (d - 1) < m) : mxN (fun i => cntF m (mkAll (List.replicate m z) f) i (mkAll (List.replicate m z) f).length) m = d := by
  have hl : (List.replicate m z).length = m := List.length_replicate
  by_cases e : m = 1
  · subst e
    have hd1 : d = 1 := by
      rcases h2 with h | h
      · exact h
      · have := Nat.pow_pos (n := d - 1) (show 0 < f by omega); omega
    subst hd1
    have ha : mkAll (List.replicate 1 z) f = [⟨[0], 1⟩] := if_pos rfl
    rw [ha]
    rfl
  · have ha : mkAll (List.replicate m z) f = mkS (List.replicate m z) f (need m f) := by unfold mkAll; rw [hl, if_neg e]
    have hm : 2 ≤ (List.replicate m z).length := by omega
    have key := alike_deep h0 (W := List.replicate m z) (fan := f) (fun x hx => List.eq_of_mem_replicate hx) hf hm
    rw [hl] at key
    rw [ha, mkS_len, key]
    have a := (deep_le hf (n := m) (by omega) d).2 h1
    rcases h2 with h | h
    · subst h
      have : ¬ far f (m + need m f - 1) ≤ 0 := fun q => by
        have := (deep_le hf (n := m) (by omega) 0).1 q
        rw [Nat.pow_zero] at this
        omega
      omega
    · have : ¬ far f (m + need m f - 1) ≤ d - 1 := fun q => by
        have := (deep_le hf (n := m) (by omega) (d - 1)).1 q
        omega
      omega
def FzR (w : World) (g T : Nat) (z : Int) (v8 : Value) (wr : World) : Prop := ∃ j : Nat, v8 = .int .i64 (j : Int) ∧ j ≤ T ∧ CoAt w wr g T T (fillZ z j)
def ReR (w : World) (f m : Nat) (v13 v14 : Value) (wr : World) : Prop := ∃ d p : Nat, v13 = .int .i64 (d : Int) ∧ v14 = .int .i64 (p : Int) ∧ p = f ^ d ∧ 1 ≤ d ∧ (d = 1 ∨ f ^ (d - 1) < m) ∧ p ≤ 131072 ∧ wr = w
set_option maxHeartbeats 8000000 in
theorem level_law {w : World} {n z fan : Int} : Calls Try.prog 5 #[.int .i64 n, .int .i64 z, .int .i64 fan] w (RetTrue w) := by
  by_cases c1 : n < 1
  · have t1 : decide (n < 1) = true := decide_eq_true c1
    go_enter Try.func5, Try.ntmps5
    go_wp2_with fail
    go_ret
    exact ⟨rfl, Below.refl _ _⟩
  have t1 : decide (n < 1) = false := decide_eq_false c1
  by_cases c2 : 2048 < n
  · have t2 : decide (2048 < n) = true := decide_eq_true c2
    go_enter Try.func5, Try.ntmps5
    go_wp2_with fail
    go_ret
    exact ⟨rfl, Below.refl _ _⟩
  have t2 : decide (2048 < n) = false := decide_eq_false c2
  by_cases c3 : z < 1
  · have t3 : decide (z < 1) = true := decide_eq_true c3
    go_enter Try.func5, Try.ntmps5
    go_wp2_with fail
    go_ret
    exact ⟨rfl, Below.refl _ _⟩
  have t3 : decide (z < 1) = false := decide_eq_false c3
  by_cases c4 : 1073741824 < z
  · have t4 : decide (1073741824 < z) = true := decide_eq_true c4
    go_enter Try.func5, Try.ntmps5
    go_wp2_with fail
    go_ret
    exact ⟨rfl, Below.refl _ _⟩
  have t4 : decide (1073741824 < z) = false := decide_eq_false c4
  by_cases c5 : fan < 2
  · have t5 : decide (fan < 2) = true := decide_eq_true c5
    go_enter Try.func5, Try.ntmps5
    go_wp2_with fail
    go_ret
    exact ⟨rfl, Below.refl _ _⟩
  have t5 : decide (fan < 2) = false := decide_eq_false c5
  by_cases c6 : 64 < fan
  · have t6 : decide (64 < fan) = true := decide_eq_true c6
    go_enter Try.func5, Try.ntmps5
    go_wp2_with fail
    go_ret
    exact ⟨rfl, Below.refl _ _⟩
  have t6 : decide (64 < fan) = false := decide_eq_false c6
  obtain ⟨T, hT⟩ : ∃ T : Nat, n = (T : Int) := ⟨n.toNat, by omega⟩
  subst hT
  obtain ⟨f, hf⟩ : ∃ f : Nat, fan = (f : Int) := ⟨fan.toNat, by omega⟩
  subst hf
  have GE := Lib.hid (give_alike (z := z) (fan := (f : Int)) (m := T) (by omega) (by omega) (by omega) (by omega) (by omega) (by omega))
  have T0 : 0 < T := by omega
  have T1 : T ≤ 2048 := by omega
  have F0 : 2 ≤ f := by omega
  have F1 : f ≤ 64 := by omega
  have Z0 : 1 ≤ z := by omega
  have Z1 : z ≤ 1073741824 := by omega
  clear c1 c2 c3 c4 c5 c6
  go_enter Try.func5, Try.ntmps5
  go_wp2_with (at_make; refine wp_mkL rfl _ _ 22 3 rfl (.int .i64 0) 1 8 Try.underlying22 info3 .i64 .i64 _ T rfl rfl rfl (by omega) (by omega) _ (iV_zero T) ?_; intro w2 hb2 hbel2)
  have ST := Lib.hid (show FzR w w.heap.size T z (.int .i64 0) w2 from by
    refine ⟨0, rfl, Nat.zero_le _, ?_, hbel2, Nat.le_refl _⟩
    have : nL (fillZ z 0) T = List.replicate T 0 := (nL_congr (fun i _ => by unfold fillZ; rw [if_neg (by omega)])).trans (nL_zero T)
    rw [this]
    exact hb2.ownI (by simp) (by omega))
  clear hb2 hbel2
  obtain ⟨g, hg⟩ : ∃ g, g = w.heap.size := ⟨_, rfl⟩
  rw [← hg] at ST
  rw [← hg]
  clear hg t1 t2 t3 t4 t5 t6
  go_loopw [8] (fun v8 wr => FzR w g T z v8 wr) (fun v8 _ => T - (intOf v8).toNat)
  case atStart => exact ST.out
  case round =>
    clear ST
    obtain ⟨j, rfl, hj, hco⟩ := hrel
    have C := Lib.hid hco
    clear hco
    by_cases hlt : j < T
    · have u1 : decide ((j : Int) < (T : Int)) = true := decide_eq_true (by omega)
      have u1n : decide (j < T) = true := decide_eq_true hlt
      have cn := C.out.cell j hlt
      have fz := C.out.own.free j
      have lg := C.out.own.lt'
      have NX := Lib.hid (C.out.set j z)
      rw [fillZ_next] at NX
      have ij : (j : Int) < (T : Int) := by omega
      have ij0 : (0 : Int) ≤ (j : Int) := by omega
      clear C
      go_wp2_with fail
      go_roundw
      case rel => exact ⟨j + 1, by congr 1, hlt, NX.out⟩
      case measure => simp [intOf]; omega
    · have u1 : decide ((j : Int) < (T : Int)) = false := decide_eq_false (by omega)
      have u1n : decide (j < T) = false := decide_eq_false hlt
      have sl := C.out.own.sl
      have SL := Lib.hid (show SlI wr (.slice (some ⟨g, 0, none⟩) T T) (List.replicate T z) from by
        have e : nL (fillZ z j) T = List.replicate T z := by rw [show j = T by omega]; exact fillZ_all z T
        rw [← e]; exact sl)
      have K1 := Lib.hid C.out.bel
      have MK := Lib.hid (make_any (fan := (f : Int)) SL.out)
      clear sl C
      go_wp2_with fail
      refine MK.out.mono ?_
      rintro e w3 ⟨l, ss, rfl, st3, hs3, k3⟩
      rw [if_pos GE.out] at hs3
      rw [GE.out]
      have DE := Lib.hid (depth_ok (fan := (f : Int)) (SL.out.below k3) st3)
      have K3 := Lib.hid (K1.out.trans (k3.mono K1.out.size))
      have HS := Lib.hid hs3
      obtain ⟨la, lc, rfl, _, _⟩ := st3.form
      clear st3 hs3 k3 MK
      go_wp2_with fail
      refine DE.out.mono ?_
      rintro e w4 ⟨x, E, rfl, hE, hx, k4⟩
      have K4 := Lib.hid (K3.out.trans (k4.mono K3.out.size))
      obtain rfl : E = 0 := by
        rcases hE with ⟨q, _⟩ | ⟨_, _, q⟩ | ⟨_, q, _⟩
        · exact absurd GE.out q
        · exact q
        · refine absurd ?_ q
          rw [HS.out]
          exact mk_plan GE.out
      rw [if_pos rfl] at hx
      have HX := Lib.hid hx
      have NU := Lib.hid (fun W : World => num_ok 0 (by omega) (by omega) W)
      clear hE hx k4 DE
      have SO := Lib.hid (show ReR w4 f T (.int .i64 1) (.int .i64 (f : Int)) w4 from ⟨1, f, rfl, rfl, (Nat.pow_one f).symm, Nat.le_refl _, Or.inl rfl, by omega, rfl⟩)
      go_wp2_with (go_at_call 23; refine (NU.out _).mono ?_; rintro e w' ⟨rfl, rfl⟩)
      clear u1 u1n hlt hj
      go_loopw [13, 14] (fun v13 v14 wr => ReR w4 f T v13 v14 wr) (fun _ v14 _ => T - (intOf v14).toNat)
      case atStart => exact SO.out
      case round =>
        clear SO
        obtain ⟨d, p, rfl, rfl, hp, hd, hd2, hp2, rfl⟩ := hrel
        have hdp : d < p := by rw [hp]; exact Nat.lt_pow_self (by omega)
        by_cases hlt : p < T
        · have u1 : decide ((p : Int) < (T : Int)) = true := decide_eq_true (by omega)
          have u1n : decide (p < T) = true := decide_eq_true hlt
          have hb : p * f ≤ 2048 * 64 := Nat.mul_le_mul (by omega) F1
          have hpf : p < p * f := by
            have := Nat.mul_le_mul_left p F0
            omega
          have hm : wrap64 ((p : Int) * (f : Int)) = ((p * f : Nat) : Int) := by
            rw [← Int.natCast_mul]
            unfold wrap64; omega
          have NX := Lib.hid (show ReR wr f T (.int .i64 ((d : Int) + 1)) (.int .i64 ((p * f : Nat) : Int)) wr from ⟨d + 1, p * f, by congr 1, rfl, by rw [Nat.pow_succ, hp], by omega, Or.inr (by rw [Nat.add_sub_cancel, ← hp]; exact hlt), hb, rfl⟩)
          generalize p * f = p2 at *
          clear hp
          go_wp2_with fail
          go_roundw
          case rel => rw [hm]; exact NX.out
          case measure =>
            rw [hm]
            have HM := Lib.hid hm
            clear hm
            simp [intOf]; omega
        · have u1 : decide ((p : Int) < (T : Int)) = false := decide_eq_false (by omega)
          have u1n : decide (p < T) = false := decide_eq_false hlt
          have hx : x = (d : Int) := by
            rw [HX.out, List.length_replicate, HS.out, Int.toNat_natCast]
            congr 1
            exact make_deep (by omega) F0 (by omega) hd (by omega) hd2
          subst hx
          have n1 : decide ((d : Int) = (d : Int)) = true := decide_eq_true rfl
          have n2 : ((d : Int) == (d : Int)) = true := beq_self_eq_true _
          clear hp
          go_wp2_with fail
          go_ret
          exact ⟨rfl, K4.out⟩
end Go.Proofs.Ythajgfldjjgkiaa
