/- May weights and fan-in be? -/
import Derived.Test.YthajgfldjjgkiaaMg
namespace Go.Proofs.Ythajgfldjjgkiaa
open Go.RowKit
set_option maxRecDepth 100000

def bad (x : Int) : Bool := decide (x < 0) || decide (1073741824 < x)
def badB (W : List Int) : Bool := W.any bad
def givE (W : List Int) (fan : Int) : Int := if fan < 2 ∨ 64 < fan then 2 else if W.length = 0 ∨ 65536 < W.length ∨ badB W = true then 100 else 0
theorem badB_take (W : List Int) (k : Nat) (hk : k < W.length) : badB (W.take (k + 1)) = (badB (W.take k) || bad W[k]) := by
  unfold badB
  rw [List.take_succ_eq_append_getElem hk, List.any_append]
  simp
theorem badB_of (W : List Int) (k : Nat) (hk : k < W.length) (h : bad W[k] = true) : badB W = true := by
  unfold badB
  rw [List.any_eq_true]
  exact ⟨_, List.getElem_mem hk, h⟩
theorem givE_ok {W : List Int} {fan : Int} (h : givE W fan = 0) : 2 ≤ fan ∧ fan ≤ 64 ∧ 1 ≤ W.length ∧ W.length ≤ 65536 ∧ Wts W := by
  unfold givE at h
  split at h
  · cases h
  · split at h
    · cases h
    · rename_i h1 h2
      refine ⟨by omega, by omega, by omega, by omega, fun x hx => ?_⟩
      have : badB W = false := by
        cases e : badB W with
        | true => exact absurd (Or.inr (Or.inr e)) h2
        | false => rfl
      unfold badB at this
      rw [List.any_eq_false] at this
      have := this x hx
      unfold bad at this
      simp at this
      omega
theorem bad_ok (x : Int) (w : World) : Calls Try.prog 39 #[.int .i64 x] w (Same w (.bool (bad x))) := by
  by_cases h1 : x < 0
  · have t1 : decide (x < 0) = true := decide_eq_true h1
    have e : bad x = true := by unfold bad; rw [t1]; rfl
    rw [e]
    clear e
    go_enter Try.func39, Try.ntmps39
    go_wp2_with fail
    go_ret
    exact ⟨rfl, rfl⟩
  · have t1 : decide (x < 0) = false := decide_eq_false h1
    have e : bad x = decide (1073741824 < x) := by unfold bad; rw [t1]; rfl
    rw [e]
    clear e
    go_enter Try.func39, Try.ntmps39
    go_wp2_with fail
    go_ret
    exact ⟨by simp, rfl⟩
def IxR (w : World) (W : List Int) (v : Value) (wr : World) : Prop := ∃ k : Nat, v = .int .i64 (k : Int) ∧ k ≤ W.length ∧ badB (W.take k) = false ∧ wr = w
def IxE (w : World) (W : List Int) (e : Ending) (w' : World) : Prop := ∃ r : Int, e = .returned (.int .i64 r) ∧ decide (0 ≤ r) = badB W ∧ w = w'
set_option maxHeartbeats 1600000 in
theorem index_ok {w : World} {v : Value} {W : List Int} (hv : SlI w v W) (h0 : W ≠ []) (hl : W.length ≤ 65536) :
    Calls Try.prog 46 #[v, .func (.func 39) #[] #[]] w (IxE w W) := by
  obtain ⟨b, off, c, rfl, _, hb, hc⟩ := hv.get h0
  have HC := Lib.hid hc
  have ST := Lib.hid (show IxR w W (.int .i64 0) w from ⟨0, rfl, Nat.zero_le _, rfl, rfl⟩)
  clear hv hc h0
  go_enter Try.func46, Try.ntmps46
  go_wp2_with fail
  go_loopw [8] (fun i wr => IxR w W i wr) (fun i _ => W.length - (intOf i).toNat)
  case atStart => exact ST.out
  case round =>
    clear ST
    obtain ⟨k, rfl, hk, hal, rfl⟩ := hrel
    have HAL := Lib.hid hal
    clear hal
    by_cases hlt : k < W.length
    · have d1 : decide ((k : Int) < (W.length : Int)) = true := decide_eq_true (by omega)
      have d1n : decide (k < W.length) = true := decide_eq_true hlt
      have ck := HC.out k hlt
      have C := Lib.hid (fun w => bad_ok W[k] w)
      have HT := Lib.hid (show bad W[k] = false → badB (W.take (k + 1)) = false from fun e => by rw [badB_take W k hlt, HAL.out, e]; rfl)
      have HN := Lib.hid (badB_of W k hlt)
      have ik : (k : Int) < (W.length : Int) := by omega
      have ik0 : (0 : Int) ≤ (k : Int) := by omega
      generalize W[k] = K at *
      cases hx : bad K with
      | true =>
        rw [hx] at C
        have HN2 := Lib.hid (HN.out hx)
        clear hx HT HN
        go_wp2_with fail
        refine (C.out _).mono ?_
        rintro e w2 ⟨rfl, rfl⟩
        go_wp2_with fail
        go_ret
        exact ⟨(k : Int), rfl, by rw [HN2.out]; exact decide_eq_true (by omega), rfl⟩
      | false =>
        rw [hx] at C
        have HT2 := Lib.hid (HT.out hx)
        clear hx HT HN
        go_wp2_with fail
        refine (C.out _).mono ?_
        rintro e w2 ⟨rfl, rfl⟩
        go_wp2_with fail
        go_roundw
        case rel => exact ⟨k + 1, by congr 1, hlt, HT2.out, rfl⟩
        case measure => simp [intOf]; omega
    · have d1 : decide ((k : Int) < (W.length : Int)) = false := decide_eq_false (by omega)
      have d1n : decide (k < W.length) = false := decide_eq_false hlt
      have FIN := Lib.hid (show badB W = false by have := HAL.out; rw [List.take_of_length_le (by omega)] at this; exact this)
      go_wp2_with fail
      go_ret
      exact ⟨-1, rfl, by rw [FIN.out]; rfl, rfl⟩
theorem contains_ok {w : World} {v : Value} {W : List Int} (hv : SlI w v W) (h0 : W ≠ []) (hl : W.length ≤ 65536) :
    Calls Try.prog 40 #[v, .func (.func 39) #[] #[]] w (Same w (.bool (badB W))) := by
  obtain ⟨b, off, c, rfl, _, hb, hc⟩ := hv.get h0
  have IX := Lib.hid (index_ok hv h0 hl)
  clear hv hc h0
  go_enter Try.func40, Try.ntmps40
  go_wp2_with fail
  refine IX.out.mono ?_
  rintro e w' ⟨r, rfl, hr, rfl⟩
  have HR := Lib.hid hr
  clear hr
  go_wp2_with fail
  go_ret
  exact ⟨by rw [← HR.out]; rfl, rfl⟩
set_option maxHeartbeats 1600000 in
theorem may_ok {w : World} {v : Value} {W : List Int} {fan : Int} (hv : SlI w v W) :
    Calls Try.prog 30 #[v, .int .i64 fan] w (Same w (.int .i64 (givE W fan))) := by
  obtain ⟨a, c, rfl, hc, hc2⟩ := hv.form
  have HV := Lib.hid hv
  clear hv
  by_cases h1 : fan < 2
  · have E := Lib.hid (show givE W fan = 2 from if_pos (Or.inl h1))
    have t1 : decide (fan < 2) = true := decide_eq_true h1
    go_enter Try.func30, Try.ntmps30
    go_wp2_with fail
    go_ret
    exact ⟨by rw [E.out]; rfl, rfl⟩
  · have t1 : decide (fan < 2) = false := decide_eq_false h1
    by_cases h2 : 64 < fan
    · have E := Lib.hid (show givE W fan = 2 from if_pos (Or.inr h2))
      have t2 : decide (64 < fan) = true := decide_eq_true h2
      go_enter Try.func30, Try.ntmps30
      go_wp2_with fail
      go_ret
      exact ⟨by rw [E.out]; rfl, rfl⟩
    · have t2 : decide (64 < fan) = false := decide_eq_false h2
      have EE := Lib.hid (show givE W fan = if W.length = 0 ∨ 65536 < W.length ∨ badB W = true then 100 else 0 from if_neg (by omega))
      by_cases h3 : W.length = 0
      · have E := Lib.hid (show givE W fan = 100 by rw [EE.out, if_pos (Or.inl h3)])
        have t3 : decide ((W.length : Int) = 0) = true := decide_eq_true (by omega)
        have t3n : decide (W.length = 0) = true := decide_eq_true h3
        have t3b : ((W.length : Int) == 0) = true := by simp [h3]
        clear h3
        go_enter Try.func30, Try.ntmps30
        go_wp2_with fail
        go_ret
        exact ⟨by rw [E.out]; rfl, rfl⟩
      · have t3 : decide ((W.length : Int) = 0) = false := decide_eq_false (by omega)
        have t3n : decide (W.length = 0) = false := decide_eq_false h3
        have t3b : ((W.length : Int) == 0) = false := by simp; intro e; rw [e] at h3; exact h3 rfl
        by_cases h4 : 65536 < W.length
        · have E := Lib.hid (show givE W fan = 100 by rw [EE.out, if_pos (Or.inr (Or.inl h4))])
          have t4 : decide (65536 < (W.length : Int)) = true := decide_eq_true (by omega)
          go_enter Try.func30, Try.ntmps30
          go_wp2_with fail
          go_ret
          exact ⟨by rw [E.out]; rfl, rfl⟩
        · have t4 : decide (65536 < (W.length : Int)) = false := decide_eq_false (by omega)
          have CO := Lib.hid (contains_ok HV.out (by rintro rfl; exact h3 rfl) (by omega))
          cases hb : badB W with
          | true =>
            have E := Lib.hid (show givE W fan = 100 by rw [EE.out, if_pos (Or.inr (Or.inr hb))])
            rw [hb] at CO
            clear hb
            go_enter Try.func30, Try.ntmps30
            go_wp2_with fail
            refine CO.out.mono ?_
            rintro e w' ⟨rfl, rfl⟩
            go_wp2_with fail
            go_ret
            exact ⟨by rw [E.out]; rfl, rfl⟩
          | false =>
            have E := Lib.hid (show givE W fan = 0 by rw [EE.out, if_neg (by rintro (h | h | h) <;> first | exact h3 h | exact h4 h | (rw [hb] at h; cases h))])
            rw [hb] at CO
            clear hb
            go_enter Try.func30, Try.ntmps30
            go_wp2_with fail
            refine CO.out.mono ?_
            rintro e w' ⟨rfl, rfl⟩
            go_wp2_with fail
            go_ret
            exact ⟨by rw [E.out]; rfl, rfl⟩
theorem num_ok (x : Int) (hx : -9223372036854775808 ≤ x) (hx2 : x ≤ 9223372036854775807) (w : World) : Calls Try.prog 23 #[.int .i64 x] w (Same w (.int .i64 x)) := by
  go_enter Try.func23, Try.ntmps23
  go_wp2_with fail
  go_ret
  exact ⟨rfl, rfl⟩
end Go.Proofs.Ythajgfldjjgkiaa
