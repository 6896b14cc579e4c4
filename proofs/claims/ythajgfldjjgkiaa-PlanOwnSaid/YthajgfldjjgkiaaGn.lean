/- Which weights may be, by the document. -/
import Derived.Test.YthajgfldjjgkiaaGv
namespace Go.Proofs.Ythajgfldjjgkiaa
open Go.RowKit
set_option maxRecDepth 100000

def GvR (w : World) (W : List Int) (v : Value) (wr : World) : Prop := ∃ k : Nat, v = .int .i64 (k : Int) ∧ k ≤ W.length ∧ badB (W.take k) = false ∧ wr = w
set_option maxHeartbeats 3200000 in
theorem given_ok {w : World} {v : Value} {W : List Int} {fan : Int} (hv : SlI w v W) :
    Calls Try.prog 24 #[v, .int .i64 fan] w (Same w (.int .i64 (givE W fan))) := by
  obtain ⟨a, c, rfl, hc, hc2⟩ := hv.form
  have HV := Lib.hid hv
  clear hv
  by_cases h1 : fan < 2
  · have E := Lib.hid (show givE W fan = 2 from if_pos (Or.inl h1))
    have t1 : decide (fan < 2) = true := decide_eq_true h1
    go_enter Try.func24, Try.ntmps24
    go_wp2_with fail
    go_ret
    exact ⟨by rw [E.out]; rfl, rfl⟩
  · have t1 : decide (fan < 2) = false := decide_eq_false h1
    by_cases h2 : 64 < fan
    · have E := Lib.hid (show givE W fan = 2 from if_pos (Or.inr h2))
      have t2 : decide (64 < fan) = true := decide_eq_true h2
      go_enter Try.func24, Try.ntmps24
      go_wp2_with fail
      go_ret
      exact ⟨by rw [E.out]; rfl, rfl⟩
    · have t2 : decide (64 < fan) = false := decide_eq_false h2
      have EE := Lib.hid (show givE W fan = if W.length = 0 ∨ 65536 < W.length ∨ badB W = true then 100 else 0 from if_neg (by omega))
      by_cases h3 : W.length = 0
      · have E := Lib.hid (show givE W fan = 100 by rw [EE.out, if_pos (Or.inl h3)])
        have t3 : decide ((W.length : Int) = 0) = true := decide_eq_true (by omega)
        have t3n : decide (W.length = 0) = true := decide_eq_true h3
        have t3b : ((W.length : Int) == 0) = true := by simp [h3]
        clear h3
        go_enter Try.func24, Try.ntmps24
        go_wp2_with fail
        go_ret
        exact ⟨by rw [E.out]; rfl, rfl⟩
      · have t3 : decide ((W.length : Int) = 0) = false := decide_eq_false (by omega)
        have t3n : decide (W.length = 0) = false := decide_eq_false h3
        have t3b : ((W.length : Int) == 0) = false := by simp; intro e; rw [e] at h3; exact h3 rfl
        by_cases h4 : 65536 < W.length
        · have E := Lib.hid (show givE W fan = 100 by rw [EE.out, if_pos (Or.inr (Or.inl h4))])
          have t4 : decide (65536 < (W.length : Int)) = true := decide_eq_true (by omega)
          go_enter Try.func24, Try.ntmps24
          go_wp2_with fail
          go_ret
          exact ⟨by rw [E.out]; rfl, rfl⟩
        · have t4 : decide (65536 < (W.length : Int)) = false := decide_eq_false (by omega)
          obtain ⟨b, off, c', e1, _, hb, hcell⟩ := HV.out.get (by rintro rfl; exact h3 rfl)
          injection e1 with e1 _ e2
          subst e1 e2
          have HC := Lib.hid hcell
          have ST := Lib.hid (show GvR w W (.int .i64 0) w from ⟨0, rfl, Nat.zero_le _, rfl, rfl⟩)
          have E1 := Lib.hid (fun (hb : badB W = true) => show givE W fan = 100 by rw [EE.out, if_pos (Or.inr (Or.inr hb))])
          have E0 := Lib.hid (fun (hb : badB W = false) => show givE W fan = 0 by rw [EE.out, if_neg (by rintro (h | h | h) <;> first | exact h3 h | exact h4 h | (rw [hb] at h; cases h))])
          clear hcell h3 EE HV
          go_enter Try.func24, Try.ntmps24
          go_wp2_with fail
          go_loopw [5] (fun i wr => GvR w W i wr) (fun i _ => W.length - (intOf i).toNat)
          case atStart => exact ST.out
          case round =>
            clear ST
            obtain ⟨k, rfl, hk, hal, rfl⟩ := hrel
            have HAL := Lib.hid hal
            clear hal
            by_cases hlt : k < W.length
            · have d1 : decide ((k : Int) < (W.length : Int)) = true := decide_eq_true (by omega)
              have d1n : decide (k < W.length) = true := decide_eq_true hlt
              have ck := HC.out k hlt
              have HT := Lib.hid (show bad W[k] = false → badB (W.take (k + 1)) = false from fun e => by rw [badB_take W k hlt, HAL.out, e]; rfl)
              have HN := Lib.hid (badB_of W k hlt)
              have ik : (k : Int) < (W.length : Int) := by omega
              have ik0 : (0 : Int) ≤ (k : Int) := by omega
              have ME := Lib.hid (show W.length - ((k : Int) + 1).toNat < W.length - (k : Int).toNat by omega)
              generalize W[k] = K at *
              by_cases hx : K < 0
              · have u1 : decide (K < 0) = true := decide_eq_true hx
                have F := Lib.hid (E1.out (HN.out (by unfold bad; rw [u1]; rfl)))
                clear hx HT HN
                go_wp2_with fail
                go_ret
                exact ⟨by rw [F.out]; rfl, rfl⟩
              · have u1 : decide (K < 0) = false := decide_eq_false hx
                by_cases hy : 1073741824 < K
                · have u2 : decide (1073741824 < K) = true := decide_eq_true hy
                  have F := Lib.hid (E1.out (HN.out (by unfold bad; rw [u1, u2]; rfl)))
                  clear hx hy HT HN
                  go_wp2_with fail
                  go_ret
                  exact ⟨by rw [F.out]; rfl, rfl⟩
                · have u2 : decide (1073741824 < K) = false := decide_eq_false hy
                  have T2 := Lib.hid (HT.out (by unfold bad; rw [u1, u2]; rfl))
                  clear hx hy HT HN
                  go_wp2_with fail
                  go_roundw
                  case rel => exact ⟨k + 1, by congr 1, hlt, T2.out, rfl⟩
                  case measure => exact ME.out
            · have d1 : decide ((k : Int) < (W.length : Int)) = false := decide_eq_false (by omega)
              have d1n : decide (k < W.length) = false := decide_eq_false hlt
              have F := Lib.hid (E0.out (show badB W = false by have := HAL.out; rw [List.take_of_length_le (by omega)] at this; exact this))
              go_wp2_with fail
              go_ret
              exact ⟨by rw [F.out]; rfl, rfl⟩
end Go.Proofs.Ythajgfldjjgkiaa
