/- A part of a whole is at most one, as float64. No walk. -/
import Derived.Test.YthajgfldjjgkiaaFl
namespace Go.Proofs.Ythajgfldjjgkiaa
open Ieee
set_option maxRecDepth 100000

theorem p52 : (2 : Nat) ^ 52 = 4503599627370496 := by decide
theorem p53 : (2 : Nat) ^ 53 = 9007199254740992 := by decide
theorem p54 : (2 : Nat) ^ 54 = 18014398509481984 := by decide
theorem p55 : (2 : Nat) ^ 55 = 36028797018963968 := by decide
theorem p56 : (2 : Nat) ^ 56 = 72057594037927936 := by decide
theorem cut_top {m b : Nat} (h0 : 0 < m) (hl : m.log2 = 52 + b) : Toward.even.cut false m b ≤ 9007199254740992 := by
  unfold Toward.cut
  have hb : min b (m.log2 + 2) = b := by omega
  simp only [hb]
  have hg : (1 <<< b : Nat) = 2 ^ b := by rw [Nat.shiftLeft_eq, Nat.one_mul]
  rw [hg]
  have l2 : m < 2 ^ (m.log2 + 1) := Nat.lt_log2_self
  have e : m.log2 + 1 = b + 53 := by omega
  rw [e, Nat.pow_add, p53] at l2
  have h : m / 2 ^ b < 9007199254740992 := Nat.div_lt_of_lt_mul l2
  have one : ∀ c : Bool, c.toNat ≤ 1 := fun c => by cases c <;> decide
  have := one (decide (2 ^ b < 2 * (m % 2 ^ b)) || 2 ^ b == 2 * (m % 2 ^ b) && m / 2 ^ b % 2 == 1)
  omega
/-- What is below one is at most one when written. -/
theorem nearest_below {m : Nat} {e : Int} (h0 : 0 < m) (h1 : 52 ≤ m.log2) (h2 : e + (m.log2 : Int) ≤ -1) (h3 : -1022 ≤ e + (m.log2 : Int)) : double.nearest false m e ≤ 4607182418800017408 := by
  unfold Format.nearest
  rw [if_neg (by omega)]
  have hl : max (e + (m.log2 : Int) - ((double.fractionBits : Nat) : Int)) double.leastPlace = e + (m.log2 : Int) - 52 := by
    rw [leastD]
    have : double.fractionBits = 52 := rfl
    rw [this]
    omega
  simp only [hl]
  have e1 : (e - (e + (m.log2 : Int) - 52)).toNat = 0 := by omega
  obtain ⟨b, hb⟩ : ∃ b : Nat, m.log2 = 52 + b := ⟨m.log2 - 52, by omega⟩
  have e2 : (e + (m.log2 : Int) - 52 - e).toNat = b := by omega
  rw [e1, e2, Nat.shiftLeft_zero, binD, infD, leastD]
  have hc := cut_top h0 hb
  have e3 : (e + (m.log2 : Int) - 52 - -1074).toNat ≤ 1021 := by omega
  unfold Format.word
  simp only [Bool.false_eq_true, if_false]
  generalize Toward.even.cut false m b = c at *
  generalize (e + (m.log2 : Int) - 52 - -1074).toNat = d at *
  have : d * 4503599627370496 + c ≤ 4607182418800017408 := by omega
  omega
theorem nearest_one : double.nearest false 36028797018963968 (-55) = 4607182418800017408 := by decide +kernel
theorem log2_is {m k : Nat} (h1 : 2 ^ k ≤ m) (h2 : m < 2 ^ (k + 1)) : m.log2 = k := by
  have h0 : m ≠ 0 := by have := Nat.pow_pos (n := k) (show 0 < 2 by omega); omega
  exact (Nat.log2_eq_iff h0).2 ⟨h1, h2⟩
theorem man_lt {p q : Nat} (hp0 : 0 < p) (hq : q < 9007199254740992) (h : p ≤ q) : p.log2 ≤ q.log2 ∧ (p.log2 = q.log2 → man p ≤ man q) := by
  have a := Nat.log2_self_le (n := p) (by omega)
  have b : q < 2 ^ (q.log2 + 1) := Nat.lt_log2_self
  refine ⟨?_, fun e => ?_⟩
  · rcases Nat.lt_or_ge q.log2 p.log2 with h1 | h1
    · have : 2 ^ (q.log2 + 1) ≤ 2 ^ p.log2 := Nat.pow_le_pow_right (by omega) h1
      omega
    · exact h1
  · unfold man
    rw [e, Nat.shiftLeft_eq, Nat.shiftLeft_eq]
    exact Nat.mul_le_mul_right _ h
theorem quo_le_one {p q : Nat} (hp0 : 0 < p) (h : p ≤ q) (hq : q < 9007199254740992) : quoB p q ≤ 4607182418800017408 := by
  obtain ⟨a1, a2, a3⟩ := man_range hp0 (show p < 9007199254740992 by omega)
  obtain ⟨b1, b2, b3⟩ := man_range (show 0 < q by omega) hq
  obtain ⟨c1, c2⟩ := man_lt hp0 hq h
  have la : (man p).log2 = 52 := log2_is (by rw [p52]; exact a1) (by rw [p53]; exact a2)
  have lb : (man q).log2 = 52 := log2_is (by rw [p52]; exact b1) (by rw [p53]; exact b2)
  unfold quoB Format.div
  rw [read_nat hp0 (by omega), read_nat (by omega) hq]
  simp only [Datum.quotient]
  rw [if_neg (by omega), la, lb]
  have hd : double.fractionBits + 2 + 52 - 52 = 54 := rfl
  rw [hd]
  simp only [Option.map_some, Option.getD_some, Bool.xor_false]
  unfold Format.write
  simp only
  rw [Nat.shiftLeft_eq, p54]
  generalize p.log2 = lp at *
  generalize q.log2 = lq at *
  generalize man p = mp at *
  generalize man q = mq at *
  have tn : ∀ c : Bool, c.toNat ≤ 1 := fun c => by cases c <;> decide
  have one := tn (mp * 18014398509481984 % mq != 0)
  have D1 : 9007199254740992 ≤ mp * 18014398509481984 / mq := by
    rw [Nat.le_div_iff_mul_le (by omega)]
    omega
  have ee : ((lp : Int) - 52 - ((lq : Int) - 52) - ((54 : Nat) : Int) - 1) = (lp : Int) - (lq : Int) - 55 := by omega
  rw [ee]
  by_cases e : lp = lq
  · have hm := c2 e
    subst e
    by_cases em : mp = mq
    · subst em
      have d : mp * 18014398509481984 / mp = 18014398509481984 := Nat.mul_div_cancel_left _ (by omega)
      have r : mp * 18014398509481984 % mp = 0 := Nat.mul_mod_right _ _
      rw [d, r]
      have : ((lp : Int) - (lp : Int) - 55) = -55 := by omega
      rw [this]
      exact Nat.le_of_eq nearest_one
    · have D2 : mp * 18014398509481984 / mq < 18014398509481984 := Nat.div_lt_of_lt_mul (by
        have : mp < mq := by omega
        exact Nat.mul_lt_mul_of_pos_right this (by omega))
      generalize mp * 18014398509481984 / mq = D at *
      generalize (mp * 18014398509481984 % mq != 0).toNat = s at *
      have l : (2 * D + s).log2 = 54 := log2_is (by rw [p54]; omega) (by rw [p55]; omega)
      exact nearest_below (by omega) (by omega) (by omega) (by omega)
  · have D2 : mp * 18014398509481984 / mq < 36028797018963968 := Nat.div_lt_of_lt_mul (by omega)
    generalize mp * 18014398509481984 / mq = D at *
    generalize (mp * 18014398509481984 % mq != 0).toNat = s at *
    have l1 : 54 ≤ (2 * D + s).log2 := (Nat.le_log2 (by omega)).2 (by rw [p54]; omega)
    have l2 : (2 * D + s).log2 < 56 := (Nat.log2_lt (by omega)).2 (by rw [p56]; omega)
    exact nearest_below (by omega) (by omega) (by omega) (by omega)
theorem read_one : double.read 4607182418800017408 = .number false 4503599627370496 (-52) := by decide +kernel
theorem cmp_nat {a b : Nat} (h : a < b) : compare (a : Int) (b : Int) = .lt := Int.compare_eq_lt.2 (by omega)
theorem shl_ge (a k : Nat) : a ≤ a <<< k := by rw [Nat.shiftLeft_eq]; exact Nat.le_mul_of_pos_right _ (Nat.pow_pos (by omega))
theorem shl_ge2 (a k : Nat) : 2 * a ≤ a <<< (1 + k) := by
  rw [Nat.shiftLeft_eq, Nat.pow_add, ← Nat.mul_assoc, Nat.pow_one, Nat.mul_comm a 2]
  exact Nat.le_mul_of_pos_right _ (Nat.pow_pos (by omega))
theorem order_one {r : Nat} (h : r ≤ 4607182418800017408) : double.order r 4607182418800017408 = some .lt ∨ double.order r 4607182418800017408 = some .eq := by
  by_cases e : r = 4607182418800017408
  · subst e; right; exact order_self (by omega)
  · left
    unfold Format.order
    rw [read_one]
    rcases Nat.lt_or_ge r 4503599627370496 with h1 | h1
    · rw [read_low h1]
      simp only [Datum.order, signed, Bool.false_eq_true, if_false]
      have e1 : ((-1074 : Int) - min (-1074) (-52)).toNat = 0 := by decide
      have e2 : ((-52 : Int) - min (-1074) (-52)).toNat = 1022 := by decide
      rw [e1, e2, Nat.shiftLeft_zero]
      exact congrArg some (cmp_nat (Nat.lt_of_lt_of_le h1 (shl_ge _ _)))
    · rw [read_mid h1 (by omega)]
      simp only [Datum.order, signed, Bool.false_eq_true, if_false]
      obtain ⟨k, hk⟩ : ∃ k, k = r / 4503599627370496 - 1 := ⟨_, rfl⟩
      have k1 : k ≤ 1021 := by omega
      rw [← hk]
      have e1 : (-1074 + (k : Int) - min (-1074 + (k : Int)) (-52)).toNat = 0 := by omega
      have e2 : ((-52 : Int) - min (-1074 + (k : Int)) (-52)).toNat = 1 + (1021 - k) := by omega
      rw [e1, e2, Nat.shiftLeft_zero]
      have m := Nat.mod_lt r (show 0 < 4503599627370496 by omega)
      exact congrArg some (cmp_nat (Nat.lt_of_lt_of_le (by omega) (shl_ge2 _ _)))
end Go.Proofs.Ythajgfldjjgkiaa
