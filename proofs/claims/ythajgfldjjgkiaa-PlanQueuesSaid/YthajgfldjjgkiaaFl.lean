/- Quotients of whole numbers as float64. No walk. -/
import Derived.Test.YthajgfldjjgkiaaPm
import Derived.Laws.FloatArith
import Derived.Laws.FloatBits
namespace Go.Proofs.Ythajgfldjjgkiaa
open Ieee
set_option maxRecDepth 100000

theorem binD : double.binade = 4503599627370496 := by decide +kernel
theorem infD : double.infRung = 9218868437227405312 := by decide +kernel
theorem sgnD : double.signWeight = 9223372036854775808 := by decide +kernel
theorem leastD : double.leastPlace = -1074 := by decide +kernel
/-- A rung that is read. -/
theorem read_low {r : Nat} (h : r < 4503599627370496) : double.read r = .number false r (-1074) := by
  unfold Format.read
  rw [sgnD, binD, leastD]
  have h1 : r / 9223372036854775808 = 0 := Nat.div_eq_of_lt (by omega)
  have h2 : r % 9223372036854775808 = r := Nat.mod_eq_of_lt (by omega)
  simp only [h1, h2]
  rw [if_pos h]
  rfl
theorem read_mid {r : Nat} (h : 4503599627370496 ≤ r) (h2 : r < 9218868437227405312) : double.read r = .number false (4503599627370496 + r % 4503599627370496) (-1074 + ((r / 4503599627370496 - 1 : Nat) : Int)) := by
  unfold Format.read
  rw [sgnD, binD, leastD, infD]
  have h3 : r / 9223372036854775808 = 0 := Nat.div_eq_of_lt (by omega)
  have h4 : r % 9223372036854775808 = r := Nat.mod_eq_of_lt (by omega)
  simp only [h3, h4]
  rw [if_neg (by omega), if_pos h2]
  rfl
theorem read_inf : double.read 9218868437227405312 = .infinity false := by decide +kernel
/-- What is read of a rung up to infinity is no NaN, and is equal to itself. -/
theorem order_self {r : Nat} (h : r ≤ 9218868437227405312) : double.order r r = some .eq := by
  unfold Format.order
  rcases Nat.lt_or_ge r 4503599627370496 with h1 | h1
  · rw [read_low h1]
    simp [Datum.order]
  · rcases Nat.lt_or_ge r 9218868437227405312 with h2 | h2
    · rw [read_mid h1 h2]
      simp [Datum.order]
    · have : r = 9218868437227405312 := by omega
      subst this
      rw [read_inf]
      rfl
theorem min_big (z : Nat) : min z 9218868437227405312 ≤ 9218868437227405312 := Nat.min_le_right z _
theorem nearest_le (m : Nat) (e : Int) : double.nearest false m e ≤ 9218868437227405312 := by
  unfold Format.nearest
  split
  · simp only [Format.word, Bool.false_eq_true, if_false]
    exact Nat.zero_le _
  · simp only [Format.word, Bool.false_eq_true, if_false]
    rw [infD]
    generalize (_ : Nat) + (_ : Nat) = z
    exact min_big z
/-- The mantissa of a whole number. -/
def man (n : Nat) : Nat := n <<< (52 - n.log2)
theorem man_range {n : Nat} (h0 : 0 < n) (h : n < 9007199254740992) : 4503599627370496 ≤ man n ∧ man n < 9007199254740992 ∧ n.log2 ≤ 52 := by
  have l1 : 2 ^ n.log2 ≤ n := Nat.log2_self_le (by omega)
  have l2 : n < 2 ^ (n.log2 + 1) := Nat.lt_log2_self
  have l3 : n.log2 ≤ 52 := by
    rcases Nat.lt_or_ge n.log2 53 with h1 | h1
    · omega
    · have : 2 ^ 53 ≤ 2 ^ n.log2 := Nat.pow_le_pow_right (by omega) h1
      have e : (2 : Nat) ^ 53 = 9007199254740992 := by decide
      omega
  have e : (2 : Nat) ^ 52 = 4503599627370496 := by decide
  have e2 : (2 : Nat) ^ 53 = 9007199254740992 := by decide
  unfold man
  rw [Nat.shiftLeft_eq]
  have p1 : 2 ^ n.log2 * 2 ^ (52 - n.log2) = 2 ^ 52 := by rw [← Nat.pow_add]; congr 1; omega
  have p2 : 2 ^ (n.log2 + 1) * 2 ^ (52 - n.log2) = 2 ^ 53 := by rw [← Nat.pow_add]; congr 1; omega
  have q1 := Nat.mul_le_mul_right (2 ^ (52 - n.log2)) l1
  have q2 := Nat.mul_lt_mul_of_pos_right l2 (Nat.pow_pos (n := 52 - n.log2) (show 0 < 2 by omega))
  omega
theorem cut_zero (m : Nat) : Toward.even.cut false m 0 = m := by
  unfold Toward.cut
  have : 1 <<< min 0 (m.log2 + 2) = 1 := by simp
  simp only [this, Nat.div_one, Nat.mod_one]
  simp
theorem nearest_nat {n : Nat} (h0 : 0 < n) (h : n < 9007199254740992) : double.nearest false n 0 = (n.log2 + 1022) * 4503599627370496 + man n := by
  obtain ⟨m1, m2, m3⟩ := man_range h0 h
  unfold Format.nearest
  rw [if_neg (by omega)]
  have hl : max ((0 : Int) + (n.log2 : Int) - ((double.fractionBits : Nat) : Int)) double.leastPlace = (n.log2 : Int) - 52 := by
    rw [leastD]
    have : double.fractionBits = 52 := rfl
    rw [this]
    omega
  simp only [hl]
  have e1 : ((0 : Int) - ((n.log2 : Int) - 52)).toNat = 52 - n.log2 := by omega
  have e2 : ((n.log2 : Int) - 52 - 0).toNat = 0 := by omega
  have e3 : ((n.log2 : Int) - 52 - double.leastPlace).toNat = n.log2 + 1022 := by rw [leastD]; omega
  rw [e1, e2, e3, cut_zero, binD, infD]
  unfold Format.word
  have e4 : n <<< (52 - n.log2) = man n := rfl
  rw [e4]
  simp only [Bool.false_eq_true, if_false]
  omega
theorem read_nat {n : Nat} (h0 : 0 < n) (h : n < 9007199254740992) : double.read (double.nearest false n 0) = .number false (man n) ((n.log2 : Int) - 52) := by
  obtain ⟨m1, m2, m3⟩ := man_range h0 h
  rw [nearest_nat h0 h, read_mid (by omega) (by omega)]
  have e1 : ((n.log2 + 1022) * 4503599627370496 + man n) % 4503599627370496 = man n - 4503599627370496 := by omega
  have e2 : ((n.log2 + 1022) * 4503599627370496 + man n) / 4503599627370496 = n.log2 + 1023 := by omega
  rw [e1, e2]
  have e3 : 4503599627370496 + (man n - 4503599627370496) = man n := by omega
  have e4 : (-1074 : Int) + ((n.log2 + 1023 - 1 : Nat) : Int) = (n.log2 : Int) - 52 := by omega
  rw [e3, e4]
theorem nearest_zero : double.nearest false 0 0 = 0 := by decide +kernel
theorem floatOf_nat (n : Nat) : floatOfInt .f64 (n : Int) = double.nearest false n 0 := by
  unfold floatOfInt FloatKind.nearest FloatKind.encode FloatKind.format Format.write
  have e1 : decide ((n : Int) < 0) = false := decide_eq_false (by omega)
  rw [e1]
  rfl
/-- The word of a quotient. -/
def quoB (p q : Nat) : Nat := (double.div (double.nearest false p 0) (double.nearest false q 0)).getD 0
theorem quo_some {p q : Nat} (hp : p < 9007199254740992) (hq0 : 0 < q) (hq : q < 9007199254740992) : double.div (double.nearest false p 0) (double.nearest false q 0) = some (quoB p q) ∧ quoB p q ≤ 9218868437227405312 := by
  obtain ⟨m1, m2, m3⟩ := man_range hq0 hq
  have key : ∃ m e, double.div (double.nearest false p 0) (double.nearest false q 0) = some (double.nearest false m e) := by
    unfold Format.div
    rw [read_nat hq0 hq]
    by_cases h0 : p = 0
    · subst h0
      rw [nearest_zero, read_low (by omega)]
      simp only [Datum.quotient]
      rw [if_neg (by omega)]
      exact ⟨_, _, rfl⟩
    · rw [read_nat (by omega) hp]
      simp only [Datum.quotient]
      rw [if_neg (by omega)]
      exact ⟨_, _, rfl⟩
  obtain ⟨m, e, h⟩ := key
  unfold quoB
  rw [h]
  exact ⟨rfl, nearest_le m e⟩
theorem quo_self {p q : Nat} (hp : p < 9007199254740992) (hq0 : 0 < q) (hq : q < 9007199254740992) : double.order (quoB p q) (quoB p q) = some .eq := order_self (quo_some hp hq0 hq).2
theorem quo_zero : quoB 0 1 = 0 := by decide +kernel
end Go.Proofs.Ythajgfldjjgkiaa
