/- The sum by half bytes is the sum bit by bit. No program. -/
import Derived.Test.YtlbekgcfafofdaaDoorBa
namespace Go.Proofs.YtlbekgcfafofdaaDoor

/-- One bit of the sum. -/
def bitS (c : Nat) : Nat := if c % 2 = 1 then c / 2 ^^^ 3988292384 else c / 2
def tabN : List Nat := [0, 498536548, 997073096, 651767980, 1994146192, 1802195444, 1303535960, 1342533948, 3988292384, 4027552580, 3604390888, 3412177804, 2607071920, 2262029012, 2685067896, 3183342108]
/-- Half a byte of the sum. -/
def halfS (c : Nat) : Nat := c / 16 ^^^ tabN.getD (c % 16) 0
/-- A byte of the sum. -/
def byteS (c : Nat) (b : UInt8) : Nat := halfS (halfS (c ^^^ b.toNat))
def foldS (c : Nat) (l : List UInt8) : Nat := l.foldl byteS c

theorem bitS_xor (a b : Nat) : bitS (a ^^^ b) = bitS a ^^^ bitS b := by
  unfold bitS
  have hm : (a ^^^ b) % 2 = (a % 2 + b % 2) % 2 := by
    have h := Nat.xor_mod_two_pow (a := a) (b := b) (n := 1)
    rw [show 2 ^ 1 = 2 from rfl] at h
    rw [h]
    rcases Nat.mod_two_eq_zero_or_one a with h1 | h1 <;> rcases Nat.mod_two_eq_zero_or_one b with h2 | h2 <;> rw [h1, h2] <;> rfl
  have hd : (a ^^^ b) / 2 = a / 2 ^^^ b / 2 := Nat.xor_div_two
  rw [hm, hd]
  rcases Nat.mod_two_eq_zero_or_one a with h1 | h1 <;> rcases Nat.mod_two_eq_zero_or_one b with h2 | h2
  · simp [h1, h2]
  · simp only [h1, h2]
    simp [Nat.xor_assoc]
  · simp only [h1, h2]
    simp
    rw [Nat.xor_assoc, Nat.xor_assoc, Nat.xor_comm (b / 2)]
  · simp only [h1, h2]
    simp
    rw [Nat.xor_assoc, ← Nat.xor_assoc 3988292384, Nat.xor_comm 3988292384 (b / 2), Nat.xor_assoc, Nat.xor_self, Nat.xor_zero]
theorem bitS_even (c : Nat) : bitS (2 * c) = c := by
  unfold bitS
  rw [if_neg (by omega)]
  omega
theorem bit4_low (q : Nat) : bitS (bitS (bitS (bitS (16 * q)))) = q := by
  rw [show 16 * q = 2 * (8 * q) by omega, bitS_even, show 8 * q = 2 * (4 * q) by omega, bitS_even, show 4 * q = 2 * (2 * q) by omega, bitS_even, bitS_even]
theorem bit4_tab (r : Nat) (h : r < 16) : bitS (bitS (bitS (bitS r))) = tabN.getD r 0 := by
  have : ∀ x : Fin 16, bitS (bitS (bitS (bitS x.1))) = tabN.getD x.1 0 := by decide +kernel
  exact this ⟨r, h⟩
theorem split16 (c : Nat) : c = 16 * (c / 16) ^^^ c % 16 := by
  have h1 : 16 * (c / 16) = (c / 2 ^ 4) <<< 4 := by rw [Nat.shiftLeft_eq]; omega
  apply Nat.eq_of_testBit_eq
  intro i
  rw [Nat.testBit_xor, h1, Nat.testBit_shiftLeft, show c % 16 = c % 2 ^ 4 from rfl, Nat.testBit_mod_two_pow, show c / 2 ^ 4 = c >>> 4 from (Nat.shiftRight_eq_div_pow c 4).symm, Nat.testBit_shiftRight]
  by_cases h : 4 ≤ i
  · simp [h, show ¬ i < 4 by omega, show 4 + (i - 4) = i by omega]
  · simp [h, show i < 4 by omega]
theorem half_bits (c : Nat) : halfS c = bitS (bitS (bitS (bitS c))) := by
  conv => rhs; rw [split16 c]
  rw [bitS_xor, bitS_xor, bitS_xor, bitS_xor, bit4_low, bit4_tab _ (Nat.mod_lt _ (by omega))]
  rfl

/-- Bit k of a byte, as the document has it. -/
def bitR (b : Nat) (k c : Nat) : Nat := if (c ^^^ b / 2 ^ k) % 2 = 1 then c / 2 ^^^ 3988292384 else c / 2
theorem bitR_step (b k c : Nat) : bitR b k c ^^^ b / 2 ^ (k + 1) = bitS (c ^^^ b / 2 ^ k) := by
  unfold bitR bitS
  have hd : (c ^^^ b / 2 ^ k) / 2 = c / 2 ^^^ b / 2 ^ (k + 1) := by rw [Nat.xor_div_two, Nat.div_div_eq_div_mul, Nat.pow_succ]
  by_cases h : (c ^^^ b / 2 ^ k) % 2 = 1
  · rw [if_pos h, if_pos h, hd, Nat.xor_assoc, Nat.xor_comm 3988292384, ← Nat.xor_assoc]
  · rw [if_neg h, if_neg h, hd]
def bitsR (b : Nat) : Nat → Nat → Nat
  | 0, c => c
  | k + 1, c => bitR b k (bitsR b k c)
theorem byte_bits (c : Nat) (b : UInt8) : bitsR b.toNat 8 c = byteS c b := by
  have st := fun k => bitR_step b.toNat k (bitsR b.toNat k c)
  have e : ∀ k, bitsR b.toNat (k + 1) c ^^^ b.toNat / 2 ^ (k + 1) = bitS (bitsR b.toNat k c ^^^ b.toNat / 2 ^ k) := fun k => st k
  have h8 : b.toNat / 2 ^ 8 = 0 := Nat.div_eq_of_lt b.toNat_lt
  have h := e 7
  rw [h8, Nat.xor_zero, e 6, e 5, e 4, e 3, e 2, e 1, e 0] at h
  rw [h]
  unfold byteS
  rw [half_bits, half_bits]
  show bitS (bitS (bitS (bitS (bitS (bitS (bitS (bitS (c ^^^ b.toNat / 2 ^ 0)))))))) = _
  rw [Nat.pow_zero, Nat.div_one]
theorem bitS_lt {c : Nat} (h : c < 2 ^ 32) : bitS c < 2 ^ 32 := by
  unfold bitS
  split
  · exact Nat.xor_lt_two_pow (by omega) (by decide)
  · omega
theorem halfS_lt {c : Nat} (h : c < 2 ^ 32) : halfS c < 2 ^ 32 := by
  rw [half_bits]; exact bitS_lt (bitS_lt (bitS_lt (bitS_lt h)))
theorem byteS_lt {c : Nat} (h : c < 2 ^ 32) (b : UInt8) : byteS c b < 2 ^ 32 :=
  halfS_lt (halfS_lt (Nat.xor_lt_two_pow h (Nat.lt_of_lt_of_le b.toNat_lt (by decide))))
theorem foldS_lt : ∀ (l : List UInt8) {c : Nat}, c < 2 ^ 32 → foldS c l < 2 ^ 32
  | [], _, h => h
  | b :: l, _, h => foldS_lt l (byteS_lt h b)
def inv32 (c : Nat) : Nat := c ^^^ 4294967295
theorem inv32_lt {c : Nat} (h : c < 2 ^ 32) : inv32 c < 2 ^ 32 := Nat.xor_lt_two_pow h (by decide)
theorem inv32_inv (c : Nat) : inv32 (inv32 c) = c := by unfold inv32; rw [Nat.xor_assoc, Nat.xor_self, Nat.xor_zero]
/-- SumMore. -/
def sumMoreN (s : Nat) (l : List UInt8) : Nat := inv32 (foldS (inv32 s) l)
def sumN (l : List UInt8) : Nat := sumMoreN 0 l
theorem sumMoreN_lt {s : Nat} (h : s < 2 ^ 32) (l : List UInt8) : sumMoreN s l < 2 ^ 32 := inv32_lt (foldS_lt l (inv32_lt h))
theorem sum_more (a b : List UInt8) : sumMoreN (sumN a) b = sumN (a ++ b) := by
  unfold sumN sumMoreN
  rw [inv32_inv]
  unfold foldS
  rw [List.foldl_append]
theorem foldS_snoc (c : Nat) (l : List UInt8) (b : UInt8) : foldS c (l ++ [b]) = byteS (foldS c l) b := by unfold foldS; rw [List.foldl_append]; rfl

/-- Hash. -/
def hashStep (h : Nat) (b : UInt8) : Nat := (h ^^^ b.toNat) * 1099511628211 % 2 ^ 64
def hashN (l : List UInt8) : Nat := l.foldl hashStep 14695981039346656037
theorem hashStep_lt (h : Nat) (b : UInt8) : hashStep h b < 2 ^ 64 := Nat.mod_lt _ (by decide)
theorem hash_lt : ∀ (l : List UInt8) (h : Nat), h < 2 ^ 64 → l.foldl hashStep h < 2 ^ 64
  | [], _, h => h
  | b :: l, h, _ => hash_lt l _ (hashStep_lt h b)
end Go.Proofs.YtlbekgcfafofdaaDoor
