/- A number in decimal: Itoa of the library, decimal of the document. -/
import Derived.Test.YtlohgcdonenmeaaDoorSh
import Derived.Lib.LaidTab
import Derived.Lib.ItoaLen
namespace Go.Proofs.YtlohgcdonenmeaaDoor
open Go.RowKit
set_option maxRecDepth 100000

theorem enc_digit (z : Int) (n : Nat) (hz : z = (n : Int)) (h : n < 128) : Utf8.encode z = bs [UInt8.ofNat n] := by
  subst hz
  have hv : Utf8.valid (n : Int) = true := by
    unfold Utf8.valid
    simp
    omega
  unfold Utf8.encode
  have h1 : ((n : Int)).toNat = n := Int.toNat_natCast n
  simp only [hv, if_true, h1, h]
  rfl
/-- What decimal gives. -/
def dcS (n : Int) : List UInt8 := Lib.itoa n
theorem dd_one {i : Nat} (h : i < 10) : Lib.decDigits i = [UInt8.ofNat (48 + i)] := Lib.decDigits_one h
theorem dd_more {i : Nat} (h : ¬ i < 10) : Lib.decDigits i = Lib.decDigits (i / 10) ++ [UInt8.ofNat (48 + i % 10)] := by
  conv => lhs; rw [Lib.decDigits]
  rw [dif_neg h]
theorem dc_big {n : Int} (h : 10 ≤ n) : dcS n = dcS (n / 10) ++ [UInt8.ofNat (48 + n.toNat % 10)] := by
  unfold dcS Lib.itoa
  rw [if_neg (by omega), if_neg (by omega), dd_more (by omega), show (n / 10).toNat = n.toNat / 10 by omega]
theorem dc_small {n : Int} (h0 : 0 ≤ n) (h : n < 10) : dcS n = [UInt8.ofNat (48 + n.toNat)] := by
  unfold dcS Lib.itoa
  rw [if_neg (by omega), dd_one (by omega)]
theorem dc_neg {n : Int} (h0 : -10 < n) (h : n < 0) : dcS n = [45] ++ [UInt8.ofNat (48 + n.natAbs)] := by
  unfold dcS Lib.itoa
  rw [if_pos h, dd_one (by omega)]; rfl
theorem dc_low {n : Int} (h : n ≤ -10) : dcS n = dcS (-((n.natAbs / 10 : Nat) : Int)) ++ [UInt8.ofNat (48 + n.natAbs % 10)] := by
  unfold dcS Lib.itoa
  rw [if_pos (by omega), if_pos (by omega), dd_more (by omega), show (-((n.natAbs / 10 : Nat) : Int)).natAbs = n.natAbs / 10 by omega]
  rfl
theorem dc_len (n : Int) (h0 : -9223372036854775808 ≤ n) (h1 : n ≤ 9223372036854775807) : (bs (dcS n)).size ≤ 21 := by
  rw [bs_size]; exact Lib.itoa_length_le n h0 h1
theorem tdiv_neg {n : Int} (h : n ≤ 0) : n.tdiv 10 = -((n.natAbs / 10 : Nat) : Int) ∧ n.tmod 10 = -((n.natAbs % 10 : Nat) : Int) := by
  obtain ⟨k, rfl⟩ : ∃ k : Nat, n = -(k : Int) := ⟨n.natAbs, by omega⟩
  rw [Int.neg_tdiv, Int.neg_tmod, Int.natAbs_neg, Int.natAbs_natCast]
  exact ⟨rfl, rfl⟩
theorem tdiv_pos {n : Int} (h : 0 ≤ n) : n.tdiv 10 = n / 10 ∧ n.tmod 10 = n % 10 := ⟨Int.tdiv_eq_ediv_of_nonneg h, Int.tmod_eq_emod_of_nonneg h⟩
def Ms (m n : Nat) : Nat := if m = n then 0 else 1
end Go.Proofs.YtlohgcdonenmeaaDoor
