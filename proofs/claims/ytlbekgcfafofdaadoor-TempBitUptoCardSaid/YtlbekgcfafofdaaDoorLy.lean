/- Numbers laid behind bytes. -/
import Derived.Test.YtlbekgcfafofdaaDoorMb
namespace Go.Proofs.YtlbekgcfafofdaaDoor
open Go.RowKit
set_option maxRecDepth 100000

def LayRel (B : Nat) (w : World) (l : List UInt8) (n size : Nat) (v i : Value) (wr : World) : Prop :=
  ∃ j : Nat, j ≤ size ∧ i = .int .i64 ((size : Int) - 1 - (j : Int)) ∧ OwnB wr B v (l ++ be j (n / 256 ^ (size - j))) ∧ Below B w wr ∧ KeepB w wr
theorem shr_byte (n q : Nat) : (n : Int) / 2 ^ (8 * (q : Int)).toNat = ((n / 256 ^ q : Nat) : Int) := by
  have e : (8 * (q : Int)).toNat = 8 * q := by omega
  have e2 : (2 : Int) ^ (8 * q) = ((2 ^ (8 * q) : Nat) : Int) := (Int.natCast_pow 2 (8 * q)).symm
  rw [e, e2, Nat.pow_mul]
  rfl
set_option maxHeartbeats 1600000 in
theorem lay_ok (B : Nat) (v : Value) (l : List UInt8) (n size : Nat) (_hn : n < 18446744073709551616) (hs : size ≤ 8) (w : World) (hown : OwnB w B v l) (hlen : l.length ≤ 4294967296) :
    Calls Tryd.prog 23 #[v, .int .u64 n, .int .i64 size] w (RetOwn B w (l ++ be size n)) := by
  have HO := Lib.hid hown
  have ST := Lib.hid (show LayRel B w l n size v (.int .i64 ((size : Int) - 1)) w from ⟨0, Nat.zero_le _, by simp, by rw [be, List.append_nil]; exact hown, Below.refl _ _, KeepB.refl _⟩)
  clear hown
  go_enter Tryd.func23, Tryd.ntmps23
  go_wp2_with fail
  go_loopw [0, 7] (fun x i wr => LayRel B w l n size x i wr) (fun _ i _ => (intOf i + 1).toNat)
  case atStart => exact ST.out
  case round =>
    clear ST HO
    obtain ⟨j, hj, rfl, h1, h2, h3⟩ := hrel
    have O1 := Lib.hid h1
    have K1 := Lib.hid h2
    have Q1 := Lib.hid h3
    clear h1 h2 h3
    by_cases hlt : j < size
    · obtain ⟨q, hq⟩ : ∃ q : Nat, q = size - 1 - j := ⟨_, rfl⟩
      have eq : (size : Int) - 1 - (j : Int) = (q : Int) := by omega
      have SB := Lib.hid (show l ++ be (j + 1) (n / 256 ^ (size - (j + 1))) = (l ++ be j (n / 256 ^ (size - j))) ++ [UInt8.ofNat (n / 256 ^ q)] from by
        rw [show size - (j + 1) = q by omega, show size - j = q + 1 by omega, be, Nat.div_div_eq_div_mul, Nat.pow_succ, List.append_assoc])
      have EQ := Lib.hid (show (q : Int) - 1 = (size : Int) - 1 - ((j + 1 : Nat) : Int) by omega)
      have LL := Lib.hid (show (l ++ be j (n / 256 ^ (size - j))).length ≤ 4294967304 by rw [List.length_append, be_len]; omega)
      have q7 : (q : Int) ≤ 7 := by omega
      have SH := shr_byte n q
      have by1 : (UInt8.ofNat (n / 256 ^ q)).toNat = n / 256 ^ q % 256 := by simp
      have BY := Lib.hid by1
      rw [eq]
      have HJ := Lib.hid hlt
      clear eq hq hlt by1 hj
      generalize l ++ be j (n / 256 ^ (size - j)) = L at *
      generalize UInt8.ofNat (n / 256 ^ q) = X at *
      generalize n / 256 ^ q = y at *
      go_wp2_with (at_builtin; refine wp_app rfl _ _ rfl B _ L rfl O1.out [X] _ ?hu rfl (by have := LL.out; simp; omega) ?_)
      case hu => simp [byV, BY.out]
      intro v' w' g1 g2 g3
      have KEY := Lib.hid (show LayRel B w l n size v' (.int .i64 ((q : Int) - 1)) w' from ⟨j + 1, HJ.out, by rw [EQ.out], by rw [SB.out]; exact g1, K1.out.trans g2, Q1.out.trans g3⟩)
      clear g1 g2 g3 SH
      go_wp2_with fail
      exact ⟨KEY.out, by simp [intOf]⟩
    · have ej : j = size := by omega
      subst ej
      have t0 : decide (0 ≤ (j : Int) - 1 - (j : Int)) = false := decide_eq_false (by omega)
      have en : (j : Int) - 1 - (j : Int) = -1 := by omega
      rw [en]
      have HS := Lib.hid (show n / 256 ^ (j - j) = n by rw [Nat.sub_self, Nat.pow_zero, Nat.div_one])
      clear en t0 hlt hj
      go_wp2_with fail
      go_ret
      exact ⟨_, rfl, by have := O1.out; rw [HS.out] at this; exact this, K1.out, Q1.out⟩
end Go.Proofs.YtlbekgcfafofdaaDoor
