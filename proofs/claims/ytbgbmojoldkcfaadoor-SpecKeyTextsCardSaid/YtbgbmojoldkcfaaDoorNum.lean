/- Numbers of keys and sizes: digits at a text's head, saturated. No program is named. -/
import Derived.Lib.IndexBytes
import Derived.WalkKit
namespace Go.Proofs.YtbgbmojoldkcfaaDoor

def isDg (c : UInt8) : Bool := decide (48 ≤ c.toNat) && decide (c.toNat ≤ 57)
/-- The number, and how many digits it has. -/
def valS (b : Nat) : Nat → List UInt8 → Nat × Nat
  | n, [] => (n, 0)
  | n, c :: r => if isDg c then ((valS b (min (10 * n + (c.toNat - 48)) b) r).1, (valS b (min (10 * n + (c.toNat - 48)) b) r).2 + 1) else (n, 0)
theorem valS_le (b : Nat) : ∀ (l : List UInt8) (n : Nat), n ≤ b → (valS b n l).1 ≤ b
  | [], n, h => h
  | c :: r, n, h => by
    unfold valS
    split
    · exact valS_le b r _ (Nat.min_le_right _ _)
    · exact h
theorem valS_len (b : Nat) : ∀ (l : List UInt8) (n : Nat), (valS b n l).2 ≤ l.length
  | [], n => Nat.le_refl _
  | c :: r, n => by
    unfold valS
    split
    · have := valS_len b r (min (10 * n + (c.toNat - 48)) b)
      simp only [List.length_cons]; omega
    · simp
theorem valS_none {b : Nat} {l : List UInt8} (h : (valS b 0 l).2 = 0) : (valS b 0 l).1 = 0 := by
  cases l with
  | nil => rfl
  | cons c r =>
    unfold valS at h ⊢
    split
    · rename_i hc
      rw [if_pos hc] at h
      simp at h
    · rfl
/-- A byte further, or stopped. -/
theorem valS_dig {b n k : Nat} {l : List UInt8} (h : k < l.length) (hd : isDg l[k] = true) : valS b n (l.drop k) = ((valS b (min (10 * n + (l[k].toNat - 48)) b) (l.drop (k + 1))).1, (valS b (min (10 * n + (l[k].toNat - 48)) b) (l.drop (k + 1))).2 + 1) := by
  rw [List.drop_eq_getElem_cons h, valS, if_pos hd]
theorem valS_stop {b n k : Nat} {l : List UInt8} (h : k < l.length) (hd : isDg l[k] = false) : valS b n (l.drop k) = (n, 0) := by
  rw [List.drop_eq_getElem_cons h, valS, hd]; rfl
theorem valS_end {b n k : Nat} {l : List UInt8} (h : l.length ≤ k) : valS b n (l.drop k) = (n, 0) := by
  rw [List.drop_eq_nil_of_le h]; rfl

/-- A size: what it says; 0: it is none. -/
def unitS : List UInt8 → Nat
  | [] => 1024
  | [c] => if c = 98 then 1 else if c = 75 then 1024 else if c = 77 then 1048576 else if c = 71 then 1073741824 else 0
  | _ => 0
def sizeS (l : List UInt8) : Nat := min ((valS 67108864 0 l).1 * unitS (l.drop (valS 67108864 0 l).2)) 67108864
def sizeE (l : List UInt8) : Int := if sizeS l = 0 then 44 else 0
end Go.Proofs.YtbgbmojoldkcfaaDoor
