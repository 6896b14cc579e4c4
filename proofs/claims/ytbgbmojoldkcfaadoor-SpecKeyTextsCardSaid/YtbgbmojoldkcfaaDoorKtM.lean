/- Keys as texts, and back: no walk. -/
import Derived.Test.YtbgbmojoldkcfaaDoorKeyS
import Derived.Lib.ItoaNum
namespace Go.Proofs.YtbgbmojoldkcfaaDoor

abbrev dgT (n : Nat) : List UInt8 := Lib.decDigits n
theorem dgT_rec (n : Nat) : dgT n = if n < 10 then [UInt8.ofNat (48 + n)] else dgT (n / 10) ++ [UInt8.ofNat (48 + n % 10)] := by
  unfold dgT
  rw [Lib.decDigits]
  split <;> rfl
theorem dgT_ne (n : Nat) : dgT n ≠ [] := by
  rw [dgT_rec]
  split <;> simp
theorem isDg_of (d : Nat) (h : d < 10) : isDg (UInt8.ofNat (48 + d)) = true ∧ (UInt8.ofNat (48 + d)).toNat - 48 = d := by
  have : (UInt8.ofNat (48 + d)).toNat = 48 + d := by simp; omega
  unfold isDg
  rw [this]
  simp; omega
/-- Behind digits whose number is no greater than the bound the next one is read on. -/
theorem valS_dgT (b : Nat) : ∀ (n : Nat), n ≤ b → ∀ r : List UInt8, valS b 0 (dgT n ++ r) = ((valS b n r).1, (valS b n r).2 + (dgT n).length) := by
  intro n
  induction n using Nat.strongRecOn with
  | _ n ih =>
    intro hn r
    rw [dgT_rec]
    split
    · rename_i h
      have hd := isDg_of n h
      rw [List.singleton_append, valS, if_pos hd.1, hd.2, Nat.mul_zero, Nat.zero_add, Nat.min_eq_left hn]
      simp
    · rename_i h
      have hd := isDg_of (n % 10) (by omega)
      rw [List.append_assoc, ih (n / 10) (by omega) (by omega), List.singleton_append, valS, if_pos hd.1, hd.2, show 10 * (n / 10) + n % 10 = n by omega, Nat.min_eq_left hn]
      simp only [List.length_append, List.length_singleton, Prod.mk.injEq, true_and]
      omega
/-- No digit at a text's head. -/
def noDg (r : List UInt8) : Prop := ∀ c, r.head? = some c → isDg c = false
theorem valS_no (b n : Nat) (r : List UInt8) (h : noDg r) : valS b n r = (n, 0) := by
  cases r with
  | nil => rfl
  | cons c r => rw [valS, h c rfl]; rfl
theorem valS_dg (b n : Nat) (hn : n ≤ b) (r : List UInt8) (h : noDg r) : valS b 0 (dgT n ++ r) = (n, (dgT n).length) := by
  rw [valS_dgT b n hn r, valS_no b n r h, Nat.zero_add]
/-- The letters of modifiers, in their order. -/
def abc : List UInt8 := [98, 100, 102, 103, 104, 105, 77, 110, 114, 86]
def letS (m : Nat) : List UInt8 := abc.filter fun c => m &&& bitS c != 0
theorem letS_or : ∀ m : Fin 1024, orS 0 (letS m.val) = m.val := by decide +kernel
theorem letS_lt (m : Nat) (r : List UInt8) (h : ∀ c, r.head? = some c → isLt c = false) : ltS (letS m ++ r) = letS m := by
  have key : ∀ l : List UInt8, (∀ c ∈ l, isLt c = true) → ltS (l ++ r) = l := by
    intro l
    induction l with
    | nil =>
      intro _
      cases r with
      | nil => rfl
      | cons c r => rw [List.nil_append, ltS, h c rfl]; rfl
    | cons x l ih =>
      intro hl
      rw [List.cons_append, ltS, if_pos (hl x (List.mem_cons_self ..)), ih fun c hc => hl c (List.mem_cons_of_mem _ hc)]
  refine key _ fun c hc => ?_
  have := (List.mem_filter.1 hc).1
  unfold abc at this
  simp only [List.mem_cons, List.mem_nil_iff, or_false] at this
  rcases this with rfl | rfl | rfl | rfl | rfl | rfl | rfl | rfl | rfl | rfl <;> decide
theorem letS_no (m : Nat) (r : List UInt8) (h : noDg r) : noDg (letS m ++ r) := by
  intro c hc
  cases hl : letS m with
  | nil => rw [hl] at hc; exact h c hc
  | cons x l =>
    rw [hl] at hc
    obtain rfl : x = c := by simpa using hc
    have := (List.mem_filter.1 (show x ∈ letS m by rw [hl]; exact List.mem_cons_self ..)).1
    unfold abc at this
    simp only [List.mem_cons, List.mem_nil_iff, or_false] at this
    rcases this with rfl | rfl | rfl | rfl | rfl | rfl | rfl | rfl | rfl | rfl <;> decide
end Go.Proofs.YtbgbmojoldkcfaaDoor
