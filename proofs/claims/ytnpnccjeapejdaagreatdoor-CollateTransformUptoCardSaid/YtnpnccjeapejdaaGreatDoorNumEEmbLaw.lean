/- NumeralEmbedding: the walk. -/
import Derived.Test.YtnpnccjeapejdaaGreatDoorNumEEmbA
namespace Go.Proofs.YtnpnccjeapejdaaGreatDoor.Num
open Go.RowKit

theorem cmpL_less : ∀ (p : List UInt8) (u v : UInt8) (xs ys : List UInt8), u < v → cmpL (p ++ u :: xs) (p ++ v :: ys) = -1
  | [], u, v, xs, ys, h => by
    show cmpL (u :: xs) (v :: ys) = -1
    have h' := UInt8.lt_iff_toNat_lt.1 h
    have e : cmpI (u.toNat : Int) v.toNat = -1 := by unfold cmpI; rw [if_pos (by omega)]
    rw [cmpL_cons, e]; rfl
  | x :: p, u, v, xs, ys, h => by
    show cmpL (x :: (p ++ u :: xs)) (x :: (p ++ v :: ys)) = -1
    rw [cmpL_cons, cmpI_is.refl, thenC_zero, cmpL_less p u v xs ys h]
theorem Sep.cmp {c : Int} {x y : List UInt8} (h : Sep c x y) : cmpL x y = c := by
  rcases h with ⟨rfl, rfl⟩ | ⟨rfl, p, u, v, xs, ys, rfl, rfl, huv⟩ | ⟨rfl, p, u, v, xs, ys, rfl, rfl, huv⟩
  · exact cmpL_is.refl _
  · exact cmpL_less p u v xs ys huv
  · rw [cmpL_is.anti (p ++ v :: ys) (p ++ u :: xs), cmpL_less p v u ys xs huv]; rfl
theorem sep_embS (kind : Nat) (a b : ByteArray) (ha : a.size ≤ 10000000) (hb : b.size ≤ 10000000) : Sep (cmpS kind a.data.toList b.data.toList) (embS kind a.data.toList) (embS kind b.data.toList) := by
  unfold cmpS embS
  by_cases hn : kind = 16 ∨ kind = 32 ∨ kind = 64
  · rw [if_pos hn, if_pos hn, if_pos hn]
    exact sep_val (valS_full kind a ha).ok (valS_full kind b hb).ok
  · rw [if_neg hn, if_neg hn, if_neg hn]
    by_cases h1 : kind = 128
    · rw [if_pos h1, if_pos h1, if_pos h1]
      have m1 := monthS_le a.data.toList
      have m2 := monthS_le b.data.toList
      have s := Sep.byte (UInt8.ofNat (monthS a.data.toList)) (UInt8.ofNat (monthS b.data.toList))
      have e1 : (UInt8.ofNat (monthS a.data.toList)).toNat = monthS a.data.toList := by simp; omega
      have e2 : (UInt8.ofNat (monthS b.data.toList)).toNat = monthS b.data.toList := by simp; omega
      rw [e1, e2] at s
      exact s
    · rw [if_neg h1, if_neg h1, if_neg h1]
      by_cases h2 : kind = 256
      · rw [if_pos h2, if_pos h2, if_pos h2]
        have l1 : a.data.toList.length < 2 ^ 64 := by rw [← Lib.size_eq]; omega
        have l2 : b.data.toList.length < 2 ^ 64 := by rw [← Lib.size_eq]; omega
        exact sep_ver _ _ _ _ (Nat.le_refl _) (Nat.le_refl _) l1 l2
      · rw [if_neg h2, if_neg h2, if_neg h2]
        exact sep_esc _ _

theorem verL_len (n : Nat) : ∀ l : List UInt8, l.length ≤ n → (verL l).length ≤ 11 * l.length + 2 := by
  induction n with
  | zero =>
    intro l h
    have : l = [] := List.eq_nil_of_length_eq_zero (by omega)
    subst this; simp [verL_nil]
  | succ n ih =>
    intro l h
    by_cases e : l = []
    · subst e; simp [verL_nil]
    · have a := pairE_len l e
      have b := restOf_lt e
      have c := ih (restOf l) (by omega)
      rw [verL_cons e, List.length_append]
      omega
theorem embS_len (kind : Nat) (s : ByteArray) (hs : s.size ≤ 10000000) : (embS kind s.data.toList).length ≤ 200000000 := by
  have hl : s.data.toList.length ≤ 10000000 := by rw [← Lib.size_eq]; exact hs
  have f := valS_full kind s hs
  have f1 := f.whole
  have f2 := f.frac
  have v1 := verL_len _ s.data.toList (Nat.le_refl _)
  have e1 := esc_len s.data.toList
  have sz : (sizeE (kind == 64) (valS kind s.data.toList)).length ≤ 30000000 := by
    unfold sizeE Val.digits
    split <;> (simp [beN_len]; omega)
  unfold embS
  split
  · unfold valE
    split
    · simp; omega
    · split
      · simp; omega
      · simp
  · split
    · simp
    · split
      · show (verL s.data.toList).length ≤ _
        omega
      · unfold escS
        rw [List.length_append]
        simp only [List.length_cons, List.length_nil]
        omega

set_option maxRecDepth 100000
end Go.Proofs.YtnpnccjeapejdaaGreatDoor.Num
