/- The document's codes. -/
import Derived.Test.YtfbeipfpkikakaaDoorCx
namespace Go.Proofs.YtfbeipfpkikakaaDoor
open Go.RowKit

set_option maxRecDepth 100000
/-- The code that comes next, of n bits. -/
def pN (ls : List Nat) (n s : Nat) : Nat := firstN (cnt ls) n + (ls.take s).count n
def codeAt (ls : List Nat) (j : Nat) : Nat := pN ls (ls.getD j 0) j
def CInv (ls : List Nat) (n s x y : Nat) : Prop := (y = 0 ∧ x = 0 ∧ pN ls n s = 0) ∨ (1 ≤ y ∧ y ≤ n ∧ (x + 1) * 2 ^ (n - y) = pN ls n s)
def refF (ls : List Nat) (n s : Nat) : Nat → Nat := fun j => if (1 ≤ ls.getD j 0 ∧ ls.getD j 0 < n) ∨ (ls.getD j 0 = n ∧ j < s) then codeAt ls j else 0
theorem getD_at {ls : List Nat} {s : Nat} (h : s < ls.length) : ls.getD s 0 = ls[s] := by rw [List.getD_eq_getElem?_getD, List.getElem?_eq_getElem h]; rfl
theorem pN_skip {ls : List Nat} {n s : Nat} (h : s < ls.length) (hn : ls[s] ≠ n) : pN ls n (s + 1) = pN ls n s := by
  unfold pN
  rw [List.take_succ_eq_append_getElem h, List.count_append, List.count_cons, List.count_nil, if_neg (by simpa using hn)]; rfl
theorem pN_hit {ls : List Nat} {n s : Nat} (h : s < ls.length) (hn : ls[s] = n) : pN ls n (s + 1) = pN ls n s + 1 := by
  unfold pN
  rw [List.take_succ_eq_append_getElem h, List.count_append, List.count_cons, List.count_nil, if_pos (by simpa using hn)]; omega
theorem pN_next (ls : List Nat) {n : Nat} (hn : 1 ≤ n) : pN ls (n + 1) 0 = 2 * pN ls n ls.length := by
  obtain ⟨k, rfl⟩ : ∃ k, n = k + 1 := ⟨n - 1, by omega⟩
  unfold pN
  rw [List.take_zero, List.take_length, List.count_nil]
  show 2 * (2 * codeN (cnt ls) k + cnt ls (k + 1)) + 0 = 2 * (2 * codeN (cnt ls) k + ls.count (k + 1))
  rfl
theorem pN_le {ls : List Nat} (hl : ls.length ≤ 512) {n : Nat} (hn : n ≤ 15) (s : Nat) : pN ls n s ≤ 16777728 := by
  have hc : ∀ j, cnt ls j ≤ 512 := fun j => Nat.le_trans List.count_le_length hl
  have h2 : (ls.take s).count n ≤ 512 := Nat.le_trans List.count_le_length (by simp; omega)
  have h1 : firstN (cnt ls) n ≤ 16777216 := by
    cases n with
    | zero => exact Nat.zero_le _
    | succ k =>
      have := codeN_le (cnt ls) 512 hc k
      have p : (2 : Nat) ^ k ≤ 2 ^ 14 := Nat.pow_le_pow_right (by omega) (by omega)
      have p14 : (2 : Nat) ^ 14 = 16384 := rfl
      show 2 * codeN (cnt ls) k ≤ _
      have := Nat.mul_le_mul_right 512 p
      omega
  unfold pN
  omega
theorem CInv.skip {ls : List Nat} {n s x y : Nat} (h : CInv ls n s x y) (hs : s < ls.length) (hn : ls[s] ≠ n) : CInv ls n (s + 1) x y := by
  unfold CInv at *
  rw [pN_skip hs hn]; exact h
theorem CInv.hit {ls : List Nat} {n s : Nat} (hs : s < ls.length) (h1 : 1 ≤ n) (hn : ls[s] = n) : CInv ls n (s + 1) (pN ls n s) n := by
  right
  refine ⟨h1, Nat.le_refl _, ?_⟩
  rw [pN_hit hs hn, Nat.sub_self, Nat.pow_zero, Nat.mul_one]
theorem CInv.next {ls : List Nat} {n x y : Nat} (h : CInv ls n ls.length x y) (h1 : 1 ≤ n) : CInv ls (n + 1) 0 x y := by
  unfold CInv at *
  rw [pN_next ls h1]
  rcases h with ⟨a, b, c⟩ | ⟨a, b, c⟩
  · left; exact ⟨a, b, by rw [c]⟩
  · right
    refine ⟨a, by omega, ?_⟩
    rw [← c, show n + 1 - y = (n - y) + 1 by omega, Nat.pow_succ]
    rw [← Nat.mul_assoc, Nat.mul_comm _ 2]
theorem refF_skip {ls : List Nat} {n s : Nat} (hs : s < ls.length) (hn : ls[s] ≠ n) : refF ls n (s + 1) = refF ls n s := by
  funext j
  unfold refF
  have : ((1 ≤ ls.getD j 0 ∧ ls.getD j 0 < n) ∨ (ls.getD j 0 = n ∧ j < s + 1)) ↔ ((1 ≤ ls.getD j 0 ∧ ls.getD j 0 < n) ∨ (ls.getD j 0 = n ∧ j < s)) := by
    by_cases e : j = s
    · subst e
      rw [getD_at hs]
      constructor
      · rintro (h | ⟨h, _⟩)
        · exact .inl h
        · exact absurd h hn
      · rintro (h | ⟨h, _⟩)
        · exact .inl h
        · exact absurd h hn
    · constructor
      · rintro (h | ⟨h, h2⟩)
        · exact .inl h
        · exact .inr ⟨h, by omega⟩
      · rintro (h | ⟨h, h2⟩)
        · exact .inl h
        · exact .inr ⟨h, by omega⟩
  simp only [this]
theorem refF_hit {ls : List Nat} {n s : Nat} (hs : s < ls.length) (hn : ls[s] = n) : upd (refF ls n s) s (pN ls n s) = refF ls n (s + 1) := by
  funext j
  unfold upd refF
  by_cases e : j = s
  · subst e
    rw [if_pos rfl, if_pos (.inr ⟨by rw [getD_at hs, hn], by omega⟩)]
    unfold codeAt
    rw [getD_at hs, hn]
  · rw [if_neg e]
    have : ((1 ≤ ls.getD j 0 ∧ ls.getD j 0 < n) ∨ (ls.getD j 0 = n ∧ j < s)) ↔ ((1 ≤ ls.getD j 0 ∧ ls.getD j 0 < n) ∨ (ls.getD j 0 = n ∧ j < s + 1)) := by
      constructor
      · rintro (h | ⟨h, h2⟩)
        · exact .inl h
        · exact .inr ⟨h, by omega⟩
      · rintro (h | ⟨h, h2⟩)
        · exact .inl h
        · exact .inr ⟨h, by omega⟩
    simp only [this]
theorem refF_next {ls : List Nat} {n : Nat} (h1 : 1 ≤ n) : natU ls.length (refF ls n ls.length) = natU ls.length (refF ls (n + 1) 0) := natU_congr fun j hj => by
  unfold refF
  have : ((1 ≤ ls.getD j 0 ∧ ls.getD j 0 < n) ∨ (ls.getD j 0 = n ∧ j < ls.length)) ↔ ((1 ≤ ls.getD j 0 ∧ ls.getD j 0 < n + 1) ∨ (ls.getD j 0 = n + 1 ∧ j < 0)) := by omega
  simp only [this]
theorem refF_start (ls : List Nat) : refF ls 1 0 = fun _ => 0 := by
  funext j; unfold refF; rw [if_neg (by omega)]
theorem codF_at (ls : List Nat) : ∀ k j, j < k → codF ls k j = if 0 < ls.getD j 0 then codeAt ls j % 4294967296 else 0
  | 0, j, h => by omega
  | k + 1, j, h => by
    have low : ∀ j, k ≤ j → codF ls k j = 0 := by
      intro j hj
      have : ∀ k, k ≤ j → codF ls k j = 0 := by
        intro k
        induction k with
        | zero => intro _; rfl
        | succ k ih =>
          intro hk
          show (if 0 < ls.getD k 0 then upd (codF ls k) k _ else codF ls k) j = 0
          split
          · unfold upd; rw [if_neg (by omega)]; exact ih (by omega)
          · exact ih (by omega)
      exact this k hj
    show (if 0 < ls.getD k 0 then upd (codF ls k) k _ else codF ls k) j = _
    by_cases e : j = k
    · subst e
      split
      · unfold upd; rw [if_pos rfl]; rfl
      · exact low j (Nat.le_refl _)
    · have ih := codF_at ls k j (by omega)
      split
      · unfold upd; rw [if_neg e]; exact ih
      · exact ih
theorem refF_end {ls : List Nat} (h16 : ∀ x ∈ ls, x < 16) (hl : ls.length ≤ 512) {j : Nat} (hj : j < ls.length) : refF ls 16 0 j = codF ls ls.length j := by
  rw [codF_at ls ls.length j hj]
  have hx := h16 ls[j] (List.getElem_mem hj)
  unfold refF
  rw [getD_at hj]
  by_cases h0 : 0 < ls[j]
  · rw [if_pos (.inl ⟨h0, hx⟩), if_pos h0]
    have := pN_le hl (n := ls[j]) (by omega) j
    unfold codeAt
    rw [getD_at hj, Nat.mod_eq_of_lt (by omega)]
  · rw [if_neg (by omega), if_neg h0]
end Go.Proofs.YtfbeipfpkikakaaDoor
