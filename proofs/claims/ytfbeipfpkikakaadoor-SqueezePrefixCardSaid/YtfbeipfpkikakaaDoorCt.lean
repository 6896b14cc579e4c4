/- Codes: none is another's beginning. -/
import Derived.Test.YtfbeipfpkikakaaDoorCu
namespace Go.Proofs.YtfbeipfpkikakaaDoor
open Go.RowKit

set_option maxRecDepth 100000
theorem firstN_succ (m : Nat → Nat) {k : Nat} (h : 1 ≤ k) : firstN m (k + 1) = 2 * (firstN m k + m k) := by
  obtain ⟨q, rfl⟩ : ∃ q, k = q + 1 := ⟨k - 1, by omega⟩
  rfl
theorem firstN_up (m : Nat → Nat) {a : Nat} (h : 1 ≤ a) : ∀ d, (firstN m a + m a) * 2 ^ (d + 1) ≤ firstN m (a + (d + 1))
  | 0 => by
    rw [firstN_succ m (k := a + 0) (by omega)]
    simp only [Nat.zero_add, Nat.pow_one, Nat.add_zero]
    omega
  | d + 1 => by
    have ih := firstN_up m h d
    rw [show a + (d + 1 + 1) = (a + (d + 1)) + 1 by omega, firstN_succ m (by omega), Nat.pow_succ, ← Nat.mul_assoc]
    omega
theorem code_low {ls : List Nat} {i : Nat} (h : i < ls.length) : codeAt ls i < firstN (cnt ls) ls[i] + cnt ls ls[i] := by
  unfold codeAt pN
  rw [getD_at h]
  have := count_take h
  show _ < firstN (cnt ls) ls[i] + ls.count ls[i]
  omega
theorem code_longer {ls : List Nat} {i j : Nat} (hi : i < ls.length) (hj : j < ls.length) (h0 : 0 < ls[i]) (h : ls[i] < ls[j]) : codeAt ls i < codeAt ls j / 2 ^ (ls[j] - ls[i]) := by
  obtain ⟨d, hd⟩ : ∃ d, ls[j] = ls[i] + (d + 1) := ⟨ls[j] - ls[i] - 1, by omega⟩
  have h1 := firstN_up (cnt ls) (a := ls[i]) h0 d
  have h2 := code_low hi
  have h3 : firstN (cnt ls) (ls[i] + (d + 1)) ≤ codeAt ls j := by
    unfold codeAt pN
    rw [getD_at hj, hd]
    omega
  rw [show ls[j] - ls[i] = d + 1 by omega]
  refine Nat.lt_of_lt_of_le h2 ((Nat.le_div_iff_mul_le (Nat.two_pow_pos _)).2 ?_)
  omega
theorem code_alike {ls : List Nat} {i j : Nat} (hi : i < ls.length) (hj : j < ls.length) (h : ls[i] = ls[j]) (hij : i < j) : codeAt ls i < codeAt ls j := by
  unfold codeAt pN
  rw [getD_at hi, getD_at hj, h]
  have hl : i < (ls.take j).length := by rw [List.length_take]; omega
  have e : (ls.take j)[i] = ls[j] := by rw [List.getElem_take]; exact h
  have := count_take hl
  rw [List.take_take, e, show min i j = i by omega] at this
  omega
theorem codF_code {ls : List Nat} (h16 : ∀ x ∈ ls, x < 16) (hl : ls.length ≤ 512) {j : Nat} (hj : j < ls.length) (h0 : 0 < ls[j]) : codF ls ls.length j = codeAt ls j ∧ codeAt ls j ≤ 16777728 := by
  have hx := h16 ls[j] (List.getElem_mem hj)
  have := pN_le hl (n := ls[j]) (by omega) j
  rw [codF_at ls ls.length j hj, getD_at hj, if_pos h0]
  unfold codeAt
  rw [getD_at hj, Nat.mod_eq_of_lt (by omega)]
  exact ⟨rfl, this⟩
theorem codF_small (ls : List Nat) {j : Nat} (hj : j < ls.length) : codF ls ls.length j < 4294967296 := by
  rw [codF_at ls ls.length j hj]
  split
  · exact Nat.mod_lt _ (by omega)
  · omega
set_option maxHeartbeats 1600000 in
theorem prefix_no (a : Option Addr) (c : Nat) (zs : List Int) (n : Int) (hn : 0 < n ∧ n ≤ 1000) (w : World) (hz : SlZ w (.slice a zs.length c) zs) (hlen : zs.length * 8 ≤ 140737488355328) (T : Tabs w)
    (P14 : ∀ u W B, OwnV W B 3 u (zs.map zV) → Calls Tryd.prog 14 #[u] W (RetNb W n)) :
    Calls Tryd.prog 4 #[.slice a zs.length c] w (RetBelow w (.bool true)) := by
  have IN := Lib.hid (ints_ok _ zs w hz hlen)
  have HT := Lib.hid T
  have H14 := Lib.hid P14
  have n0 : (n == 0) = false := by rw [beq_eq_false_iff_ne]; omega
  clear hz T P14
  go_enter Tryd.func4, Tryd.ntmps4
  go_wp2_with fail
  refine IN.out.mono ?_
  rintro e w1 ⟨v1, rfl, h1, hb1⟩
  have C14 := Lib.hid (H14.out v1 w1 _ h1)
  have B1 := Lib.hid hb1
  clear h1 hb1 H14
  go_wp2_with fail
  refine C14.out.mono ?_
  rintro e w2 ⟨rfl, hb2⟩
  have B1 := Lib.hid (B1.out.trans (hb2.mono B1.out.size))
  have NM := Lib.hid (num_ok n (by omega) w2)
  have AL := Lib.hid (alive_ok w2 (HT.out.below B1.out))
  clear hb2 C14
  go_wp2_with (first | (go_at_call 16; refine NM.out.mono ?_; rintro e w2 ⟨rfl, rfl⟩) | (go_at_call 13; refine AL.out.mono ?_; rintro e w2 ⟨rfl, hb2⟩))
  go_ret
  exact ⟨rfl, B1.out.trans (hb2.mono B1.out.size)⟩
end Go.Proofs.YtfbeipfpkikakaaDoor
