/- The document's lengths: how many are used; do they make a code. -/
import Derived.Test.YtfbeipfpkikakaaDoorCz
namespace Go.Proofs.YtfbeipfpkikakaaDoor
open Go.RowKit

set_option maxRecDepth 100000
theorem cnt_snoc' (l : List Nat) (x : Nat) : cnt (l ++ [x]) = cnt (x :: l) := by
  funext j
  unfold cnt
  rw [List.count_append, List.count_cons, List.count_cons, List.count_nil, Nat.zero_add]
theorem room_cons (x : Nat) (xs : List Nat) : ∀ q, roomN (cnt (x :: xs)) q = roomN (cnt xs) q + if 1 ≤ x ∧ x ≤ q then 2 ^ (15 - x) else 0
  | 0 => by rw [if_neg (by omega)]; rfl
  | q + 1 => by
    show roomN (cnt (x :: xs)) q + (x :: xs).count (q + 1) * 2 ^ (14 - q) = roomN (cnt xs) q + xs.count (q + 1) * 2 ^ (14 - q) + _
    rw [room_cons x xs q, List.count_cons]
    have ex : (if (x == q + 1) = true then 1 else 0) = if x = q + 1 then 1 else 0 := by simp
    rw [ex]
    by_cases e : x = q + 1
    · subst e
      rw [if_neg (show ¬ (1 ≤ q + 1 ∧ q + 1 ≤ q) by omega), if_pos rfl, if_pos ⟨by omega, Nat.le_refl _⟩, show 15 - (q + 1) = 14 - q by omega, Nat.add_mul, Nat.one_mul]; omega
    · rw [if_neg e]
      by_cases h : 1 ≤ x ∧ x ≤ q
      · rw [if_pos h, if_pos ⟨h.1, Nat.le_succ_of_le h.2⟩, Nat.add_zero]; omega
      · rw [if_neg h, if_neg (fun h' => h ⟨h'.1, by omega⟩)]; simp only [Nat.add_zero]
theorem roomL_nil : ∀ q, roomN (cnt []) q = 0
  | 0 => rfl
  | q + 1 => by show roomN (cnt []) q + ([] : List Nat).count (q + 1) * _ = 0; rw [roomL_nil q]; simp
theorem pow_le14 {x : Nat} (h : 1 ≤ x) : 2 ^ (15 - x) ≤ 16384 := by
  have : (2 : Nat) ^ (15 - x) ≤ 2 ^ 14 := Nat.pow_le_pow_right (by omega) (by omega)
  simpa using this
theorem roomL_le (ls : List Nat) : roomN (cnt ls) 15 ≤ ls.length * 16384 := by
  induction ls with
  | nil => rw [roomL_nil]; exact Nat.zero_le _
  | cons x xs ih =>
    rw [room_cons, List.length_cons, Nat.add_mul]
    have : (if 1 ≤ x ∧ x ≤ 15 then 2 ^ (15 - x) else 0) ≤ 16384 := by
      split
      · rename_i h; exact pow_le14 h.1
      · omega
    omega
/-- Where none or one is used. -/
theorem used_few (ls : List Nat) : (symsN (cnt ls) 15 = 0 → roomN (cnt ls) 15 = 0) ∧ (symsN (cnt ls) 15 = 1 → (roomN (cnt ls) 15 = 16384 ↔ cnt ls 1 = 1)) ∧ (symsN (cnt ls) 15 = 0 → cnt ls 1 = 0) := by
  induction ls with
  | nil => exact ⟨fun _ => roomL_nil 15, fun h => (by rw [symsN_nil] at h; cases h), fun _ => rfl⟩
  | cons x xs ih =>
    obtain ⟨i1, i2, i3⟩ := ih
    have e1 : cnt (x :: xs) 1 = cnt xs 1 + if x = 1 then 1 else 0 := by
      unfold cnt; rw [List.count_cons]; simp
    rw [symsN_cons, room_cons, e1]
    by_cases h : 1 ≤ x ∧ x ≤ 15
    · rw [if_pos h, if_pos h]
      refine ⟨fun e => by omega, fun e => ?_, fun e => by omega⟩
      have z : symsN (cnt xs) 15 = 0 := by omega
      rw [i1 z, i3 z]
      by_cases x1 : x = 1
      · subst x1; simp
      · rw [if_neg x1]
        have : (2 : Nat) ^ (15 - x) ≤ 2 ^ 13 := Nat.pow_le_pow_right (by omega) (by omega)
        have h13 : (2 : Nat) ^ 13 = 8192 := rfl
        omega
    · rw [if_neg h, if_neg h, Nat.add_zero, Nat.add_zero]
      have x1 : ¬ x = 1 := fun e => h (by omega)
      rw [if_neg x1, Nat.add_zero]
      exact ⟨i1, i2, i3⟩
theorem mk_is (ls : List Nat) : isCode (cnt ls) = true ↔ (symsN (cnt ls) 15 = 1 ∧ roomN (cnt ls) 15 = 16384) ∨ (0 < symsN (cnt ls) 15 ∧ roomN (cnt ls) 15 = 32768) := by
  obtain ⟨i1, i2, _⟩ := used_few ls
  unfold isCode
  simp only [Bool.or_eq_true, Bool.and_eq_true, decide_eq_true_eq]
  constructor
  · rintro (h | ⟨h1, h2⟩)
    · right
      refine ⟨?_, h⟩
      rcases Nat.eq_zero_or_pos (symsN (cnt ls) 15) with z | z
      · have := i1 z; omega
      · exact z
    · left; exact ⟨h2, (i2 h2).2 h1⟩
  · rintro (⟨h1, h2⟩ | ⟨_, h2⟩)
    · right; exact ⟨(i2 h1).1 h2, h1⟩
    · left; exact h2
theorem SlZ.sli {w : World} {v : Value} {ls : List Nat} (h : SlZ w v (ls.map fun (x : Nat) => (x : Int))) : SlI w v ls := by
  obtain ⟨a, c, hv, _, hn | ⟨b, off, ha, hb, hc⟩⟩ := h
  · exact ⟨a, c, by simpa using hv, .inl (by simpa using hn)⟩
  · exact ⟨a, c, by simpa using hv, .inr ⟨b, off, ha, hb, fun j x hx => hc j x (by rw [List.getElem?_map, hx]; rfl)⟩⟩
theorem take_snoc' {ls : List Nat} {k : Nat} (h : k < ls.length) : cnt (ls.take (k + 1)) = cnt (ls[k] :: ls.take k) := by rw [List.take_succ_eq_append_getElem h, cnt_snoc']
set_option maxHeartbeats 1600000 in
theorem used_ok {a : Option Addr} {c : Nat} {ls : List Nat} (h16 : ∀ x ∈ ls, x < 16) (hlen : ls.length ≤ 512) (w : World) (hc : SlI w (.slice a ls.length c) ls) :
    Calls Tryd.prog 47 #[.slice a ls.length c] w (Same w (.int .i64 ((symsN (cnt ls) 15 : Nat) : Int))) := by
  have HC := Lib.hid hc
  have H16 := Lib.hid h16
  clear hc h16
  go_enter Tryd.func47, Tryd.ntmps47
  go_wp2_with fail
  go_loop [3, 4] (fun s i => ∃ k : Nat, k ≤ ls.length ∧ i = .int .i64 (k : Int) ∧ s = .int .i64 ((symsN (cnt (ls.take k)) 15 : Nat) : Int)) (fun _ i => (ls.length - (intOf i).toNat))
  case atStart => exact ⟨0, Nat.zero_le _, rfl, by rw [List.take_zero, symsN_nil]; rfl⟩
  case round =>
    obtain ⟨k, hk, rfl, rfl⟩ := hrel
    by_cases hlt : k < ls.length
    · obtain ⟨b, off, rfl⟩ := HC.out.at (List.ne_nil_of_length_pos (by omega))
      have cx := HC.out.get.2 k ls[k] (List.getElem?_eq_getElem hlt)
      have hx := H16.out ls[k] (List.getElem_mem hlt)
      have SE := take_snoc' hlt
      have sl := symsN_len (ls.take k) 15
      have lt' : (ls.take k).length ≤ 512 := by simp; omega
      have TS := Lib.hid (show symsN (cnt (ls.take (k + 1))) 15 = symsN (cnt (ls.take k)) 15 + if 1 ≤ ls[k] ∧ ls[k] ≤ 15 then 1 else 0 by rw [SE, symsN_cons])
      have ME := Lib.hid (show ls.length - ((k : Int) + 1).toNat < ls.length - (k : Int).toNat by omega)
      clear SE
      generalize symsN (cnt (ls.take k)) 15 = s at *
      generalize ls[k] = x at *
      have k1 : (k : Int) < (ls.length : Int) := by omega
      have k2 : (0 : Int) ≤ (k : Int) := by omega
      have t1 : decide ((k : Int) < (ls.length : Int)) = true := decide_eq_true k1
      have t1n : decide (k < ls.length) = true := decide_eq_true hlt
      by_cases hx0 : x = 0
      · have TS' := Lib.hid (show symsN (cnt (ls.take (k + 1))) 15 = s by rw [TS.out, if_neg (by omega)]; rfl)
        subst hx0
        have KK := Lib.hid (show ∃ k2 : Nat, k2 ≤ ls.length ∧ (.int .i64 ((k : Int) + 1) : Value) = .int .i64 (k2 : Int) ∧ (.int .i64 (s : Int) : Value) = .int .i64 ((symsN (cnt (ls.take k2)) 15 : Nat) : Int) from ⟨k + 1, hlt, by go_num, by rw [TS'.out]⟩)
        clear TS TS'
        go_wp2_with fail
        exact ⟨KK.out, ME.out⟩
      · have TS' := Lib.hid (show symsN (cnt (ls.take (k + 1))) 15 = s + 1 by rw [TS.out, if_pos (by omega)])
        have n0 : ((x : Int) == 0) = false := by rw [beq_eq_false_iff_ne]; omega
        have n0n : (x == 0) = false := by rw [beq_eq_false_iff_ne]; omega
        have n1 : ((x : Int) != 0) = true := by simp; omega
        have KK := Lib.hid (show ∃ k2 : Nat, k2 ≤ ls.length ∧ (.int .i64 ((k : Int) + 1) : Value) = .int .i64 (k2 : Int) ∧ (.int .i64 ((s : Int) + 1) : Value) = .int .i64 ((symsN (cnt (ls.take k2)) 15 : Nat) : Int) from ⟨k + 1, hlt, by go_num, by rw [TS'.out]; congr 1⟩)
        clear TS TS'
        go_wp2_with fail
        exact ⟨KK.out, ME.out⟩
    · obtain rfl : k = ls.length := by omega
      rw [List.take_length]
      have t1 : decide ((ls.length : Int) < (ls.length : Int)) = false := decide_eq_false (by omega)
      go_wp2_with fail
      go_ret
      exact ⟨rfl, rfl⟩
end Go.Proofs.YtfbeipfpkikakaaDoor
