/- What a symbol for a repeat stands for; numbers behind symbols. -/
import Derived.Test.YtfbeipfpkikakaaDoorBr
namespace Go.Proofs.YtfbeipfpkikakaaDoor
open Go.RowKit

set_option maxRecDepth 100000
def basesN : List Nat := [3, 4, 5, 6, 7, 8, 9, 10, 11, 19, 27, 43, 59, 91, 123, 187]
theorem Tabs.base {w : World} (h : Tabs w) (k : Nat) (hk : k < 16) : w.cell? ⟨1, k, none⟩ = some (.int .i64 ((basesN.getD k 0 : Nat) : Int)) := by
  obtain ⟨t, fr, h0⟩ := h.bases
  rw [cell_of_row w 1 k _ t fr h0]
  rcases (show k = 0 ∨ k = 1 ∨ k = 2 ∨ k = 3 ∨ k = 4 ∨ k = 5 ∨ k = 6 ∨ k = 7 ∨ k = 8 ∨ k = 9 ∨ k = 10 ∨ k = 11 ∨ k = 12 ∨ k = 13 ∨ k = 14 ∨ k = 15 by omega) with rfl | rfl | rfl | rfl | rfl | rfl | rfl | rfl | rfl | rfl | rfl | rfl | rfl | rfl | rfl | rfl <;> rfl
def lbits (k : Nat) : Nat := if 8 ≤ k then (k - 8) / 2 + 3 else 0
def dbits (d : Nat) : Nat := if d < 4 then 0 else (d - 2) / 2
def dbase (d : Nat) : Nat := if d < 4 then d + 1 else (2 + d % 2) * 2 ^ ((d - 2) / 2) + 1
set_option maxHeartbeats 800000 in
theorem distanceBase_ok (d : Nat) (h : d < 30) (w : World) : Calls Tryd.prog 66 #[.int .i64 d] w (Same w (.tuple #[.int .i64 (dbase d), .int .i64 (dbits d)])) := by
  by_cases h4 : d < 4
  · have E1 : dbase d = d + 1 := if_pos h4
    have E2 : dbits d = 0 := if_pos h4
    rw [E1, E2]
    have t1 : decide ((d : Int) < 4) = true := decide_eq_true (by omega)
    go_enter Tryd.func66, Tryd.ntmps66
    go_wp2_with fail
    go_ret2
    exact ⟨rfl, rfl⟩
  · have E1 : dbase d = (2 + d % 2) * 2 ^ ((d - 2) / 2) + 1 := if_neg h4
    have E2 : dbits d = (d - 2) / 2 := if_neg h4
    rw [E1, E2]
    have t1 : decide ((d : Int) < 4) = false := decide_eq_false (by omega)
    obtain ⟨q, hq⟩ : ∃ q, q = (d - 2) / 2 := ⟨_, rfl⟩
    obtain ⟨s, hs⟩ : ∃ s, s = d % 2 := ⟨_, rfl⟩
    have iq : ((d : Int) - 2) / 2 = (q : Int) := by omega
    have is : (d : Int) % 2 = (s : Int) := by omega
    have q14 : q ≤ 13 := by omega
    have s2 : s < 2 := by omega
    rw [← hq, ← hs]
    clear hq hs E1 E2
    have pw : (2 : Nat) ^ q ≤ 8192 := Nat.pow_le_pow_right (n := 2) (by omega) q14
    have pi : ((2 : Int) + s) * 2 ^ q = (((2 + s) * 2 ^ q : Nat) : Int) := by rw [Int.natCast_mul, Int.natCast_pow]; rfl
    have pb : (2 + s) * 2 ^ q ≤ 3 * 8192 := Nat.mul_le_mul (by omega) pw
    obtain ⟨P, hP⟩ : ∃ P, P = (2 + s) * 2 ^ q := ⟨_, rfl⟩
    rw [← hP] at pi pb ⊢
    have VAL := Lib.hid (show wrap64 (wrap64 (((2 : Int) + s) * 2 ^ q) + 1) = ((P + 1 : Nat) : Int) by rw [pi, IntWalk.wrap64_in (P : Int) (by omega), IntWalk.wrap64_in ((P : Int) + 1) (by omega)]; rfl)
    have IQ := Lib.hid iq
    clear pw pi hP h4
    go_enter Tryd.func66, Tryd.ntmps66
    go_wp2_with fail
    go_ret2
    exact ⟨by rw [← VAL.out, ← IQ.out]; rfl, rfl⟩
set_option maxHeartbeats 800000 in
theorem lengthBase_ok (k : Nat) (h : k < 16) (w : World) (T : Tabs w) : Calls Tryd.prog 65 #[.int .i64 k] w (Same w (.tuple #[.int .i64 ((basesN.getD k 0 : Nat) : Int), .int .i64 (lbits k)])) := by
  have c1 := T.base k h
  clear T
  generalize basesN.getD k 0 = B at *
  by_cases h8 : 8 ≤ k
  · have E := Lib.hid (show lbits k = (k - 8) / 2 + 3 from if_pos h8)
    have t1 : decide (8 ≤ (k : Int)) = true := decide_eq_true (by omega)
    have E2 := Lib.hid (show (((k : Int) - 8) / 2 + 3) = (((k - 8) / 2 + 3 : Nat) : Int) by omega)
    go_enter Tryd.func65, Tryd.ntmps65
    go_wp2_with fail
    go_ret2
    exact ⟨by rw [E.out, ← E2.out]; rfl, rfl⟩
  · have E := Lib.hid (show lbits k = 0 from if_neg h8)
    have t1 : decide (8 ≤ (k : Int)) = false := decide_eq_false (by omega)
    go_enter Tryd.func65, Tryd.ntmps65
    go_wp2_with fail
    go_ret2
    exact ⟨by rw [E.out]; rfl, rfl⟩
/-- What a symbol and the bits that follow it say: by lengthBase. -/
theorem value_len {w : World} {r b off cp a f k : Nat} {l : List UInt8} (h : Rdr w r b off cp l a f) (T : Tabs w) (hk : k < 16) (hn : a + lbits k ≤ 8 * l.length) :
    Calls Tryd.prog 64 #[.pointer (some ⟨r, 0, none⟩), .int .i64 k, .func (.func 65) #[] #[]] w (fun e w' => e = .returned (.int .i64 ((basesN.getD k 0 + aheadN l a / 2 ^ (15 - lbits k) : Nat) : Int)) ∧ ∃ v, Below w.heap.size w v ∧ w' = v.setCell ⟨r, 1, none⟩ (.int .i64 ((a + lbits k : Nat) : Int))) := by
  have lb : lbits k ≤ 15 := by unfold lbits; split <;> omega
  have BC := Lib.hid (lengthBase_ok k hk w T)
  have NC := Lib.hid (number_ok h lb hn)
  have b1 : basesN.getD k 0 ≤ 187 := (show ∀ j : Fin 16, basesN.getD j.1 0 ≤ 187 by decide +kernel) ⟨k, hk⟩
  have a1 : aheadN l a / 2 ^ (15 - lbits k) < 32768 := Nat.lt_of_le_of_lt (Nat.div_le_self _ _) (Nat.mod_lt _ (by omega))
  generalize aheadN l a / 2 ^ (15 - lbits k) = x at *
  generalize a + lbits k = m at *
  generalize basesN.getD k 0 = B at *
  generalize lbits k = n at *
  clear h T
  have E := Lib.hid (show ((B : Int) + (x : Int)) = ((B + x : Nat) : Int) by omega)
  go_enter Tryd.func64, Tryd.ntmps64
  go_wp2_with fail
  refine BC.out.mono ?_
  rintro e w1 ⟨rfl, rfl⟩
  go_wp2_with fail
  refine NC.out.mono ?_
  rintro e w1 ⟨rfl, hv⟩
  have HV := Lib.hid hv
  clear hv
  go_wp2_with fail
  go_ret
  exact ⟨by rw [← E.out]; rfl, HV.out⟩
theorem value_dist {w : World} {r b off cp a f k : Nat} {l : List UInt8} (h : Rdr w r b off cp l a f) (hk : k < 30) (hn : a + dbits k ≤ 8 * l.length) :
    Calls Tryd.prog 64 #[.pointer (some ⟨r, 0, none⟩), .int .i64 k, .func (.func 66) #[] #[]] w (fun e w' => e = .returned (.int .i64 ((dbase k + aheadN l a / 2 ^ (15 - dbits k) : Nat) : Int)) ∧ ∃ v, Below w.heap.size w v ∧ w' = v.setCell ⟨r, 1, none⟩ (.int .i64 ((a + dbits k : Nat) : Int))) := by
  have lb : dbits k ≤ 15 := by unfold dbits; split <;> omega
  have BC := Lib.hid (distanceBase_ok k hk w)
  have NC := Lib.hid (number_ok h lb hn)
  have b1 : dbase k ≤ 24577 := (show ∀ j : Fin 30, dbase j.1 ≤ 24577 by decide +kernel) ⟨k, hk⟩
  have a1 : aheadN l a / 2 ^ (15 - dbits k) < 32768 := Nat.lt_of_le_of_lt (Nat.div_le_self _ _) (Nat.mod_lt _ (by omega))
  generalize aheadN l a / 2 ^ (15 - dbits k) = x at *
  generalize a + dbits k = m at *
  generalize dbase k = B at *
  generalize dbits k = n at *
  clear h
  have E := Lib.hid (show ((B : Int) + (x : Int)) = ((B + x : Nat) : Int) by omega)
  go_enter Tryd.func64, Tryd.ntmps64
  go_wp2_with fail
  refine BC.out.mono ?_
  rintro e w1 ⟨rfl, rfl⟩
  go_wp2_with fail
  refine NC.out.mono ?_
  rintro e w1 ⟨rfl, hv⟩
  have HV := Lib.hid hv
  clear hv
  go_wp2_with fail
  go_ret
  exact ⟨by rw [← E.out]; rfl, HV.out⟩
end Go.Proofs.YtfbeipfpkikakaaDoor
