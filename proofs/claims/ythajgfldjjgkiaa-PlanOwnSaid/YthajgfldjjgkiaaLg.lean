/- The lightest; which weights may be, by the document. -/
import Derived.Test.YthajgfldjjgkiaaPt
namespace Go.Proofs.Ythajgfldjjgkiaa
open Go.RowKit
set_option maxRecDepth 100000

def bst : Option Nat → Int
  | none => -1
  | some b => (b : Int)
def LgR (w : World) (A : List Int) (v3 v4 : Value) (wr : World) : Prop := ∃ k : Nat, v3 = .int .i64 (bst (lsG A k)) ∧ v4 = .int .i64 (k : Int) ∧ k ≤ A.length ∧ ∃ m, wr = w.drewN m
theorem lsG_succ_none {A : List Int} {k : Nat} (h : lsG A k = none) (x : Int) (hx : A.getD k (-1) = x) : lsG A (k + 1) = if 0 ≤ x then some k else none := by
  rw [lsG, h, hx]
theorem lsG_succ_some {A : List Int} {k b : Nat} (h : lsG A k = some b) (x y : Int) (hx : A.getD k (-1) = x) (hy : A.getD b (-1) = y) : lsG A (k + 1) = if 0 ≤ x ∧ x < y then some k else some b := by
  rw [lsG, h]
  simp only [hx, hy]
set_option maxHeartbeats 3200000 in
theorem lightest_ok {w : World} {v : Value} {A : List Int} (hv : SlI w v A) (hA : A.length ≤ 1000000) (h0 : A ≠ []) : Calls Try.prog 37 #[v] w (Qt w (.int .i64 (bst (lsG A A.length)))) := by
  obtain ⟨b, off, c, rfl, hc, hb, hcell⟩ := hv.get h0
  have HC := Lib.hid hcell
  have ST := Lib.hid (show LgR w A (.int .i64 (-1)) (.int .i64 0) w from ⟨0, rfl, rfl, Nat.zero_le _, 0, rfl⟩)
  clear hv hcell h0
  go_enter Try.func37, Try.ntmps37
  go_wp2_with fail
  go_loopw [3, 4] (fun v3 v4 wr => LgR w A v3 v4 wr) (fun _ v4 _ => A.length - (intOf v4).toNat)
  case atStart => exact ST.out
  case round =>
    clear ST
    obtain ⟨k, rfl, rfl, hk, m, hm⟩ := hrel
    have HM := Lib.hid hm
    have HC2 := Lib.hid (show ∀ (j : Nat) (hj : j < A.length), wr.cell? ⟨b, off + j, none⟩ = some (.int .i64 A[j]) from by rw [hm]; exact HC.out)
    have NEXT := Lib.hid (fun (o : Option Nat) (h : lsG A (k + 1) = o) (hlt : k < A.length) (n : Nat) => show LgR w A (.int .i64 (bst o)) (.int .i64 ((k : Int) + 1)) (wr.drewN n) from ⟨k + 1, by rw [h], by congr 1, hlt, m + n, by rw [hm, World.drewN_drewN]⟩)
    clear hm
    by_cases hlt : k < A.length
    · have t1 : decide ((k : Int) < (A.length : Int)) = true := decide_eq_true (by omega)
      have t1n : decide (k < A.length) = true := decide_eq_true hlt
      have ik : (k : Int) < (A.length : Int) := by omega
      have ik0 : (0 : Int) ≤ (k : Int) := by omega
      have ck := HC2.out k hlt
      have gk : A.getD k (-1) = A[k] := by simp [hlt]
      have NX := Lib.hid (fun o h => NEXT.out o h hlt)
      have ME := Lib.hid (show A.length - ((k : Int) + 1).toNat < A.length - (k : Int).toNat by omega)
      cases hl : lsG A k with
      | none =>
        have S := Lib.hid (lsG_succ_none hl _ gk)
        rw [show bst none = -1 from rfl]
        clear hl gk NEXT
        generalize A[k] = x at *
        by_cases hx : 0 ≤ x
        · have t2 : decide (0 ≤ x) = true := decide_eq_true hx
          have N2 := Lib.hid (NX.out (some k) (by rw [S.out, if_pos hx]))
          clear NX S hx
          go_wp2_with fail
          go_quiet (fail)
          go_wp2_with fail
          go_roundw
          case rel => exact N2.out _
          case measure => exact ME.out
        · have t2 : decide (0 ≤ x) = false := decide_eq_false hx
          have N2 := Lib.hid (NX.out none (by rw [S.out, if_neg hx]))
          clear NX S hx
          go_wp2_with fail
          go_quiet (fail)
          go_wp2_with fail
          go_roundw
          case rel => exact N2.out _
          case measure => exact ME.out
      | some z =>
        rw [show bst (some z) = (z : Int) from rfl]
        obtain ⟨hz1, hz2, _⟩ := lsG_some hl
        have hzl : z < A.length := by omega
        have gz : A.getD z (-1) = A[z] := by simp [hzl]
        have cz := HC2.out z hzl
        have S := Lib.hid (lsG_succ_some hl _ _ gk gz)
        have iz : (z : Int) < (A.length : Int) := by omega
        have iz0 : (0 : Int) ≤ (z : Int) := by omega
        have tz : decide ((z : Int) < 0) = false := decide_eq_false (by omega)
        clear hl gk gz hz1 hz2 NEXT
        generalize A[k] = x at *
        generalize A[z] = y at *
        by_cases hx : 0 ≤ x
        · have t2 : decide (0 ≤ x) = true := decide_eq_true hx
          by_cases hxy : x < y
          · have t3 : decide (x < y) = true := decide_eq_true hxy
            have N2 := Lib.hid (NX.out (some k) (by rw [S.out, if_pos ⟨hx, hxy⟩]))
            clear NX S hx hxy
            go_wp2_with fail
            go_quiet (fail)
            go_wp2_with fail
            go_roundw
            case rel => exact N2.out _
            case measure => exact ME.out
          · have t3 : decide (x < y) = false := decide_eq_false hxy
            have N2 := Lib.hid (NX.out (some z) (by rw [S.out, if_neg (fun h => hxy h.2)]))
            clear NX S hx hxy
            go_wp2_with fail
            go_quiet (fail)
            go_wp2_with fail
            go_roundw
            case rel => exact N2.out _
            case measure => exact ME.out
        · have t2 : decide (0 ≤ x) = false := decide_eq_false hx
          have N2 := Lib.hid (NX.out (some z) (by rw [S.out, if_neg (fun h => hx h.1)]))
          clear NX S hx
          go_wp2_with fail
          go_quiet (fail)
          go_wp2_with fail
          go_roundw
          case rel => exact N2.out _
          case measure => exact ME.out
    · have t1 : decide ((k : Int) < (A.length : Int)) = false := decide_eq_false (by omega)
      have t1n : decide (k < A.length) = false := decide_eq_false hlt
      have ek : k = A.length := by omega
      subst ek
      go_wp2_with fail
      go_ret
      exact ⟨rfl, _, HM.out⟩
end Go.Proofs.Ythajgfldjjgkiaa
