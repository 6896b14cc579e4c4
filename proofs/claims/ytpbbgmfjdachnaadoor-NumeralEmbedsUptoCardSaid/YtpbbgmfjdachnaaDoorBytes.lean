/- Bytes of the document's answer: two texts bytewise. -/
import Derived.Test.YtpbbgmfjdachnaaDoorMonths
import Derived.Test.YtpbbgmfjdachnaaDoorEmb
import Derived.Test.YtpbbgmfjdachnaaDoorOrder
import Derived.Deep.RegionHeld3
namespace Go.Proofs.YtpbbgmfjdachnaaDoor
open Go.RowKit

theorem ints_ok (x y : Int) (w : World) : Calls Tryd.prog 49 #[.int .i64 x, .int .i64 y] w fun e w' => e = .returned (.int .i64 (cmpI x y)) ∧ w = w' := by
  by_cases h : x < y
  · have t1 : decide (x < y) = true := by simpa using h
    have e : cmpI x y = -1 := by unfold cmpI; rw [if_pos h]
    rw [e]
    clear h e
    go_enter Tryd.func49, Tryd.ntmps49
    go_wp2_with fail
    go_ret
    exact ⟨rfl, rfl⟩
  · have t1 : decide (x < y) = false := by simpa using h
    by_cases h2 : y < x
    · have t2 : decide (y < x) = true := by simpa using h2
      have e : cmpI x y = 1 := by unfold cmpI; rw [if_neg h, if_pos h2]
      rw [e]
      clear h h2 e
      go_enter Tryd.func49, Tryd.ntmps49
      go_wp2_with fail
      go_ret
      exact ⟨rfl, rfl⟩
    · have t2 : decide (y < x) = false := by simpa using h2
      have e : cmpI x y = 0 := by unfold cmpI; rw [if_neg h, if_neg h2]
      rw [e]
      clear h h2 e
      go_enter Tryd.func49, Tryd.ntmps49
      go_wp2_with fail
      go_ret
      exact ⟨rfl, rfl⟩

theorem bdrewB {B : Nat} {a w : World} (h : Below B a w) (n : Nat) : Below B a (w.drewN n) := ⟨h.os, h.tape, h.output, h.size, h.block⟩
theorem wrap_byte (c : UInt8) : IntKind.i64.wrap (c.toNat : Int) = c.toNat := by have := c.toNat_lt; rw [IntKind.wrap_i64]; omega
theorem drop_at (s : ByteArray) (k : Nat) (h : k < s.size) : s.data.toList.drop k = s[k] :: s.data.toList.drop (k + 1) := by
  have hl : k < s.data.toList.length := by rw [← Lib.size_eq]; exact h
  rw [List.drop_eq_getElem_cons hl]
  rfl
theorem cmpL_end (A B : List UInt8) (h : A = [] ∨ B = []) : cmpL A B = cmpI A.length B.length := by
  rcases h with rfl | rfl
  · cases B with
    | nil => rfl
    | cons y b => rw [cmpL_left]; unfold cmpI; simp only [List.length_nil, List.length_cons]; split <;> omega
  · cases A with
    | nil => rfl
    | cons y b => rw [cmpL_right]; unfold cmpI; simp only [List.length_nil, List.length_cons]; split <;> (try split) <;> omega

theorem cmpL_stop (a b : ByteArray) (k : Nat) (h1 : k ≤ a.size) (h2 : k ≤ b.size) (h : k = a.size ∨ k = b.size) :
    cmpL (a.data.toList.drop k) (b.data.toList.drop k) = cmpI a.size b.size := by
  have la := Lib.size_eq a
  have lb := Lib.size_eq b
  rw [cmpL_end _ _ (h.elim (fun e => Or.inl (List.drop_eq_nil_of_le (by omega))) (fun e => Or.inr (List.drop_eq_nil_of_le (by omega)))), List.length_drop, List.length_drop, ← la, ← lb]
  unfold cmpI
  split <;> split <;> (try split) <;> (try split) <;> omega

set_option maxRecDepth 100000
theorem bytes_ok (a b : ByteArray) (w : World) (ha : a.size ≤ 140737488351232) (hb : b.size ≤ 140737488351232) :
    Calls Tryd.prog 25 #[.string a, .string b] w (RetBelow w (.int .i64 (cmpL a.data.toList b.data.toList))) := by
  go_enter Tryd.func25, Tryd.ntmps25
  go_wp2_with fail
  go_loopw [5] (fun i wr => ∃ k : Nat, k ≤ a.size ∧ k ≤ b.size ∧ i = .int .i64 k ∧ Below w.heap.size w wr ∧ cmpL a.data.toList b.data.toList = cmpL (a.data.toList.drop k) (b.data.toList.drop k)) (fun i _ => a.size - (intOf i).toNat)
  case atStart => exact ⟨0, by omega, by omega, rfl, Below.refl _ _, rfl⟩
  case round =>
    obtain ⟨k, hk, hk2, rfl, hbl, heq⟩ := hrel
    have HB := Lib.hid hbl
    have HE := Lib.hid heq
    clear hbl heq
    by_cases h1 : k < a.size
    · by_cases h2 : k < b.size
      · have t1 : decide (k < a.size) = true := by simpa using h1
        have t2 : decide (k < b.size) = true := by simpa using h2
        have hd : cmpL (a.data.toList.drop k) (b.data.toList.drop k) = thenC (cmpI a[k].toNat b[k].toNat) (cmpL (a.data.toList.drop (k + 1)) (b.data.toList.drop (k + 1))) := by rw [drop_at a k h1, drop_at b k h2, cmpL_cons]
        have HD := Lib.hid hd
        clear hd
        by_cases hz : a[k] = b[k]
        · have t3 : ((a[k].toNat : Int) != b[k].toNat) = false := by rw [hz]; simp
          have HZ := Lib.hid hz
          have HZ2 := Lib.hid (show cmpI (a[k].toNat : Int) (b[k].toNat : Int) = 0 by rw [hz]; unfold cmpI; simp)
          clear hz
          go_wp2_with fail
          go_quiet (fail)
          go_wp2_with fail
          go_roundw
          case rel => exact ⟨k + 1, by omega, by omega, by go_num, bdrewB HB.out _, by rw [HE.out, HD.out, HZ2.out, thenC_zero]⟩
          case measure => simp [intOf]; omega
        · have t3 : ((a[k].toNat : Int) != b[k].toNat) = true := by
            simp only [bne_iff_ne, ne_eq]
            intro e
            exact hz (UInt8.toNat_inj.mp (by omega))
          have HZ2 := Lib.hid (show cmpI (a[k].toNat : Int) (b[k].toNat : Int) ≠ 0 by
            intro h
            have := cmpI_zero h
            exact hz (UInt8.toNat_inj.mp (by omega)))
          clear hz
          have HI := Lib.hid (fun w => ints_ok (a[k].toNat : Int) (b[k].toNat : Int) w)
          have hwa := wrap_byte a[k]
          have hwb := wrap_byte b[k]
          go_wp2_with fail
          go_quiet (fail)
          go_wp2_with fail
          have HB9 := Lib.hid (bdrewB HB.out nq)
          generalize wr.drewN nq = w9 at *
          go_quiet ((go_at_call 49; exact Calls.quiet_of_same ((HI.out _).mono fun _ _ h => ⟨h.1, h.2.symm⟩)))
          go_wp2_with fail
          go_ret
          refine ⟨?_, bdrewB HB9.out _⟩
          rw [HE.out, HD.out, thenC_ne HZ2.out]; rfl
      · have t1 : decide (k < b.size) = false := by simpa using h2
        have E := Lib.hid (show cmpL (a.data.toList.drop k) (b.data.toList.drop k) = cmpI a.size b.size by
          have e : k = b.size := by omega
          exact cmpL_stop a b k hk hk2 (Or.inr e))
        go_wp2_with fail
        refine (ints_ok _ _ _).mono ?_
        rintro e w2 ⟨rfl, rfl⟩
        go_wp2_with fail
        go_ret
        exact ⟨by rw [HE.out, E.out]; rfl, HB.out⟩
    · have t1 : decide (k < a.size) = false := by simpa using h1
      have E := Lib.hid (show cmpL (a.data.toList.drop k) (b.data.toList.drop k) = cmpI a.size b.size by
        have e : k = a.size := by omega
        exact cmpL_stop a b k hk hk2 (Or.inl e))
      go_wp2_with fail
      refine (ints_ok _ _ _).mono ?_
      rintro e w2 ⟨rfl, rfl⟩
      go_wp2_with fail
      go_ret
      exact ⟨by rw [HE.out, E.out]; rfl, HB.out⟩
end Go.Proofs.YtpbbgmfjdachnaaDoor
