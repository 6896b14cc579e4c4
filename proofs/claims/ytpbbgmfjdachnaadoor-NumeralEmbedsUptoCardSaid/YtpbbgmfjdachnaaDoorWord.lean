/- numeral's words: inf, infinity, nan. -/
import Derived.Test.YtpbbgmfjdachnaaDoorExp
import Derived.Test.YtpbbgmfjdachnaaDoorVer2
namespace Go.Proofs.YtpbbgmfjdachnaaDoor
open Go.RowKit

def wordN (k : Nat) : List UInt8 := [wInfinity, wInf, wNan].getD k []
def wordC (k : Nat) : Int := [(4 : Int), 4, 1].getD k 0
theorem index_words (k : Nat) (h : k < 3) (w : World) : (Instr.index 122 (.agg cWords) (.int .i64 k)).run Tryd.prog w = .ok (.agg #[.string (bs (wordN k)), .int .u8 (wordC k)]) w := by
  obtain rfl | rfl | rfl : k = 0 ∨ k = 1 ∨ k = 2 := by omega
  all_goals kernel_rfl
theorem info122 : (Tryd.prog.info? 122).map (·.size) = some cWords.size := by kernel_rfl

def WordRel (w : World) (l : List UInt8) (i : Value) (wr : World) : Prop :=
  ∃ k : Nat, k ≤ 3 ∧ i = .int .i64 k ∧ (∀ j, j < k → begB l (wordN j) = false) ∧ Below w.heap.size w wr

theorem wordS_hit {l : List UInt8} {k : Nat} (hk : k < 3) (lo : ∀ j, j < k → begB l (wordN j) = false) (h : begB l (wordN k) = true) (neg : Bool) :
    wordS l neg = ((if wordC k = 4 ∧ neg = true then 2 else (wordC k).toNat), (bs (wordN k)).size) := by
  rw [bs_size]
  obtain rfl | rfl | rfl : k = 0 ∨ k = 1 ∨ k = 2 := by omega
  · have h' : begB l wInfinity = true := h
    unfold wordS; rw [if_pos h']; cases neg <;> rfl
  · have h0 : begB l wInfinity = false := lo 0 (by omega)
    have h' : begB l wInf = true := h
    unfold wordS; rw [h0, if_neg (by simp), if_pos h']; cases neg <;> rfl
  · have h0 : begB l wInfinity = false := lo 0 (by omega)
    have h1 : begB l wInf = false := lo 1 (by omega)
    have h' : begB l wNan = true := h
    unfold wordS; rw [h0, h1, if_neg (by simp), if_neg (by simp), if_pos h']; cases neg <;> rfl
theorem wordS_miss {l : List UInt8} (lo : ∀ j, j < 3 → begB l (wordN j) = false) (neg : Bool) : wordS l neg = (0, 0) := by
  have h0 : begB l wInfinity = false := lo 0 (by omega)
  have h1 : begB l wInf = false := lo 1 (by omega)
  have h2 : begB l wNan = false := lo 2 (by omega)
  unfold wordS; rw [h0, h1, h2]; rfl

theorem bdrew {B : Nat} {a w : World} (h : Below B a w) (n : Nat) : Below B a (w.drewN n) := ⟨h.os, h.tape, h.output, h.size, h.block⟩
theorem RetBelow.mk {w w' : World} {v v' : Value} (h : v' = v) (b : Below w.heap.size w w') : RetBelow w v (.returned v') w' := ⟨by rw [h], b⟩
theorem wpair_eq {a b c d : Int} (h1 : a = c) (h2 : b = d) : Value.tuple #[.int .u8 a, .int .i64 b] = .tuple #[.int .u8 c, .int .i64 d] := by rw [h1, h2]

set_option maxRecDepth 100000 in
set_option maxHeartbeats 1600000 in
theorem wordAt_ok (s : ByteArray) (neg : Bool) (w : World) (hs : s.size ≤ 1125899906842624) (T : Tabs w) :
    Calls Tryd.prog 67 #[.string s, .bool neg] w (RetBelow w (.tuple #[.int .u8 ((wordS s.data.toList neg).1 : Nat), .int .i64 ((wordS s.data.toList neg).2 : Nat)])) := by
  obtain ⟨t0, fr0, hm⟩ := T.words
  go_enter Tryd.func67, Tryd.ntmps67
  go_wp2_with (refine wpList_load_row rfl _ _ rfl 2 rfl t0 cWords fr0 _ hm Tryd.underlying122 rfl info122 ?_)
  clear hm
  go_loopw [9] (fun i wr => WordRel w s.data.toList i wr) (fun i _ => 3 - (intOf i).toNat)
  case atStart => exact ⟨0, by omega, rfl, fun j hj => by omega, Below.refl _ _⟩
  case round =>
    obtain ⟨k, hk, rfl, hlo, hb⟩ := hrel
    have HLO := Lib.hid hlo
    have HB := Lib.hid hb
    clear hlo hb
    by_cases hlt : k < 3
    · have hx := index_words k hlt
      cases hbg : begB s.data.toList (wordN k) with
      | true =>
        have R := Lib.hid (wordS_hit hlt HLO.out hbg neg)
        have HG := Lib.hid hbg
        have HW := Lib.hid (bs_list (wordN k))
        clear hbg
        by_cases h4 : wordC k = 4
        · have t4 : (wordC k == 4) = true := by rw [beq_iff_eq]; exact h4
          have H4 := Lib.hid h4
          clear h4
          cases neg with
          | true =>
            go_wp2_with (refine (begins_ok s _ _ (Nat.le_trans hs (by decide))).mono ?_; rintro e w' ⟨rfl, n, rfl⟩; rw [HW.out, HG.out])
            go_quiet (fail)
            go_wp2_with fail
            go_ret2
            refine RetBelow.mk (wpair_eq ?_ ?_) ?_
            · rw [R.out]; rw [if_pos ⟨H4.out, by trivial⟩]; rfl
            · rw [R.out]
            · exact bdrew (bdrew (HB.out.alloc HB.out.size _) _) _
          | false =>
            go_wp2_with (refine (begins_ok s _ _ (Nat.le_trans hs (by decide))).mono ?_; rintro e w' ⟨rfl, n, rfl⟩; rw [HW.out, HG.out])
            go_quiet (fail)
            go_wp2_with fail
            go_ret2
            refine RetBelow.mk (wpair_eq ?_ ?_) ?_
            · rw [R.out]; rw [if_neg (by simp)]; have := H4.out; omega
            · rw [R.out]
            · exact bdrew (bdrew (HB.out.alloc HB.out.size _) _) _
        · have t4 : (wordC k == 4) = false := by rw [beq_eq_false_iff_ne]; exact h4
          have H4 := Lib.hid h4
          have HP := Lib.hid (show 0 ≤ wordC k by obtain rfl | rfl | rfl : k = 0 ∨ k = 1 ∨ k = 2 := by omega
                                                  all_goals decide)
          clear h4
          go_wp2_with (refine (begins_ok s _ _ (Nat.le_trans hs (by decide))).mono ?_; rintro e w' ⟨rfl, n, rfl⟩; rw [HW.out, HG.out])
          go_quiet (fail)
          go_wp2_with fail
          go_ret2
          refine RetBelow.mk (wpair_eq ?_ ?_) ?_
          · rw [R.out]; rw [if_neg (by simp [H4.out])]; have := HP.out; omega
          · rw [R.out]
          · exact bdrew (bdrew (HB.out.alloc HB.out.size _) _) _
      | false =>
        have HG := Lib.hid hbg
        have HW := Lib.hid (bs_list (wordN k))
        clear hbg
        go_wp2_with (refine (begins_ok s _ _ (Nat.le_trans hs (by decide))).mono ?_; rintro e w' ⟨rfl, n, rfl⟩; rw [HW.out, HG.out])
        go_roundw
        case rel => exact ⟨k + 1, by omega, by go_num, fun j hj => by
            by_cases e : j = k
            · subst e; exact HG.out
            · exact HLO.out j (by omega), bdrew (HB.out.alloc HB.out.size _) _⟩
        case measure => simp [intOf]; omega
    · have hk3 : k = 3 := by omega
      subst hk3
      have R := Lib.hid (wordS_miss HLO.out neg)
      go_wp2_with fail
      go_ret2
      refine RetBelow.mk (wpair_eq ?_ ?_) HB.out
      · rw [R.out]; rfl
      · rw [R.out]; rfl
end Go.Proofs.YtpbbgmfjdachnaaDoor
