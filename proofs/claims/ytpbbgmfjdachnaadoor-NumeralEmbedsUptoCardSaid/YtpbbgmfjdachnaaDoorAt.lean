/- Small calls of numeral: a byte of a text, is it a digit, does a text begin with a word. -/
import Derived.Test.YtpbbgmfjdachnaaDoorSpec
import Derived.Test.YtpbbgmfjdachnaaDoorShelf
import Derived.Shelf.Strings.SlTrimAscii
import Derived.Shelf.Strings.IndexAnyAll
import Derived.WalkKit
import Derived.WalkSpells
import Derived.WalkLawsBesides
import Derived.Lib.Hide
import Derived.IntWalk
import Derived.Laws.BitsAllLaws
import Derived.Deep.QuietTactic
import Derived.BigQuiet
namespace Go.Proofs.YtpbbgmfjdachnaaDoor
open Go.RowKit

theorem get_atB (s : ByteArray) (k : Nat) (h : k < s.size) : atB s.data.toList k = s[k] := by
  unfold atB
  have h' : k < s.data.toList.length := by rw [← Lib.size_eq]; exact h
  rw [List.getD_eq_getElem?_getD, List.getElem?_eq_getElem h']
  rfl

theorem atB_end (s : ByteArray) (k : Nat) (h : ¬ k < s.size) : atB s.data.toList k = 0 := by
  have : s.data.toList.length ≤ k := by rw [← Lib.size_eq]; omega
  unfold atB
  rw [List.getD_eq_getElem?_getD, List.getElem?_eq_none this]; rfl

set_option maxHeartbeats 400000 in
theorem at_ok (s : ByteArray) (i : Nat) (w : World) :
    Calls Tryd.prog 66 #[.string s, .int .i64 i] w fun e w' => e = .returned (.int .u8 (atB s.data.toList i).toNat) ∧ w = w' := by
  by_cases h : i < s.size
  · have e := get_atB s i h
    go_enter Tryd.func66, Tryd.ntmps66
    go_wp2_with fail
    go_ret
    exact ⟨by rw [e]; rfl, rfl⟩
  · have e := atB_end s i h
    go_enter Tryd.func66, Tryd.ntmps66
    go_wp2_with fail
    go_ret
    exact ⟨by rw [e]; rfl, rfl⟩

set_option maxHeartbeats 400000 in
theorem isDigit_ok (c : UInt8) (w : World) :
    Calls Tryd.prog 68 #[.int .u8 c.toNat] w fun e w' => e = .returned (.bool (isDig c)) ∧ w = w' := by
  by_cases h1 : (48 : Int) ≤ c.toNat
  · by_cases h2 : (c.toNat : Int) ≤ 57
    · have E := Lib.hid (show isDig c = true by unfold isDig; rw [decide_eq_true (by omega), decide_eq_true (by omega)]; rfl)
      go_enter Tryd.func68, Tryd.ntmps68
      go_wp2_with fail
      go_ret
      exact ⟨by rw [E.out]; rfl, rfl⟩
    · have E := Lib.hid (show isDig c = false by unfold isDig; rw [decide_eq_false (p := c.toNat ≤ 57) (by omega), Bool.and_false])
      have h2' : decide ((c.toNat : Int) ≤ 57) = false := decide_eq_false h2
      go_enter Tryd.func68, Tryd.ntmps68
      go_wp2_with fail
      go_ret
      exact ⟨by rw [E.out]; rfl, rfl⟩
  · have E := Lib.hid (show isDig c = false by unfold isDig; rw [decide_eq_false (p := 48 ≤ c.toNat) (by omega), Bool.false_and])
    have h1' : decide ((48 : Int) ≤ c.toNat) = false := decide_eq_false h1
    go_enter Tryd.func68, Tryd.ntmps68
    go_wp2_with fail
    go_ret
    exact ⟨by rw [E.out]; rfl, rfl⟩

theorem begB_nil (l : List UInt8) : begB l [] = true := rfl
theorem begB_short : ∀ {l w : List UInt8}, l.length < w.length → begB l w = false
  | l, [], h => by simp at h
  | [], c :: w, _ => rfl
  | x :: l, c :: w, h => by
    show ((x ||| 32 == c) && begB l w) = false
    rw [begB_short (by simpa using h), Bool.and_false]
/-- As far as k both agree. -/
theorem begB_step : ∀ {l w : List UInt8} (k : Nat), k < w.length → k < l.length → begB (l.drop k) (w.drop k) = ((atB l k ||| 32 == atB w k) && begB (l.drop (k + 1)) (w.drop (k + 1)))
  | l, w, k, h1, h2 => by
    rw [List.drop_eq_getElem_cons h2, List.drop_eq_getElem_cons h1]
    have e1 : atB l k = l[k] := by unfold atB; rw [List.getD_eq_getElem?_getD, List.getElem?_eq_getElem h2]; rfl
    have e2 : atB w k = w[k] := by unfold atB; rw [List.getD_eq_getElem?_getD, List.getElem?_eq_getElem h1]; rfl
    rw [e1, e2]
    rfl

def BeginsPost (w : World) (r : Bool) (e : Ending) (w' : World) : Prop := e = .returned (.bool r) ∧ ∃ n, w' = w.drewN n
def BegRel (w : World) (s t : ByteArray) (i : Value) (wr : World) : Prop :=
  ∃ k : Nat, k ≤ t.size ∧ i = .int .i64 k ∧ begB (s.data.toList.drop k) (t.data.toList.drop k) = begB s.data.toList t.data.toList ∧ ∃ n, wr = w.drewN n

set_option maxHeartbeats 800000 in
theorem begins_ok (s t : ByteArray) (w : World) (hs : s.size ≤ maxLen) :
    Calls Tryd.prog 38 #[.string s, .string t] w (BeginsPost w (begB s.data.toList t.data.toList)) := by
  unfold maxLen at hs
  by_cases h : s.size < t.size
  · have E := Lib.hid (show begB s.data.toList t.data.toList = false from begB_short (by rw [← Lib.size_eq, ← Lib.size_eq]; exact h))
    go_enter Tryd.func38, Tryd.ntmps38
    go_wp2_with fail
    go_ret
    exact ⟨by rw [E.out]; rfl, 0, rfl⟩
  · go_enter Tryd.func38, Tryd.ntmps38
    go_wp2_with fail
    go_loopw [13] (fun i wr => BegRel w s t i wr) (fun i _ => t.size - (intOf i).toNat)
    case atStart => exact ⟨0, Nat.zero_le _, rfl, rfl, 0, rfl⟩
    case round =>
      obtain ⟨k, hk, rfl, hb, n, rfl⟩ := hrel
      have HB := Lib.hid hb
      clear hb
      by_cases hlt : k < t.size
      · have hks : k < s.size := by omega
        have HS := Lib.hid (begB_step (l := s.data.toList) (w := t.data.toList) k (by rw [← Lib.size_eq]; exact hlt) (by rw [← Lib.size_eq]; exact hks))
        have g1 := Lib.hid (get_atB s k hks)
        have g2 := Lib.hid (get_atB t k hlt)
        have bo : bits .or .u8 (s[k].toNat : Int) 32 = ((s[k].toNat ||| 32 : Nat) : Int) := u8_or_nat _ 32 s[k].toNat_lt (by omega)
        have eo : (s[k] ||| 32).toNat = s[k].toNat ||| 32 := UInt8.toNat_or _ _
        by_cases hx : s[k] ||| 32 = t[k]
        · have t1 : (((s[k].toNat ||| 32 : Nat) : Int) != (t[k].toNat : Int)) = false := by rw [← eo, hx]; simp
          clear eo
          have HX := Lib.hid hx
          clear hx
          go_wp2_with fail
          go_quiet (fail)
          go_wp2_with fail
          exact ⟨⟨k + 1, by omega, by go_num, by rw [← HB.out, HS.out, g1.out, g2.out, HX.out]; simp, _, rfl⟩, by simp [intOf]; omega⟩
        · have t1 : (((s[k].toNat ||| 32 : Nat) : Int) != (t[k].toNat : Int)) = true := by
            rw [bne_iff_ne, ← eo]
            intro e
            exact hx (UInt8.toNat_inj.1 (by omega))
          clear eo
          have HX := Lib.hid hx
          clear hx
          go_wp2_with fail
          go_quiet (fail)
          go_wp2_with fail
          go_ret
          refine ⟨?_, _, by simp; rfl⟩
          rw [← HB.out, HS.out, g1.out, g2.out, beq_eq_false_iff_ne.2 HX.out, Bool.false_and]
          rfl
      · have hk' : k = t.size := by omega
        subst hk'
        go_wp2_with fail
        go_ret
        refine ⟨?_, _, rfl⟩
        rw [← HB.out, Lib.size_eq t, List.drop_length, begB_nil]
        rfl
end Go.Proofs.YtpbbgmfjdachnaaDoor
