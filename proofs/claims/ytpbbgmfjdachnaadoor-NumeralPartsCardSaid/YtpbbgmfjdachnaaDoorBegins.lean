/- begins and zerosAlone of the statements. -/
import Derived.Test.YtpbbgmfjdachnaaDoorMonths
namespace Go.Proofs.YtpbbgmfjdachnaaDoor
open Go.RowKit

/-- Does the first begin with the second? -/
def begS (a b : List UInt8) : Bool := decide (a.take b.length = b)
theorem begS_size {a b : ByteArray} (h : ¬ b.size ≤ a.size) : begS a.data.toList b.data.toList = false := by
  unfold begS
  apply decide_eq_false
  intro e
  have := congrArg List.length e
  rw [List.length_take, ← Lib.size_eq, ← Lib.size_eq] at this
  omega
theorem begS_cut (a b : ByteArray) : ((a.extract 0 b.size).toList == b.toList) = begS a.data.toList b.data.toList := by
  unfold begS
  rw [Lib.toList_data, Lib.toList_data, Lib.extract_from_zero, Lib.size_eq b, Bool.eq_iff_iff]
  simp

set_option maxRecDepth 100000
theorem bgs_ok (a b : ByteArray) (w : World) :
    Calls Tryd.prog 18 #[.string a, .string b] w (RetBelow w (.bool (begS a.data.toList b.data.toList))) := by
  by_cases h : b.size ≤ a.size
  · have t1 : decide (b.size ≤ a.size) = true := by simpa using h
    go_enter Tryd.func18, Tryd.ntmps18
    go_wp2_with fail
    go_ret
    refine ⟨?_, Below.refl _ _⟩
    rw [← begS_cut]
    rfl
  · have t1 : decide (b.size ≤ a.size) = false := by simpa using h
    rw [begS_size h]
    clear h
    go_enter Tryd.func18, Tryd.ntmps18
    go_wp2_with fail
    go_ret
    exact ⟨rfl, Below.refl _ _⟩

theorem zeros_ok (s : ByteArray) (w : World) (hs : s.size ≤ 140737488351232) :
    Calls Tryd.prog 19 #[.string s] w (RetBelow w (.bool (s.data.toList.all (· == 48)))) := by
  go_enter Tryd.func19, Tryd.ntmps19
  go_wp2_with fail
  go_loopw [3] (fun i wr => ∃ k : Nat, k ≤ s.size ∧ i = .int .i64 k ∧ wr = w ∧ (s.data.toList.take k).all (· == 48) = true) (fun i _ => s.size - (intOf i).toNat)
  case atStart => exact ⟨0, by omega, rfl, rfl, by simp⟩
  case round =>
    obtain ⟨k, hk, rfl, rfl, hal⟩ := hrel
    have HAL := Lib.hid hal
    clear hal
    by_cases hlt : k < s.size
    · have hg : s.data.toList[k]? = some s[k] := by
        rw [Array.getElem?_toList]; exact Array.getElem?_eq_getElem hlt
      have HG := Lib.hid hg
      clear hg
      by_cases hz : s[k] = 48
      · have t1 : ((s[k].toNat : Int) != 48) = false := by rw [hz]; rfl
        have HZ := Lib.hid hz
        clear hz
        go_wp2_with fail
        refine ⟨⟨k + 1, by omega, rfl, trivial, ?_⟩, ?_⟩
        · rw [List.take_add_one, List.all_append, HAL.out, HG.out, HZ.out]; rfl
        · show s.size - ((k : Int) + 1).toNat < s.size - (k : Int).toNat
          omega
      · have t1 : ((s[k].toNat : Int) != 48) = true := by
          simp only [bne_iff_ne, ne_eq]
          intro e
          exact hz (UInt8.toNat_inj.mp (by have : s[k].toNat = 48 := by omega
                                           rw [this]; rfl))
        have HZ := Lib.hid hz
        clear hz
        go_wp2_with fail
        go_ret
        have e : (s.data.toList.all (· == 48)) = false := by
          rw [List.all_eq_false]
          exact ⟨s[k], List.mem_of_getElem? HG.out, by simpa using HZ.out⟩
        exact ⟨by rw [e]; rfl, Below.refl _ _⟩
    · have hks : k = s.size := by omega
      subst hks
      go_wp2_with fail
      go_ret
      have e : (s.data.toList.all (· == 48)) = true := by
        have := HAL.out
        rwa [Lib.size_eq, List.take_length] at this
      exact ⟨by rw [e]; rfl, Below.refl _ _⟩
end Go.Proofs.YtpbbgmfjdachnaaDoor
