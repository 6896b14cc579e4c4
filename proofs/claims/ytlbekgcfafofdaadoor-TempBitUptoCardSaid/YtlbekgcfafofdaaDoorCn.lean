/- A clean name, as the document asks. -/
import Derived.Test.YtlbekgcfafofdaaDoorBx
namespace Go.Proofs.YtlbekgcfafofdaaDoor
open Go.RowKit
set_option maxRecDepth 100000

def CnRel (l : List UInt8) (i : Value) : Prop := ∃ k : Nat, k ≤ l.length ∧ i = .int .i64 k ∧ (l.take k).contains 0 = false
set_option maxHeartbeats 1600000 in
theorem dclean_ok (s : ByteArray) (m : Nat) (w : World) (hs : s.size ≤ 140737488355328) : Calls Tryd.prog 38 #[.string s, .int .i64 m] w (Same w (.bool (cleanB s m))) := by
  obtain ⟨B, hB⟩ : ∃ B, B = cleanB s m := ⟨_, rfl⟩
  rw [← hB]
  have HB := Lib.hid (show B = (decide (1 ≤ s.size) && (decide (s.size ≤ m) && !s.data.toList.contains 0)) from hB)
  clear hB
  by_cases h1 : 1 ≤ s.size
  · have t1n : decide (1 ≤ s.size) = true := decide_eq_true h1
    have q1 : ((s.size : Int) == 0) = false := by simp only [beq_eq_false_iff_ne]; omega
    have q2 : (s.size == 0) = false := by simp only [beq_eq_false_iff_ne]; omega
    have q3 : decide ((s.size : Int) = 0) = false := decide_eq_false (by omega)
    by_cases h2 : s.size ≤ m
    · have t2 : decide ((m : Int) < (s.size : Int)) = false := decide_eq_false (by omega)
      have t2m : decide (m < s.size) = false := decide_eq_false (by omega)
      have t2n : decide (s.size ≤ m) = true := decide_eq_true h2
      have HB2 := Lib.hid (show B = !s.data.toList.contains 0 by rw [HB.out, t1n, t2n]; rfl)
      have HS := Lib.hid (Lib.size_eq s)
      clear h1 h2 t1n t2n
      go_enter Tryd.func38, Tryd.ntmps38
      go_wp2_with fail
      go_loop [5] (fun i => CnRel s.data.toList i) (fun i => s.size - (intOf i).toNat)
      case atStart => exact ⟨0, Nat.zero_le _, rfl, rfl⟩
      case round =>
        obtain ⟨k, hk, rfl, hc⟩ := hrel
        rw [← HS.out] at hk
        have HC := Lib.hid hc
        clear hc
        by_cases hlt : k < s.size
        · have hlt2 : k < s.data.toList.length := by rw [← HS.out]; exact hlt
          have e1 : s.data.toList.take (k + 1) = s.data.toList.take k ++ [s[k]] := by rw [List.take_succ_eq_append_getElem hlt2]; rfl
          have E1 := Lib.hid e1
          have hb := s[k].toNat_lt
          by_cases hz : s[k] = 0
          · have z1 : s[k].toNat = 0 := by rw [hz]; rfl
            have hf : s.data.toList.contains 0 = true := by
              rw [← List.take_append_drop (k + 1) s.data.toList, e1, hz]; simp
            have HF := Lib.hid hf
            clear e1 hf hz
            have y1 : ((s[k].toNat : Int) == 0) = true := by rw [z1]; rfl
            have y2 : (s[k].toNat == 0) = true := by rw [z1]; rfl
            clear z1
            go_wp2_with fail
            go_ret
            exact ⟨by rw [HB2.out, HF.out]; rfl, rfl⟩
          · have z1 : s[k].toNat ≠ 0 := fun e => hz (UInt8.toNat_inj.1 e)
            have y1 : ((s[k].toNat : Int) == 0) = false := by simp only [beq_eq_false_iff_ne]; omega
            have y2 : (s[k].toNat == 0) = false := by simp only [beq_eq_false_iff_ne]; omega
            have KEY := Lib.hid (show CnRel s.data.toList (.int .i64 ((k : Int) + 1)) from ⟨k + 1, hlt2, by go_num, by
              rw [e1, List.contains_eq_mem, decide_eq_false_iff_not, List.mem_append]
              have h0 := HC.out
              rw [List.contains_eq_mem, decide_eq_false_iff_not] at h0
              rintro (h | h)
              · exact h0 h
              · simp at h; exact hz h.symm⟩)
            clear e1 hz z1
            go_wp2_with fail
            exact ⟨KEY.out, by simp [intOf]; omega⟩
        · have hf : s.data.toList.contains 0 = false := by
            have h0 := HC.out
            rwa [List.take_of_length_le (by rw [← HS.out]; omega)] at h0
          have HF := Lib.hid hf
          clear hf
          go_wp2_with fail
          go_ret
          exact ⟨by rw [HB2.out, HF.out]; rfl, rfl⟩
    · have t2 : decide ((m : Int) < (s.size : Int)) = true := decide_eq_true (by omega)
      have t2m : decide (m < s.size) = true := decide_eq_true (by omega)
      have t2n : decide (s.size ≤ m) = false := decide_eq_false h2
      have HB2 := Lib.hid (show B = false by rw [HB.out, t2n, Bool.false_and, Bool.and_false])
      clear h1 h2
      go_enter Tryd.func38, Tryd.ntmps38
      go_wp2_with fail
      go_ret
      exact ⟨by rw [HB2.out]; rfl, rfl⟩
  · have e0 : s.size = 0 := by omega
    have t1n : decide (1 ≤ s.size) = false := decide_eq_false h1
    have HB2 := Lib.hid (show B = false by rw [HB.out, t1n, Bool.false_and])
    have q1 : ((s.size : Int) == 0) = true := by rw [e0]; rfl
    have q2 : (s.size == 0) = true := by rw [e0]; rfl
    have q3 : decide ((s.size : Int) = 0) = true := decide_eq_true (by omega)
    clear h1 t1n e0
    go_enter Tryd.func38, Tryd.ntmps38
    go_wp2_with fail
    go_ret
    exact ⟨by rw [HB2.out]; rfl, rfl⟩
end Go.Proofs.YtlbekgcfafofdaaDoor
