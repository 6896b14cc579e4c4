/- digits, and the document's Number. -/
import Derived.Test.YtbgbmojoldkcfaaDoorNum
import Derived.Test.YtbgbmojoldkcfaaDoorProg
import Derived.Below
import Derived.WalkKit
import Derived.WalkSpells
import Derived.WalkLawsBesides
import Derived.Lib.Hide
import Derived.IntWalk
import Derived.Laws.BitsAllLaws
namespace Go.Proofs.YtbgbmojoldkcfaaDoor
open Go.RowKit

theorem list_at (s : ByteArray) (k : Nat) (h : k < s.size) : s.data.toList[k]'(by rw [← Lib.size_eq]; exact h) = s[k] := rfl
theorem dg_cases (c : UInt8) : (isDg c = true ∧ 48 ≤ c.toNat ∧ c.toNat ≤ 57) ∨ (isDg c = false ∧ c.toNat < 48) ∨ (isDg c = false ∧ 48 ≤ c.toNat ∧ 57 < c.toNat) := by
  unfold isDg
  by_cases h1 : 48 ≤ c.toNat
  · by_cases h2 : c.toNat ≤ 57
    · exact Or.inl ⟨by simp [h1, h2], h1, h2⟩
    · exact Or.inr (Or.inr ⟨by simp [h2], h1, by omega⟩)
  · exact Or.inr (Or.inl ⟨by simp [h1], by omega⟩)
theorem digit_ok (c : UInt8) (w : World) : Calls Tryd.prog 34 #[.int .u8 c.toNat] w fun e w' => e = .returned (.bool (isDg c)) ∧ w = w' := by
  have hc := c.toNat_lt
  rcases dg_cases c with ⟨h, h1, h2⟩ | ⟨h, h1⟩ | ⟨h, h1, h2⟩
  · rw [h]
    have t1 : decide ((48 : Int) ≤ (c.toNat : Int)) = true := by simp only [decide_eq_true_eq]; omega
    have t2 : decide ((c.toNat : Int) ≤ 57) = true := by simp only [decide_eq_true_eq]; omega
    clear h
    go_enter Tryd.func34, Tryd.ntmps34
    go_wp2_with fail
    go_ret
    exact ⟨rfl, rfl⟩
  · rw [h]
    have t1 : decide ((48 : Int) ≤ (c.toNat : Int)) = false := by simp only [decide_eq_false_iff_not]; omega
    clear h
    go_enter Tryd.func34, Tryd.ntmps34
    go_wp2_with fail
    go_ret
    exact ⟨rfl, rfl⟩
  · rw [h]
    have t1 : decide ((48 : Int) ≤ (c.toNat : Int)) = true := by simp only [decide_eq_true_eq]; omega
    have t2 : decide ((c.toNat : Int) ≤ 57) = false := by simp only [decide_eq_false_iff_not]; omega
    clear h
    go_enter Tryd.func34, Tryd.ntmps34
    go_wp2_with fail
    go_ret
    exact ⟨rfl, rfl⟩

set_option maxHeartbeats 800000 in
theorem digits_ok (s : ByteArray) (b : Nat) (hb : b ≤ 2147483647) (w : World) (hs : s.size ≤ 140737488351232) :
    Calls Tryd.prog 15 #[.string s, .int .i64 b] w fun e w' => e = .returned (.tuple #[.int .i64 (valS b 0 s.data.toList).1, .int .i64 (valS b 0 s.data.toList).2]) ∧ w = w' := by
  go_enter Tryd.func15, Tryd.ntmps15
  go_wp2_with fail
  go_loop [6, 7] (fun v i => ∃ k n : Nat, k ≤ s.size ∧ n ≤ b ∧ i = .int .i64 k ∧ v = .int .i64 n ∧ (valS b n (s.data.toList.drop k)).1 = (valS b 0 s.data.toList).1 ∧ (valS b n (s.data.toList.drop k)).2 + k = (valS b 0 s.data.toList).2) (fun _ i => s.size - (intOf i).toNat)
  case atStart => exact ⟨0, 0, by omega, by omega, rfl, rfl, rfl, rfl⟩
  case round =>
    obtain ⟨k, n, hk, hn, rfl, rfl, h1, h2⟩ := hrel
    have H1 := Lib.hid h1
    have H2 := Lib.hid h2
    clear h1 h2
    by_cases hlt : k < s.size
    · have hkl : k < s.data.toList.length := by rw [← Lib.size_eq]; exact hlt
      have hc := s[k].toNat_lt
      rcases dg_cases s[k] with ⟨h, d1, d2⟩ | ⟨h, d1⟩ | ⟨h, d1, d2⟩
      · have E := Lib.hid (valS_dig (b := b) (n := n) (l := s.data.toList) hkl h)
        have hw : IntKind.u8.wrap ((s[k].toNat : Int) - 48) = (s[k].toNat : Int) - 48 := by simp [IntKind.wrap, IntKind.bits, IntKind.signed]; omega
        have hw2 : IntKind.i64.wrap ((s[k].toNat : Int) - 48) = (s[k].toNat : Int) - 48 := by rw [IntKind.wrap_i64]; omega
        have t1 : decide ((48 : Int) ≤ (s[k].toNat : Int)) = true := by simp only [decide_eq_true_eq]; omega
        have t2 : decide ((s[k].toNat : Int) ≤ 57) = true := by simp only [decide_eq_true_eq]; omega
        clear h
        go_wp2_with fail
        refine ⟨⟨k + 1, min (10 * n + (s[k].toNat - 48)) b, by omega, Nat.min_le_right _ _, by go_num, congrArg (Value.int .i64) ?_, ?_, ?_⟩, ?_⟩
        · rw [Nat.min_def]; split <;> split <;> omega
        · rw [← H1.out, E.out]; rfl
        · rw [← H2.out, E.out]; show _ + (k + 1) = _ + 1 + k; rw [Nat.add_assoc, Nat.add_comm 1 k]; rfl
        · simp [intOf]; omega
      · have E := Lib.hid (valS_stop (b := b) (n := n) (l := s.data.toList) hkl h)
        have t1 : decide ((48 : Int) ≤ (s[k].toNat : Int)) = false := by simp only [decide_eq_false_iff_not]; omega
        clear h
        go_wp2_with fail
        go_ret2
        rw [← H1.out, ← H2.out, E.out]
        exact ⟨by simp, rfl⟩
      · have E := Lib.hid (valS_stop (b := b) (n := n) (l := s.data.toList) hkl h)
        have t1 : decide ((48 : Int) ≤ (s[k].toNat : Int)) = true := by simp only [decide_eq_true_eq]; omega
        have t2 : decide ((s[k].toNat : Int) ≤ 57) = false := by simp only [decide_eq_false_iff_not]; omega
        clear h
        go_wp2_with fail
        go_ret2
        rw [← H1.out, ← H2.out, E.out]
        exact ⟨by simp, rfl⟩
    · have hkl : s.data.toList.length ≤ k := by rw [← Lib.size_eq]; omega
      have E := Lib.hid (valS_end (b := b) (n := n) (l := s.data.toList) hkl)
      go_wp2_with fail
      go_ret2
      rw [← H1.out, ← H2.out, E.out]
      exact ⟨by simp, rfl⟩

def RetNum (w : World) (p q : Nat) (e : Ending) (w' : World) : Prop := e = .returned (.tuple #[.int .i64 p, .int .i64 q]) ∧ w = w'
set_option maxHeartbeats 800000 in
theorem number_ok (s : ByteArray) (a b : Nat) (hb : b ≤ 2147483647) (ha : a ≤ s.size) (w : World) (hs : s.size ≤ 140737488351232) :
    Calls Tryd.prog 16 #[.string s, .int .i64 a, .int .i64 b] w (RetNum w (valS b 0 (s.data.toList.drop a)).1 (a + (valS b 0 (s.data.toList.drop a)).2)) := by
  go_enter Tryd.func16, Tryd.ntmps16
  go_wp2_with fail
  go_loop [1, 8] (fun i v => ∃ k n : Nat, a ≤ k ∧ k ≤ s.size ∧ n ≤ b ∧ i = .int .i64 k ∧ v = .int .i64 n ∧ (valS b n (s.data.toList.drop k)).1 = (valS b 0 (s.data.toList.drop a)).1 ∧ (valS b n (s.data.toList.drop k)).2 + k = a + (valS b 0 (s.data.toList.drop a)).2) (fun i _ => s.size - (intOf i).toNat)
  case atStart => exact ⟨a, 0, by omega, ha, by omega, rfl, rfl, rfl, by omega⟩
  case round =>
    obtain ⟨k, n, hak, hk, hn, rfl, rfl, h1, h2⟩ := hrel
    have H1 := Lib.hid h1
    have H2 := Lib.hid h2
    clear h1 h2
    by_cases hlt : k < s.size
    · have hkl : k < s.data.toList.length := by rw [← Lib.size_eq]; exact hlt
      have hc := s[k].toNat_lt
      have DG := Lib.hid (fun w => digit_ok s[k] w)
      rcases dg_cases s[k] with ⟨h, d1, d2⟩ | ⟨h, d1⟩ | ⟨h, d1, d2⟩
      · have E := Lib.hid (valS_dig (b := b) (n := n) (l := s.data.toList) hkl h)
        have HD := Lib.hid h
        clear h
        have hw2 : IntKind.i64.wrap (s[k].toNat : Int) = (s[k].toNat : Int) := by rw [IntKind.wrap_i64]; omega
        by_cases hov : b < 10 * n + (s[k].toNat - 48)
        · have t3 : decide ((b : Int) < 10 * (n : Int) + (s[k].toNat : Int) - 48) = true := by simp only [decide_eq_true_eq]; omega
          have HOV := Lib.hid hov
          clear hov
          go_wp2_with fail
          refine (DG.out w).mono ?_
          rintro e w' ⟨rfl, rfl⟩
          rw [HD.out]
          go_wp2_with fail
          refine ⟨⟨k + 1, min (10 * n + (s[k].toNat - 48)) b, by omega, by omega, Nat.min_le_right _ _, by go_num, congrArg (Value.int .i64) ?_, ?_, ?_⟩, ?_⟩
          · have := HOV.out; rw [Nat.min_def]; split <;> omega
          · rw [← H1.out, E.out]; rfl
          · rw [← H2.out, E.out]; show _ + (k + 1) = _ + 1 + k; rw [Nat.add_assoc, Nat.add_comm 1 k]; rfl
          · simp [intOf]; omega
        · have t3 : decide ((b : Int) < 10 * (n : Int) + (s[k].toNat : Int) - 48) = false := by simp only [decide_eq_false_iff_not]; omega
          have HOV := Lib.hid hov
          clear hov
          go_wp2_with fail
          refine (DG.out w).mono ?_
          rintro e w' ⟨rfl, rfl⟩
          rw [HD.out]
          go_wp2_with fail
          refine ⟨⟨k + 1, min (10 * n + (s[k].toNat - 48)) b, by omega, by omega, Nat.min_le_right _ _, by go_num, congrArg (Value.int .i64) ?_, ?_, ?_⟩, ?_⟩
          · have := HOV.out; rw [Nat.min_def]; split <;> omega
          · rw [← H1.out, E.out]; rfl
          · rw [← H2.out, E.out]; show _ + (k + 1) = _ + 1 + k; rw [Nat.add_assoc, Nat.add_comm 1 k]; rfl
          · simp [intOf]; omega
      all_goals
        have E := Lib.hid (valS_stop (b := b) (n := n) (l := s.data.toList) hkl h)
        have HD := Lib.hid h
        clear h
        go_wp2_with fail
        refine (DG.out w).mono ?_
        rintro e w' ⟨rfl, rfl⟩
        rw [HD.out]
        go_wp2_with fail
        go_ret2
        rw [← H1.out, ← H2.out, E.out]
        exact ⟨by simp, rfl⟩
    · have hkl : s.data.toList.length ≤ k := by rw [← Lib.size_eq]; omega
      have E := Lib.hid (valS_end (b := b) (n := n) (l := s.data.toList) hkl)
      go_wp2_with fail
      go_ret2
      rw [← H1.out, ← H2.out, E.out]
      exact ⟨by simp, rfl⟩
end Go.Proofs.YtbgbmojoldkcfaaDoor
