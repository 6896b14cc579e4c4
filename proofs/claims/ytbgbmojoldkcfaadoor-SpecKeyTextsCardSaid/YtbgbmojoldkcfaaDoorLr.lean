/- The document's Long. -/
import Derived.Test.YtbgbmojoldkcfaaDoorNam
import Derived.Lib.Split
namespace Go.Proofs.YtbgbmojoldkcfaaDoor
open Go.RowKit

def nmR (k : Nat) : Bs := (namL.getD k ([], 0, 0)).1
theorem rNames_drop (k : Nat) (h : k < 26) : rNames.drop k = nmR k :: rNames.drop (k + 1) := by
  have hl : k < rNames.length := h
  have hk : k < namL.length := h
  have h2 : rNames[k]? = some (nmR k) := by
    unfold rNames nmR
    rw [List.getElem?_map, List.getD_eq_getElem?_getD, List.getElem?_eq_getElem hk]; rfl
  have h3 : rNames[k] = nmR k := Option.some.inj ((List.getElem?_eq_getElem hl).symm.trans h2)
  rw [List.drop_eq_getElem_cons hl]
  exact congrArg (· :: _) h3
/-- The names in memory, as one fact. -/
theorem names_at {w : World} (T : Tabs w) : ∃ b off c, w.cell? ⟨0, 0, none⟩ = some (.slice (some ⟨b, off, none⟩) 26 c) ∧ ∀ k, k < 26 → w.cell? ⟨b, off + k * 3, none⟩ = some (.string (bs (nmR k))) := by
  obtain ⟨t, fr, b, off, c, h1, h2, h3⟩ := T.names
  refine ⟨b, off, c, ?_, fun k hk => ?_⟩
  · rw [cell_of_row w 0 0 _ t fr h1]; rfl
  · have := h3 k hk 0 _ rfl
    rwa [Nat.add_zero] at this
theorem str_eq {a b : ByteArray} {x : Bs} (h : a.data.toList = x) (e : x = b.data.toList) : (a.toList == b.toList) = true := by
  rw [beq_iff_eq, Lib.toList_data, Lib.toList_data, h, e]
theorem str_ne {a b : ByteArray} {x : Bs} (h : a.data.toList = x) (e : x ≠ b.data.toList) : (a.toList == b.toList) = false := by
  rw [beq_eq_false_iff_ne, Lib.toList_data, Lib.toList_data, h]; exact e
def RetIx (w : World) (p : Bs × Int) (e : Ending) (w' : World) : Prop :=
  ∃ ix : Int, e = .returned (.tuple #[.int .i64 ix, .int .i64 p.2]) ∧ (p.2 = 0 → ∃ j : Nat, j < 26 ∧ ix = j ∧ nmR j = p.1) ∧ w = w'
def LrRel (s : Bs) (nv av iv : Value) : Prop :=
  ∃ (k n : Nat) (f : Bs) (at_ : Int), k ≤ 26 ∧ n ≤ k ∧ iv = .int .i64 k ∧ nv = .int .i64 n ∧ av = .int .i64 at_ ∧ rS s n f (rNames.drop k) = rS s 0 [] rNames ∧ (n ≠ 0 → ∃ j : Nat, j < 26 ∧ at_ = j ∧ nmR j = f)

set_option maxRecDepth 100000
set_option maxHeartbeats 1600000 in
theorem rlong_ok (s : ByteArray) (w : World) (T : Tabs w) : Calls Tryd.prog 19 #[.string s] w (RetIx w (rS s.data.toList 0 [] rNames)) := by
  obtain ⟨b, off, c, hh, hcell⟩ := names_at T
  have HC := Lib.hid hcell
  clear hcell T
  go_enter Tryd.func19, Tryd.ntmps19
  go_wp2_with fail
  go_loop [4, 5, 6] (fun nv av iv => LrRel s.data.toList nv av iv) (fun _ _ i => 26 - (intOf i).toNat)
  case atStart => exact ⟨0, 0, [], -1, by omega, by omega, rfl, rfl, rfl, rfl, fun h => absurd rfl h⟩
  case round =>
    obtain ⟨k, n, f, at_, hk, hnk, rfl, rfl, rfl, hr, hat⟩ := hrel
    have HR := Lib.hid hr
    have HAT := Lib.hid hat
    clear hr hat
    by_cases hlt : k < 26
    · have t1 : decide ((k : Int) < 26) = true := by simp only [decide_eq_true_eq]; omega
      have cn := HC.out k hlt
      have HD := Lib.hid (rNames_drop k hlt)
      have hnb := bs_list (nmR k)
      generalize hx : nmR k = x at *
      have HX := Lib.hid hx
      clear hx
      generalize bs x = nb at *
      have HNB := Lib.hid hnb
      clear hnb
      have hR := HR.out
      rw [HD.out, rS] at hR
      by_cases he : x = s.data.toList
      · have t2 := str_eq HNB.out he
        rw [if_pos he] at hR
        have HRR := Lib.hid hR
        clear hR he
        go_wp2_with fail
        go_ret2
        exact ⟨(k : Int), by rw [← HRR.out]; rfl, fun _ => ⟨k, hlt, rfl, by rw [← HRR.out, HX.out]⟩, rfl⟩
      · have t2 := str_ne HNB.out he
        rw [if_neg he] at hR
        clear he
        have hb : begs s.data.toList x = (decide (0 < s.size) && (decide (s.size < nb.size) && ((nb.extract 0 s.size).toList == s.toList))) := by
          unfold begs
          rw [Lib.toList_data, Lib.toList_data, Lib.extract_from_zero, HNB.out, Lib.size_eq s, Lib.size_eq nb, HNB.out]
          congr 2
          rw [Bool.eq_iff_iff]; simp
        rw [hb] at hR
        clear hb
        by_cases h1 : 0 < s.size
        · have u1 : decide ((0 : Int) < (s.size : Int)) = true := by simp only [decide_eq_true_eq]; omega
          by_cases h2 : s.size < nb.size
          · have u2 : decide ((s.size : Int) < (nb.size : Int)) = true := by simp only [decide_eq_true_eq]; omega
            cases h3 : ((nb.extract 0 s.size).toList == s.toList) with
            | true =>
              rw [h3, decide_eq_true h1, decide_eq_true h2] at hR
              simp only [Bool.and_self, if_true] at hR
              have HRR := Lib.hid hR
              clear hR
              go_wp2_with fail
              exact ⟨⟨k + 1, n + 1, x, k, by omega, by omega, by go_num, by go_num, rfl, HRR.out, fun _ => ⟨k, hlt, rfl, HX.out⟩⟩, by simp [intOf]; omega⟩
            | false =>
              rw [h3] at hR
              simp only [Bool.and_false, Bool.false_eq_true, if_false] at hR
              have HRR := Lib.hid hR
              clear hR
              go_wp2_with fail
              exact ⟨⟨k + 1, n, f, at_, by omega, by omega, by go_num, rfl, rfl, HRR.out, HAT.out⟩, by simp [intOf]; omega⟩
          · have u2 : decide ((s.size : Int) < (nb.size : Int)) = false := by simp only [decide_eq_false_iff_not]; omega
            rw [decide_eq_false h2] at hR
            simp only [Bool.false_and, Bool.and_false, Bool.false_eq_true, if_false] at hR
            have HRR := Lib.hid hR
            clear hR
            go_wp2_with fail
            exact ⟨⟨k + 1, n, f, at_, by omega, by omega, by go_num, rfl, rfl, HRR.out, HAT.out⟩, by simp [intOf]; omega⟩
        · have u1 : decide ((0 : Int) < (s.size : Int)) = false := by simp only [decide_eq_false_iff_not]; omega
          rw [decide_eq_false h1] at hR
          simp only [Bool.false_and, Bool.false_eq_true, if_false] at hR
          have HRR := Lib.hid hR
          clear hR
          go_wp2_with fail
          exact ⟨⟨k + 1, n, f, at_, by omega, by omega, by go_num, rfl, rfl, HRR.out, HAT.out⟩, by simp [intOf]; omega⟩
    · have t1 : decide ((k : Int) < 26) = false := by simp only [decide_eq_false_iff_not]; omega
      have hk26 : k = 26 := by omega
      subst hk26
      have hR := HR.out
      rw [show rNames.drop 26 = [] from rfl, rS] at hR
      by_cases h0 : n = 0
      · have u1 : ((n : Int) == 0) = true := by rw [beq_iff_eq]; omega
        rw [if_pos h0] at hR
        have HRR := Lib.hid hR
        clear hR h0
        go_wp2_with fail
        go_ret2
        exact ⟨-1, by rw [← HRR.out]; rfl, (fun h => by rw [← HRR.out] at h; cases h), rfl⟩
      · have u1 : ((n : Int) == 0) = false := by rw [beq_eq_false_iff_ne]; omega
        rw [if_neg h0] at hR
        by_cases h2 : 1 < n
        · have u2 : decide ((1 : Int) < (n : Int)) = true := by simp only [decide_eq_true_eq]; omega
          rw [if_pos h2] at hR
          have HRR := Lib.hid hR
          clear hR h0
          go_wp2_with fail
          go_ret2
          exact ⟨-1, by rw [← HRR.out]; rfl, (fun h => by rw [← HRR.out] at h; cases h), rfl⟩
        · have u2 : decide ((1 : Int) < (n : Int)) = false := by simp only [decide_eq_false_iff_not]; omega
          rw [if_neg h2] at hR
          have HRR := Lib.hid hR
          have HJ := Lib.hid (HAT.out h0)
          clear hR h0
          go_wp2_with fail
          go_ret2
          exact ⟨at_, by rw [← HRR.out]; rfl, (fun _ => by rw [← HRR.out]; exact HJ.out), rfl⟩
end Go.Proofs.YtbgbmojoldkcfaaDoor
