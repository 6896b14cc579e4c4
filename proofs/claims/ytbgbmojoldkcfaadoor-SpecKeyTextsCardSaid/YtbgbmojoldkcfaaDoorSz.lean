/- Size, the program's and the document's. -/
import Derived.Test.YtbgbmojoldkcfaaDoorDg
namespace Go.Proofs.YtbgbmojoldkcfaaDoor
open Go.RowKit

theorem szEnd {a : Int} {p : Nat} (h : a = p) : Ending.returned (.tuple #[.int .i64 a, .int .i64 0]) = .returned (.tuple #[.int .i64 (p : Int), .int .i64 0]) := by rw [h]
def RetSz (w : World) (p : Nat) (q : Int) (e : Ending) (w' : World) : Prop := e = .returned (.tuple #[.int .i64 p, .int .i64 q]) ∧ w = w'
theorem unit_cases (x : ByteArray) : (x = ⟨#[]⟩ ∧ unitS x.data.toList = 1024) ∨ (x = ⟨#[75]⟩ ∧ unitS x.data.toList = 1024) ∨ (x = ⟨#[98]⟩ ∧ unitS x.data.toList = 1) ∨ (x = ⟨#[77]⟩ ∧ unitS x.data.toList = 1048576) ∨ (x = ⟨#[71]⟩ ∧ unitS x.data.toList = 1073741824) ∨
    (x ≠ ⟨#[]⟩ ∧ x ≠ ⟨#[75]⟩ ∧ x ≠ ⟨#[98]⟩ ∧ x ≠ ⟨#[77]⟩ ∧ x ≠ ⟨#[71]⟩ ∧ unitS x.data.toList = 0) := by
  by_cases h0 : x = ⟨#[]⟩
  · subst h0; exact Or.inl ⟨rfl, rfl⟩
  by_cases h1 : x = ⟨#[75]⟩
  · subst h1; exact Or.inr (Or.inl ⟨rfl, rfl⟩)
  by_cases h2 : x = ⟨#[98]⟩
  · subst h2; exact Or.inr (Or.inr (Or.inl ⟨rfl, rfl⟩))
  by_cases h3 : x = ⟨#[77]⟩
  · subst h3; exact Or.inr (Or.inr (Or.inr (Or.inl ⟨rfl, rfl⟩)))
  by_cases h4 : x = ⟨#[71]⟩
  · subst h4; exact Or.inr (Or.inr (Or.inr (Or.inr (Or.inl ⟨rfl, rfl⟩))))
  refine Or.inr (Or.inr (Or.inr (Or.inr (Or.inr ⟨h0, h1, h2, h3, h4, ?_⟩))))
  obtain ⟨⟨l⟩⟩ := x
  match l with
  | [] => exact absurd rfl h0
  | [c] =>
    show (if c = 98 then 1 else if c = 75 then 1024 else if c = 77 then 1048576 else if c = 71 then 1073741824 else 0) = 0
    rw [if_neg (show ¬ c = 98 from fun e => h2 (by rw [e])), if_neg (show ¬ c = 75 from fun e => h1 (by rw [e])), if_neg (show ¬ c = 77 from fun e => h3 (by rw [e])), if_neg (show ¬ c = 71 from fun e => h4 (by rw [e]))]
  | _ :: _ :: _ => rfl
theorem ne_list {x : ByteArray} {l : List UInt8} (h : x ≠ ⟨l.toArray⟩) : (x.toList == l) = false := by
  rw [beq_eq_false_iff_ne, Lib.toList_data]
  intro e
  apply h
  apply ByteArray.ext
  rw [← e]

set_option maxHeartbeats 800000 in
theorem size_ok (s : ByteArray) (w : World) (hs : s.size ≤ 140737488351232) :
    Calls Tryd.prog 6 #[.string s] w (RetSz w (sizeS s.data.toList) (sizeE s.data.toList)) := by
  have C := Lib.hid (digits_ok s 67108864 (by omega) w hs)
  have h1 := valS_le 67108864 s.data.toList 0 (by omega)
  have h2 := valS_len 67108864 s.data.toList 0
  rw [← Lib.size_eq] at h2
  have HS := Lib.hid (show sizeS s.data.toList = min ((valS 67108864 0 s.data.toList).1 * unitS (s.data.toList.drop (valS 67108864 0 s.data.toList).2)) 67108864 from rfl)
  have HX := Lib.hid (Lib.extract_to_end s (valS 67108864 0 s.data.toList).2)
  have HE := Lib.hid (show sizeE s.data.toList = if sizeS s.data.toList = 0 then 44 else 0 from rfl)
  generalize sizeE s.data.toList = E at *
  generalize sizeS s.data.toList = S at *
  generalize hn : (valS 67108864 0 s.data.toList).1 = n at *
  generalize hz : (valS 67108864 0 s.data.toList).2 = z at *
  clear hn hz
  rw [← HX.out] at HS
  have hc := unit_cases (s.extract z s.size)
  clear HX
  rcases hc with ⟨hx, hu⟩ | ⟨hx, hu⟩ | ⟨hx, hu⟩ | ⟨hx, hu⟩ | ⟨hx, hu⟩ | ⟨x0, x1, x2, x3, x4, hu⟩
  · have HU := Lib.hid (HS.out.trans (by rw [hu]))
    clear hu HS
    by_cases h0 : n = 0
    · have t1 : ((n : Int) == 0) = true := by rw [beq_iff_eq]; omega
      have t2 : decide ((n : Int) = 0) = true := by simp only [decide_eq_true_eq]; omega
      have H0 := Lib.hid h0
      clear h0
      go_enter Tryd.func6, Tryd.ntmps6
      go_wp2_with fail
      refine C.out.mono ?_
      rintro e w' ⟨rfl, rfl⟩
      go_wp2_with fail
      go_ret2
      have hS : S = 0 := by rw [HU.out, H0.out]; simp
      exact ⟨by rw [HE.out, hS]; rfl, rfl⟩
    · have t1 : ((n : Int) == 0) = false := by rw [beq_eq_false_iff_ne]; omega
      have t2 : decide ((n : Int) = 0) = false := by simp only [decide_eq_false_iff_not]; omega
      have H0 := Lib.hid h0
      clear h0
      go_enter Tryd.func6, Tryd.ntmps6
      go_wp2_with fail
      refine C.out.mono ?_
      rintro e w' ⟨rfl, rfl⟩
      go_wp2_with fail
      all_goals
        go_ret2
        have hS : S = min (n * 1024) 67108864 := HU.out
        have h0 := H0.out
        have hne : S ≠ 0 := by rw [hS]; omega
        exact ⟨by rw [HE.out, if_neg hne]; exact szEnd (by rw [hS, Nat.min_def]; split <;> omega), rfl⟩
  · have HU := Lib.hid (HS.out.trans (by rw [hu]))
    clear hu HS
    by_cases h0 : n = 0
    · have t1 : ((n : Int) == 0) = true := by rw [beq_iff_eq]; omega
      have t2 : decide ((n : Int) = 0) = true := by simp only [decide_eq_true_eq]; omega
      have H0 := Lib.hid h0
      clear h0
      go_enter Tryd.func6, Tryd.ntmps6
      go_wp2_with fail
      refine C.out.mono ?_
      rintro e w' ⟨rfl, rfl⟩
      go_wp2_with fail
      go_ret2
      have hS : S = 0 := by rw [HU.out, H0.out]; simp
      exact ⟨by rw [HE.out, hS]; rfl, rfl⟩
    · have t1 : ((n : Int) == 0) = false := by rw [beq_eq_false_iff_ne]; omega
      have t2 : decide ((n : Int) = 0) = false := by simp only [decide_eq_false_iff_not]; omega
      have H0 := Lib.hid h0
      clear h0
      go_enter Tryd.func6, Tryd.ntmps6
      go_wp2_with fail
      refine C.out.mono ?_
      rintro e w' ⟨rfl, rfl⟩
      go_wp2_with fail
      all_goals
        go_ret2
        have hS : S = min (n * 1024) 67108864 := HU.out
        have h0 := H0.out
        have hne : S ≠ 0 := by rw [hS]; omega
        exact ⟨by rw [HE.out, if_neg hne]; exact szEnd (by rw [hS, Nat.min_def]; split <;> omega), rfl⟩
  · have HU := Lib.hid (HS.out.trans (by rw [hu]))
    clear hu HS
    by_cases h0 : n = 0
    · have t1 : ((n : Int) == 0) = true := by rw [beq_iff_eq]; omega
      have t2 : decide ((n : Int) = 0) = true := by simp only [decide_eq_true_eq]; omega
      have H0 := Lib.hid h0
      clear h0
      go_enter Tryd.func6, Tryd.ntmps6
      go_wp2_with fail
      refine C.out.mono ?_
      rintro e w' ⟨rfl, rfl⟩
      go_wp2_with fail
      go_ret2
      have hS : S = 0 := by rw [HU.out, H0.out]; simp
      exact ⟨by rw [HE.out, hS]; rfl, rfl⟩
    · have t1 : ((n : Int) == 0) = false := by rw [beq_eq_false_iff_ne]; omega
      have t2 : decide ((n : Int) = 0) = false := by simp only [decide_eq_false_iff_not]; omega
      have H0 := Lib.hid h0
      clear h0
      go_enter Tryd.func6, Tryd.ntmps6
      go_wp2_with fail
      refine C.out.mono ?_
      rintro e w' ⟨rfl, rfl⟩
      go_wp2_with fail
      all_goals
        go_ret2
        have hS : S = min (n * 1) 67108864 := HU.out
        have h0 := H0.out
        have hne : S ≠ 0 := by rw [hS]; omega
        exact ⟨by rw [HE.out, if_neg hne]; exact szEnd (by rw [hS, Nat.min_def]; split <;> omega), rfl⟩
  · have HU := Lib.hid (HS.out.trans (by rw [hu]))
    clear hu HS
    by_cases h0 : n = 0
    · have t1 : ((n : Int) == 0) = true := by rw [beq_iff_eq]; omega
      have t2 : decide ((n : Int) = 0) = true := by simp only [decide_eq_true_eq]; omega
      have H0 := Lib.hid h0
      clear h0
      go_enter Tryd.func6, Tryd.ntmps6
      go_wp2_with fail
      refine C.out.mono ?_
      rintro e w' ⟨rfl, rfl⟩
      go_wp2_with fail
      go_ret2
      have hS : S = 0 := by rw [HU.out, H0.out]; simp
      exact ⟨by rw [HE.out, hS]; rfl, rfl⟩
    · have t1 : ((n : Int) == 0) = false := by rw [beq_eq_false_iff_ne]; omega
      have t2 : decide ((n : Int) = 0) = false := by simp only [decide_eq_false_iff_not]; omega
      have H0 := Lib.hid h0
      clear h0
      go_enter Tryd.func6, Tryd.ntmps6
      go_wp2_with fail
      refine C.out.mono ?_
      rintro e w' ⟨rfl, rfl⟩
      go_wp2_with fail
      all_goals
        go_ret2
        have hS : S = min (n * 1048576) 67108864 := HU.out
        have h0 := H0.out
        have hne : S ≠ 0 := by rw [hS]; omega
        exact ⟨by rw [HE.out, if_neg hne]; exact szEnd (by rw [hS, Nat.min_def]; split <;> omega), rfl⟩
  · have HU := Lib.hid (HS.out.trans (by rw [hu]))
    clear hu HS
    by_cases h0 : n = 0
    · have t1 : ((n : Int) == 0) = true := by rw [beq_iff_eq]; omega
      have t2 : decide ((n : Int) = 0) = true := by simp only [decide_eq_true_eq]; omega
      have H0 := Lib.hid h0
      clear h0
      go_enter Tryd.func6, Tryd.ntmps6
      go_wp2_with fail
      refine C.out.mono ?_
      rintro e w' ⟨rfl, rfl⟩
      go_wp2_with fail
      go_ret2
      have hS : S = 0 := by rw [HU.out, H0.out]; simp
      exact ⟨by rw [HE.out, hS]; rfl, rfl⟩
    · have t1 : ((n : Int) == 0) = false := by rw [beq_eq_false_iff_ne]; omega
      have t2 : decide ((n : Int) = 0) = false := by simp only [decide_eq_false_iff_not]; omega
      have H0 := Lib.hid h0
      clear h0
      go_enter Tryd.func6, Tryd.ntmps6
      go_wp2_with fail
      refine C.out.mono ?_
      rintro e w' ⟨rfl, rfl⟩
      go_wp2_with fail
      all_goals
        go_ret2
        have hS : S = min (n * 1073741824) 67108864 := HU.out
        have h0 := H0.out
        have hne : S ≠ 0 := by rw [hS]; omega
        exact ⟨by rw [HE.out, if_neg hne]; exact szEnd (by rw [hS, Nat.min_def]; split <;> omega), rfl⟩
  · have hS : S = 0 := by rw [HS.out, hu]; simp
    have HSS := Lib.hid hS
    have z0 : (s.extract z s.size).toList.isEmpty = false := by
      have := ne_list (l := []) x0
      rw [beq_eq_false_iff_ne] at this
      rw [List.isEmpty_eq_false_iff]
      exact this
    have z1 : ((s.extract z s.size).toList == [75]) = false := ne_list (l := [75]) x1
    have z2 : ((s.extract z s.size).toList == [98]) = false := ne_list (l := [98]) x2
    have z3 : ((s.extract z s.size).toList == [77]) = false := ne_list (l := [77]) x3
    have z4 : ((s.extract z s.size).toList == [71]) = false := ne_list (l := [71]) x4
    clear hS hu HS x0 x1 x2 x3 x4
    go_enter Tryd.func6, Tryd.ntmps6
    go_wp2_with fail
    refine C.out.mono ?_
    rintro e w' ⟨rfl, rfl⟩
    go_wp2_with fail
    go_ret2
    exact ⟨by rw [HE.out, HSS.out]; rfl, rfl⟩
end Go.Proofs.YtbgbmojoldkcfaaDoor
