/- Diagnose of the program and of the document; the law. -/
import Derived.Test.YtlohgcdonenmeaaDoorTd
namespace Go.Proofs.YtlohgcdonenmeaaDoor
open Go.RowKit
set_option maxRecDepth 100000

def sortL : List UInt8 := [115, 111, 114, 116, 58, 32]
/-- The line of diagnostics. -/
def dgS (e : Int) (a : List UInt8) : List UInt8 := if e = 0 then [] else sortL ++ txS e ++ (if a = [] then [] else [58, 32] ++ shS a)
theorem tx_len (e : Int) (h0 : -9223372036854775808 ≤ e) (h1 : e ≤ 9223372036854775807) : (txS e).length ≤ 40 := by
  unfold txS
  cases hf : txF e with
  | some p =>
    have hm : p ∈ tx := List.mem_of_find?_eq_some hf
    have : ∀ p ∈ tx, p.2.length ≤ 40 := by decide
    exact this p hm
  | none =>
    have := dc_len e h0 h1
    rw [bs_size] at this
    simp [errL]
    omega
theorem bs_more {l : List UInt8} (h : l ≠ []) : (bs l).toList.isEmpty = false ∧ ((bs l).toList == []) = false ∧ ¬ (bs l).toList = [] := by
  rw [Lib.toList_data, bs_list]
  cases l with
  | nil => exact absurd rfl h
  | cons a b => exact ⟨rfl, rfl, by simp⟩
theorem bs_none : (bs []).toList.isEmpty = true ∧ ((bs []).toList == []) = true ∧ (bs []).toList = [] := by
  rw [Lib.toList_data, bs_list]; exact ⟨rfl, rfl, rfl⟩
set_option maxHeartbeats 2000000 in
theorem diag_ok (e : Int) (h0 : -9223372036854775808 ≤ e) (h1 : e ≤ 9223372036854775807) (a : List UInt8) (ha : a.length ≤ 1048576) (w : World) (T : Tabs w) :
    Calls Tryd.prog 7 #[.int .i64 e, .string (bs a)] w (RetBelow w (.string (bs (dgS e a)))) := by
  by_cases he : e = 0
  · subst he
    go_enter Tryd.func7, Tryd.ntmps7
    go_wp2_with fail
    go_ret
    exact ⟨rfl, Below.refl _ _⟩
  · have t1 : decide (e = 0) = false := decide_eq_false he
    have t2 : (e == 0) = false := by simp [he]
    have HL := Lib.hid (tx_len e h0 h1)
    have C1 := Lib.hid (textOf_ok e h0 h1 w T)
    have HA := Lib.hid ha
    by_cases hn : a = []
    · subst hn
      have E := Lib.hid (show dgS e [] = sortL ++ txS e by unfold dgS; rw [if_neg he, if_pos rfl, List.append_nil])
      obtain ⟨g1, g2, g3⟩ := bs_none
      clear he h0 h1 ha T
      generalize hX : bs [] = X at *
      have HX := Lib.hid hX
      clear hX
      go_enter Tryd.func7, Tryd.ntmps7
      go_wp2_with (go_at_call 13; refine C1.out.mono ?_)
      rintro e1 w1 ⟨rfl, b1⟩
      have HB := Lib.hid b1
      clear b1 C1
      have z1 : ¬ 9223372036854775807 < (⟨#[115, 111, 114, 116, 58, 32]⟩ : ByteArray).size + (bs (txS e)).size := by rw [bs_size, show (⟨#[115, 111, 114, 116, 58, 32]⟩ : ByteArray).size = 6 from rfl]; have := HL.out; omega
      generalize hM : bs (txS e) = M at *
      have HM := Lib.hid hM
      clear hM
      go_wp2_with fail
      go_ret
      exact ⟨by rw [E.out, ← bs_cat, HM.out]; rfl, HB.out⟩
    · have E := Lib.hid (show dgS e a = sortL ++ txS e ++ ([58, 32] ++ shS a) by unfold dgS; rw [if_neg he, if_neg hn])
      obtain ⟨g1, g2, g3⟩ := bs_more hn
      have HS := Lib.hid (shS_len a)
      clear he h0 h1 ha T hn
      have C2 := Lib.hid (fun w => nameOf_ok (bs a) (by rw [bs_size]; have := HA.out; omega) w)
      rw [bs_list] at C2
      generalize hX : bs a = X at *
      have HX := Lib.hid hX
      clear hX
      go_enter Tryd.func7, Tryd.ntmps7
      go_wp2_with (go_at_call 13; refine C1.out.mono ?_)
      rintro e1 w1 ⟨rfl, b1⟩
      have HB := Lib.hid b1
      clear b1 C1
      have z1 : ¬ 9223372036854775807 < (⟨#[115, 111, 114, 116, 58, 32]⟩ : ByteArray).size + (bs (txS e)).size := by rw [bs_size, show (⟨#[115, 111, 114, 116, 58, 32]⟩ : ByteArray).size = 6 from rfl]; have := HL.out; omega
      have z2 : ¬ 9223372036854775807 < (⟨#[58, 32]⟩ : ByteArray).size + (bs (shS a)).size := by rw [bs_size, show (⟨#[58, 32]⟩ : ByteArray).size = 2 from rfl]; have := HS.out; have := HA.out; omega
      have z3 : ¬ 9223372036854775807 < ((⟨#[115, 111, 114, 116, 58, 32]⟩ : ByteArray) ++ bs (txS e)).size + ((⟨#[58, 32]⟩ : ByteArray) ++ bs (shS a)).size := by
        rw [show (⟨#[115, 111, 114, 116, 58, 32]⟩ : ByteArray) = bs sortL from rfl, show (⟨#[58, 32]⟩ : ByteArray) = bs [58, 32] from rfl, bs_cat, bs_cat, bs_size, bs_size]
        have := HS.out; have := HA.out; have := HL.out
        simp [sortL]; omega
      generalize hM : bs (txS e) = M at *
      have HM := Lib.hid hM
      generalize hN : bs (shS a) = N at *
      have HN := Lib.hid hN
      clear hM hN
      go_wp2_with (go_at_call 9; refine (C2.out _).mono ?_)
      rintro e2 w2 ⟨rfl, b2⟩
      have HB2 := Lib.hid b2
      clear b2 C2
      go_wp2_with fail
      go_ret
      exact ⟨by rw [E.out, ← bs_cat, ← bs_cat, ← bs_cat, HM.out, HN.out]; rfl, HB.out.trans (HB2.out.mono HB.out.size)⟩
set_option maxHeartbeats 2000000 in
theorem diagR_ok (e : Int) (h0 : -9223372036854775808 ≤ e) (h1 : e ≤ 9223372036854775807) (a : List UInt8) (ha : a.length ≤ 1048576) (w : World) :
    Calls Tryd.prog 8 #[.int .i64 e, .string (bs a)] w (RetBelow w (.string (bs (dgS e a)))) := by
  by_cases he : e = 0
  · subst he
    go_enter Tryd.func8, Tryd.ntmps8
    go_wp2_with fail
    go_ret
    exact ⟨rfl, Below.refl _ _⟩
  · have t1 : decide (e = 0) = false := decide_eq_false he
    have t2 : (e == 0) = false := by simp [he]
    have HL := Lib.hid (tx_len e h0 h1)
    have C1 := Lib.hid (text_ok e h0 h1 w)
    have HA := Lib.hid ha
    by_cases hn : a = []
    · subst hn
      have E := Lib.hid (show dgS e [] = sortL ++ txS e by unfold dgS; rw [if_neg he, if_pos rfl, List.append_nil])
      obtain ⟨g1, g2, g3⟩ := bs_none
      clear he h0 h1 ha
      generalize hX : bs [] = X at *
      have HX := Lib.hid hX
      clear hX
      go_enter Tryd.func8, Tryd.ntmps8
      go_wp2_with (go_at_call 14; refine C1.out.mono ?_)
      rintro e1 w1 ⟨rfl, b1⟩
      have HB := Lib.hid b1
      clear b1 C1
      have z1 : ¬ 9223372036854775807 < (⟨#[115, 111, 114, 116, 58, 32]⟩ : ByteArray).size + (bs (txS e)).size := by rw [bs_size, show (⟨#[115, 111, 114, 116, 58, 32]⟩ : ByteArray).size = 6 from rfl]; have := HL.out; omega
      generalize hM : bs (txS e) = M at *
      have HM := Lib.hid hM
      clear hM
      go_wp2_with fail
      go_ret
      exact ⟨by rw [E.out, ← bs_cat, HM.out]; rfl, HB.out⟩
    · have E := Lib.hid (show dgS e a = sortL ++ txS e ++ [58, 32] ++ shS a by unfold dgS; rw [if_neg he, if_neg hn, List.append_assoc (sortL ++ txS e)])
      obtain ⟨g1, g2, g3⟩ := bs_more hn
      have HS := Lib.hid (shS_len a)
      clear he h0 h1 ha hn
      have C2 := Lib.hid (fun w => shown_ok (bs a) (by rw [bs_size]; have := HA.out; omega) w)
      rw [bs_list] at C2
      generalize hX : bs a = X at *
      have HX := Lib.hid hX
      clear hX
      go_enter Tryd.func8, Tryd.ntmps8
      go_wp2_with (go_at_call 14; refine C1.out.mono ?_)
      rintro e1 w1 ⟨rfl, b1⟩
      have HB := Lib.hid b1
      clear b1 C1
      have z1 : ¬ 9223372036854775807 < (⟨#[115, 111, 114, 116, 58, 32]⟩ : ByteArray).size + (bs (txS e)).size := by rw [bs_size, show (⟨#[115, 111, 114, 116, 58, 32]⟩ : ByteArray).size = 6 from rfl]; have := HL.out; omega
      have z2 : ¬ 9223372036854775807 < ((⟨#[115, 111, 114, 116, 58, 32]⟩ : ByteArray) ++ bs (txS e)).size + (⟨#[58, 32]⟩ : ByteArray).size := by
        rw [show (⟨#[115, 111, 114, 116, 58, 32]⟩ : ByteArray) = bs sortL from rfl, bs_cat, bs_size, show (⟨#[58, 32]⟩ : ByteArray).size = 2 from rfl]
        have := HL.out
        simp [sortL]; omega
      have z3 : ¬ 9223372036854775807 < ((⟨#[115, 111, 114, 116, 58, 32]⟩ : ByteArray) ++ bs (txS e) ++ (⟨#[58, 32]⟩ : ByteArray)).size + (bs (shS a)).size := by
        rw [show (⟨#[115, 111, 114, 116, 58, 32]⟩ : ByteArray) = bs sortL from rfl, show (⟨#[58, 32]⟩ : ByteArray) = bs [58, 32] from rfl, bs_cat, bs_cat, bs_size, bs_size]
        have := HS.out; have := HA.out; have := HL.out
        simp [sortL]; omega
      generalize hM : bs (txS e) = M at *
      have HM := Lib.hid hM
      generalize hN : bs (shS a) = N at *
      have HN := Lib.hid hN
      clear hM hN
      go_wp2_with (go_at_call 11; refine (C2.out _).mono ?_)
      rintro e2 w2 ⟨rfl, b2⟩
      have HB2 := Lib.hid b2
      clear b2 C2
      go_wp2_with fail
      go_ret
      exact ⟨by rw [E.out, ← bs_cat, ← bs_cat, ← bs_cat, HM.out, HN.out]; rfl, HB.out.trans (HB2.out.mono HB.out.size)⟩
set_option maxHeartbeats 2000000 in
theorem diagnoses_walk (e : Int) (h0 : -9223372036854775808 ≤ e) (h1 : e ≤ 9223372036854775807) (a : List UInt8) (ha : a.length ≤ 1048576) (w : World) (T : Tabs w) :
    Calls Tryd.prog 4 #[.int .i64 e, .string (bs a)] w (RetBelow w (.bool true)) := by
  have C1 := Lib.hid (diag_ok e h0 h1 a ha w T)
  have C2 := Lib.hid (fun w => diagR_ok e h0 h1 a ha w)
  clear h0 h1 ha T
  generalize bs (dgS e a) = D at *
  generalize bs a = A at *
  go_enter Tryd.func4, Tryd.ntmps4
  go_wp2_with (go_at_call 7; refine C1.out.mono ?_)
  rintro e1 w1 ⟨rfl, b1⟩
  have HB := Lib.hid b1
  clear b1 C1
  go_wp2_with (go_at_call 8; refine (C2.out _).mono ?_)
  rintro e2 w2 ⟨rfl, b2⟩
  have HB2 := Lib.hid b2
  clear b2 C2
  go_wp2_with fail
  go_ret
  exact ⟨by simp, HB.out.trans (HB2.out.mono HB.out.size)⟩
end Go.Proofs.YtlohgcdonenmeaaDoor
