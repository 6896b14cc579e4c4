/- The document's answer for numbers: blanks, digits, Decimal, Human; and numeral's Human, whole. -/
import Derived.Test.YtgpcmlbmmcnkjaaGreatDoorNumRefP
import Derived.Deep.RegionHeld3
namespace Go.Proofs.YtgpcmlbmmcnkjaaGreatDoor.Num
open Go.RowKit
section


theorem byte_is (c : UInt8) (n : Nat) (hn : n < 256) : ((c.toNat : Int) == (n : Int)) = (c == UInt8.ofNat n) := by
  rw [Bool.eq_iff_iff, beq_iff_eq, beq_iff_eq]
  constructor
  · intro h
    apply UInt8.toNat_inj.1
    rw [UInt8.toNat_ofNat', Nat.mod_eq_of_lt (by omega)]
    omega
  · intro h
    rw [h, UInt8.toNat_ofNat', Nat.mod_eq_of_lt (by omega)]

theorem atB_drop (l : List UInt8) (i k : Nat) : atB (l.drop i) k = atB l (i + k) := by
  unfold atB
  rw [List.getD_eq_getElem?_getD, List.getD_eq_getElem?_getD, List.getElem?_drop]

theorem bs_more {l : List UInt8} (h : l ≠ []) : (bs l).toList.isEmpty = false ∧ ((bs l).toList == []) = false ∧ ¬ (bs l).toList = [] := by
  rw [Lib.toList_data, bs_list]; exact ⟨by cases l <;> simp_all, by cases l <;> simp_all, h⟩
def isZero (c : UInt8) : Bool := c == 48

/-- A number that hangs on the arguments alone. -/
def Same (w : World) (v : Value) (e : Ending) (w' : World) : Prop := e = .returned v ∧ w = w'

set_option maxHeartbeats 800000 in
theorem start_ok (s : ByteArray) (w : World) (hs : s.size ≤ maxLen) :
    Calls Tryz.prog 92 #[.string s] w (Same w (.int .i64 (spanN isBlank s.data.toList))) := by
  unfold maxLen at hs
  go_enter Tryz.func92, Tryz.ntmps92
  go_wp2_with fail
  go_loop [3] (fun i => ∃ k : Nat, k ≤ s.size ∧ i = .int .i64 k ∧ k ≤ spanN isBlank s.data.toList) (fun i => s.size - (intOf i).toNat)
  case atStart => exact ⟨0, Nat.zero_le _, rfl, Nat.zero_le _⟩
  case round =>
    obtain ⟨k, hk, rfl, hsp⟩ := hrel
    have HSP := Lib.hid hsp
    clear hsp
    by_cases hlt : k < s.size
    · have g := get_atB s k hlt
      by_cases hc : isBlank s[k] = true
      · have HN := Lib.hid (spanN_on HSP.out (by rfl) (by rw [g]; exact hc))
        clear g
        by_cases h32 : s[k] = 32
        · have t1 : ((s[k].toNat : Int) == 32) = true := by rw [h32]; rfl
          clear h32 hc
          go_wp2_with fail
          go_round
          case rel => exact ⟨k + 1, by omega, by go_num, HN.out⟩
          case measure => simp [intOf]; omega
        · have t1 : ((s[k].toNat : Int) == 32) = false := by rw [show (32 : Int) = ((32 : Nat) : Int) from rfl, byte_is _ _ (by omega)]; simpa using h32
          have t2 : ((s[k].toNat : Int) == 9) = true := by
            rw [show (9 : Int) = ((9 : Nat) : Int) from rfl, byte_is _ _ (by omega)]
            unfold isBlank at hc
            simpa [h32] using hc
          clear h32 hc
          go_wp2_with fail
          go_round
          case rel => exact ⟨k + 1, by omega, by go_num, HN.out⟩
          case measure => simp [intOf]; omega
      · have HE := Lib.hid (spanN_end HSP.out (by rw [g]; simpa using hc))
        have t1 : ((s[k].toNat : Int) == 32) = false := by
          rw [show (32 : Int) = ((32 : Nat) : Int) from rfl, byte_is _ _ (by omega)]
          unfold isBlank at hc
          simp at hc
          simpa using hc.1
        have t2 : ((s[k].toNat : Int) == 9) = false := by
          rw [show (9 : Int) = ((9 : Nat) : Int) from rfl, byte_is _ _ (by omega)]
          unfold isBlank at hc
          simp at hc
          simpa using hc.2
        clear g hc
        go_wp2_with fail
        go_ret
        exact ⟨by rw [HE.out]; rfl, rfl⟩
    · have HE := Lib.hid (spanN_end HSP.out (by rw [atB_end s k hlt]; rfl))
      go_wp2_with fail
      go_ret
      exact ⟨by rw [HE.out]; rfl, rfl⟩

set_option maxHeartbeats 800000 in
theorem zeros_ok (s : ByteArray) (w : World) (hs : s.size ≤ maxLen) :
    Calls Tryz.prog 110 #[.string s] w (Same w (.int .i64 (spanN isZero s.data.toList))) := by
  unfold maxLen at hs
  go_enter Tryz.func110, Tryz.ntmps110
  go_wp2_with fail
  go_loop [3] (fun i => ∃ k : Nat, k ≤ s.size ∧ i = .int .i64 k ∧ k ≤ spanN isZero s.data.toList) (fun i => s.size - (intOf i).toNat)
  case atStart => exact ⟨0, Nat.zero_le _, rfl, Nat.zero_le _⟩
  case round =>
    obtain ⟨k, hk, rfl, hsp⟩ := hrel
    have HSP := Lib.hid hsp
    clear hsp
    by_cases hlt : k < s.size
    · have g := get_atB s k hlt
      have t1 := byte_is s[k] 48 (by omega)
      by_cases hc : isZero s[k] = true
      · have HN := Lib.hid (spanN_on HSP.out (by rfl) (by rw [g]; exact hc))
        have t2 : ((s[k].toNat : Int) == 48) = true := t1.trans hc
        clear g t1 hc
        go_wp2_with fail
        go_round
        case rel => exact ⟨k + 1, by omega, by go_num, HN.out⟩
        case measure => simp [intOf]; omega
      · have HE := Lib.hid (spanN_end HSP.out (by rw [g]; simpa using hc))
        have t2 : ((s[k].toNat : Int) == 48) = false := t1.trans (Bool.eq_false_iff.2 hc)
        clear g t1 hc
        go_wp2_with fail
        go_ret
        exact ⟨by rw [HE.out]; rfl, rfl⟩
    · have HE := Lib.hid (spanN_end HSP.out (by rw [atB_end s k hlt]; rfl))
      go_wp2_with fail
      go_ret
      exact ⟨by rw [HE.out]; rfl, rfl⟩

theorem trimR_keep {l : List UInt8} {c : UInt8} (h : c ≠ 48) : trimR (l ++ [c]) = l ++ [c] := by
  rw [trimR_eq, List.reverse_append]
  simp [List.dropWhile, h]
theorem trimR_drop (l : List UInt8) : trimR (l ++ [48]) = trimR l := trimR_more l 1

set_option maxHeartbeats 800000 in
theorem trimmed_ok (s : ByteArray) (w : World) (hs : s.size ≤ maxLen) :
    Calls Tryz.prog 111 #[.string s] w (Same w (.string (bs (trimR s.data.toList)))) := by
  unfold maxLen at hs
  go_enter Tryz.func111, Tryz.ntmps111
  go_wp2_with fail
  go_loop [3] (fun i => ∃ k : Nat, k ≤ s.size ∧ i = .int .i64 k ∧ trimR s.data.toList = trimR (s.data.toList.take k)) (fun i => (intOf i).toNat)
  case atStart => exact ⟨s.size, Nat.le_refl _, rfl, by rw [Lib.size_eq, List.take_length]⟩
  case round =>
    obtain ⟨k, hk, rfl, heq⟩ := hrel
    have HE := Lib.hid heq
    clear heq
    rcases Nat.eq_zero_or_pos k with h0 | h0
    · have h0' := Lib.hid h0
      subst h0
      go_wp2_with fail
      go_ret
      refine ⟨?_, rfl⟩
      rw [HE.out]
      rfl
    · obtain ⟨m, rfl⟩ : ∃ m, k = m + 1 := ⟨k - 1, by omega⟩
      have hm : m < s.size := by omega
      have ht : s.data.toList.take (m + 1) = s.data.toList.take m ++ [s[m]] := by
        rw [List.take_succ_eq_append_getElem (by rw [← Lib.size_eq]; exact hm)]; rfl
      have t0 : decide ((0 : Int) < ((m + 1 : Nat) : Int)) = true := decide_eq_true (by omega)
      have ti : (((m + 1 : Nat) : Int) - 1) = (m : Int) := by omega
      have t1 := byte_is s[m] 48 (by omega)
      have TI := Lib.hid ti
      by_cases hc : s[m] = 48
      · have HN := Lib.hid (show trimR s.data.toList = trimR (s.data.toList.take m) by rw [HE.out, ht, hc, trimR_drop])
        have t2 : ((s[m].toNat : Int) == 48) = true := t1.trans (by rw [hc]; rfl)
        clear ht t1 hc
        go_wp2_with fail
        go_round
        case rel => exact ⟨m, by omega, by go_num, HN.out⟩
        case measure => simp [intOf]
      · have HN := Lib.hid (show trimR s.data.toList = s.data.toList.take (m + 1) by rw [HE.out, ht, trimR_keep hc])
        have t2 : ((s[m].toNat : Int) == 48) = false := t1.trans (by simpa using hc)
        clear ht t1 hc
        go_wp2_with fail
        go_ret
        refine ⟨?_, rfl⟩
        rw [HN.out, extract_bs, List.drop_zero]
        rfl
end

section


set_option maxHeartbeats 400000 in
theorem isDigitR_ok (c : UInt8) (w : World) :
    Calls Tryz.prog 116 #[.int .u8 c.toNat] w fun e w' => e = .returned (.bool (isDig c)) ∧ w = w' := by
  by_cases h1 : (48 : Int) ≤ c.toNat
  · by_cases h2 : (c.toNat : Int) ≤ 57
    · have E := Lib.hid (show isDig c = true by unfold isDig; rw [decide_eq_true (by omega), decide_eq_true (by omega)]; rfl)
      go_enter Tryz.func116, Tryz.ntmps116
      go_wp2_with fail
      go_ret
      exact ⟨by rw [E.out]; rfl, rfl⟩
    · have E := Lib.hid (show isDig c = false by unfold isDig; rw [decide_eq_false (p := c.toNat ≤ 57) (by omega), Bool.and_false])
      have h2' : decide ((c.toNat : Int) ≤ 57) = false := decide_eq_false h2
      go_enter Tryz.func116, Tryz.ntmps116
      go_wp2_with fail
      go_ret
      exact ⟨by rw [E.out]; rfl, rfl⟩
  · have E := Lib.hid (show isDig c = false by unfold isDig; rw [decide_eq_false (p := 48 ≤ c.toNat) (by omega), Bool.false_and])
    have h1' : decide ((48 : Int) ≤ c.toNat) = false := decide_eq_false h1
    go_enter Tryz.func116, Tryz.ntmps116
    go_wp2_with fail
    go_ret
    exact ⟨by rw [E.out]; rfl, rfl⟩

set_option maxHeartbeats 800000 in
theorem run_ok (s : ByteArray) (i : Nat) (w : World) (hs : s.size ≤ maxLen) (hi : i ≤ s.size) :
    Calls Tryz.prog 115 #[.string s, .int .i64 i] w (Same w (.int .i64 ((i + spanN isDig (s.data.toList.drop i) : Nat) : Int))) := by
  unfold maxLen at hs
  obtain ⟨N, hN⟩ : ∃ N, N = i + spanN isDig (s.data.toList.drop i) := ⟨_, rfl⟩
  rw [← hN]
  have HNN := Lib.hid hN
  clear hN
  go_enter Tryz.func115, Tryz.ntmps115
  go_wp2_with fail
  go_loop [1] (fun x => ∃ k : Nat, i + k ≤ s.size ∧ x = .int .i64 ((i + k : Nat) : Int) ∧ k ≤ spanN isDig (s.data.toList.drop i)) (fun x => s.size - (intOf x).toNat)
  case atStart => exact ⟨0, by omega, rfl, Nat.zero_le _⟩
  case round =>
    obtain ⟨k, hk, rfl, hsp⟩ := hrel
    have HSP := Lib.hid hsp
    clear hsp
    obtain ⟨j, hj⟩ : ∃ j, j = i + k := ⟨_, rfl⟩
    rw [← hj] at hk ⊢
    have HJ := Lib.hid hj
    clear hj
    by_cases hlt : j < s.size
    · have g : atB (s.data.toList.drop i) k = s[j] := by rw [atB_drop, ← HJ.out]; exact get_atB s j hlt
      cases hc : isDig s[j] with
      | true =>
        have HN := Lib.hid (spanN_on HSP.out (by rfl) (by rw [g]; exact hc))
        have C := Lib.hid (fun W : World => isDigitR_ok s[j] W)
        rw [hc] at C
        clear g hc
        go_wp2_with fail
        refine (C.out _).mono ?_
        rintro e w1 ⟨rfl, rfl⟩
        go_wp2_with fail
        go_round
        case rel => exact ⟨k + 1, by have := HJ.out; omega, by rw [show i + (k + 1) = j + 1 by have := HJ.out; omega]; go_num, HN.out⟩
        case measure => simp [intOf]; omega
      | false =>
        have HE := Lib.hid (spanN_end HSP.out (by rw [g]; exact hc))
        have C := Lib.hid (fun W : World => isDigitR_ok s[j] W)
        rw [hc] at C
        clear g hc
        go_wp2_with fail
        refine (C.out _).mono ?_
        rintro e w1 ⟨rfl, rfl⟩
        go_wp2_with fail
        go_ret
        exact ⟨by rw [HNN.out, HE.out, ← HJ.out]; rfl, rfl⟩
    · have HE := Lib.hid (spanN_end HSP.out (by rw [atB_drop, ← HJ.out, atB_end s j hlt]; rfl))
      go_wp2_with fail
      go_ret
      exact ⟨by rw [HNN.out, HE.out, ← HJ.out]; rfl, rfl⟩

/-- Digits with an optional point. -/
def plW (r : List UInt8) : List UInt8 := r.takeWhile isDig
def plF (r : List UInt8) : List UInt8 := fracS (r.dropWhile isDig)
def plN (r : List UInt8) : Nat := spanN isDig r + fracN (r.dropWhile isDig)
def plainV (l : List UInt8) (i : Nat) : Value :=
  if plW (l.drop i) ++ plF (l.drop i) = [] then .tuple #[.string ⟨#[]⟩, .int .i64 0, .int .i64 (-1)]
  else .tuple #[.string (bs (plW (l.drop i) ++ plF (l.drop i))), .int .i64 ((plW (l.drop i)).length : Int), .int .i64 ((i + plN (l.drop i) : Nat) : Int)]

theorem dw_at (l : List UInt8) (i : Nat) : (l.drop i).dropWhile isDig = l.drop (i + spanN isDig (l.drop i)) := by
  rw [← drop_spanN, List.drop_drop]
set_option maxRecDepth 100000
set_option maxHeartbeats 800000 in
theorem plain_dot (s : ByteArray) (i j k : Nat) (w : World) (hs : s.size ≤ maxLen) (hi : i ≤ j) (hj : j < s.size) (h46 : s[j] = 46) (hk : j + 1 ≤ k) (hks : k ≤ s.size) (A B : List UInt8) (hA : s.extract i j = bs A) (hB : s.extract (j + 1) k = bs B) (zA : (bs A).size ≤ 140737488351232) (zB : (bs B).size ≤ 140737488351232)
    (R1 : Hid (∀ W, Calls Tryz.prog 115 #[.string s, .int .i64 i] W (Same W (.int .i64 (j : Int))))) (R2 : Hid (∀ W, Calls Tryz.prog 115 #[.string s, .int .i64 ((j : Int) + 1)] W (Same W (.int .i64 (k : Int))))) (V : Value)
    (hV : V = if A ++ B = [] then .tuple #[.string ⟨#[]⟩, .int .i64 0, .int .i64 (-1)] else .tuple #[.string (bs (A ++ B)), .int .i64 (A.length : Int), .int .i64 (k : Int)]) :
    Calls Tryz.prog 94 #[.string s, .int .i64 i] w (Same w V) := by
  unfold maxLen at hs
  have t1 : ((s[j].toNat : Int) == 46) = true := by rw [h46]; rfl
  clear h46
  have hz := bs_size A
  by_cases h : A ++ B = []
  · rw [if_pos h] at hV
    have hc := bs_cat A B
    rw [h] at hc
    have hf : (bs []).toList.isEmpty = true ∧ ((bs []).toList == []) = true ∧ (bs []).toList = [] := by rw [Lib.toList_data, bs_list]; exact ⟨rfl, rfl, rfl⟩
    have HV := Lib.hid hV
    generalize bs [] = C at *
    generalize bs A = a at *
    generalize bs B = b at *
    clear hV h hz
    obtain ⟨f1, f2, f3⟩ := hf
    go_enter Tryz.func94, Tryz.ntmps94
    go_wp2_with fail
    refine (R1.out _).mono ?_
    rintro e w1 ⟨rfl, rfl⟩
    go_wp2_with fail
    refine (R2.out _).mono ?_
    rintro e w1 ⟨rfl, rfl⟩
    go_wp2_with fail
    go_ret3
    exact ⟨by rw [HV.out]; rfl, rfl⟩
  · rw [if_neg h] at hV
    have hc := bs_cat A B
    have hf := bs_more h
    have hAl : ((bs A).size : Int) = (A.length : Int) := by rw [hz]
    have HV := Lib.hid hV
    have HZ := Lib.hid hAl
    generalize A.length = la at *
    generalize bs (A ++ B) = C at *
    generalize bs A = a at *
    generalize bs B = b at *
    clear hV h hAl hz
    obtain ⟨f1, f2, f3⟩ := hf
    go_enter Tryz.func94, Tryz.ntmps94
    go_wp2_with fail
    refine (R1.out _).mono ?_
    rintro e w1 ⟨rfl, rfl⟩
    go_wp2_with fail
    refine (R2.out _).mono ?_
    rintro e w1 ⟨rfl, rfl⟩
    go_wp2_with fail
    go_ret3
    exact ⟨by rw [HV.out, ← HZ.out]; rfl, rfl⟩

set_option maxHeartbeats 800000 in
theorem plain_none (s : ByteArray) (i j : Nat) (w : World) (hs : s.size ≤ maxLen) (hi : i ≤ j) (hjs : j ≤ s.size) (h46 : (j < s.size) → ((atB s.data.toList j).toNat : Int) ≠ 46) (A : List UInt8) (hA : s.extract i j = bs A)
    (R1 : Hid (∀ W, Calls Tryz.prog 115 #[.string s, .int .i64 i] W (Same W (.int .i64 (j : Int))))) (V : Value)
    (hV : V = if A = [] then .tuple #[.string ⟨#[]⟩, .int .i64 0, .int .i64 (-1)] else .tuple #[.string (bs A), .int .i64 (A.length : Int), .int .i64 (j : Int)]) :
    Calls Tryz.prog 94 #[.string s, .int .i64 i] w (Same w V) := by
  unfold maxLen at hs
  have hz := bs_size A
  by_cases h : A = []
  · rw [if_pos h] at hV
    subst h
    have hf : (bs []).toList.isEmpty = true ∧ ((bs []).toList == []) = true ∧ (bs []).toList = [] := by rw [Lib.toList_data, bs_list]; exact ⟨rfl, rfl, rfl⟩
    have HV := Lib.hid hV
    generalize bs [] = a at *
    clear hz hV
    obtain ⟨f1, f2, f3⟩ := hf
    by_cases hj : j < s.size
    · have t1 : ((s[j].toNat : Int) == 46) = false := by rw [beq_eq_false_iff_ne, ← get_atB s j hj]; exact h46 hj
      clear h46
      go_enter Tryz.func94, Tryz.ntmps94
      go_wp2_with fail
      refine (R1.out _).mono ?_
      rintro e w1 ⟨rfl, rfl⟩
      go_wp2_with fail
      go_ret3
      exact ⟨by rw [HV.out]; rfl, rfl⟩
    · clear h46
      go_enter Tryz.func94, Tryz.ntmps94
      go_wp2_with fail
      refine (R1.out _).mono ?_
      rintro e w1 ⟨rfl, rfl⟩
      go_wp2_with fail
      go_ret3
      exact ⟨by rw [HV.out]; rfl, rfl⟩
  · rw [if_neg h] at hV
    have hf := bs_more h
    have hAl : ((bs A).size : Int) = (A.length : Int) := by rw [hz]
    have HV := Lib.hid hV
    have HZ := Lib.hid hAl
    generalize A.length = la at *
    generalize bs A = a at *
    clear hV h hAl hz
    obtain ⟨f1, f2, f3⟩ := hf
    by_cases hj : j < s.size
    · have t1 : ((s[j].toNat : Int) == 46) = false := by rw [beq_eq_false_iff_ne, ← get_atB s j hj]; exact h46 hj
      clear h46
      go_enter Tryz.func94, Tryz.ntmps94
      go_wp2_with fail
      refine (R1.out _).mono ?_
      rintro e w1 ⟨rfl, rfl⟩
      go_wp2_with fail
      go_ret3
      exact ⟨by rw [HV.out, ← HZ.out]; rfl, rfl⟩
    · clear h46
      go_enter Tryz.func94, Tryz.ntmps94
      go_wp2_with fail
      refine (R1.out _).mono ?_
      rintro e w1 ⟨rfl, rfl⟩
      go_wp2_with fail
      go_ret3
      exact ⟨by rw [HV.out, ← HZ.out]; rfl, rfl⟩

theorem spanN_drop_le (p : UInt8 → Bool) (s : ByteArray) (i : Nat) (hi : i ≤ s.size) : i + spanN p (s.data.toList.drop i) ≤ s.size := by
  have h := spanN_le p (s.data.toList.drop i)
  rw [List.length_drop, ← Lib.size_eq] at h
  omega
theorem ext_span (s : ByteArray) (i : Nat) : s.extract i (i + spanN isDig (s.data.toList.drop i)) = bs ((s.data.toList.drop i).takeWhile isDig) := by
  rw [extract_bs, show i + spanN isDig (s.data.toList.drop i) - i = spanN isDig (s.data.toList.drop i) by omega, take_spanN]

theorem plain_ok (s : ByteArray) (i : Nat) (w : World) (hs2 : s.size ≤ 140737488351232) (hi : i ≤ s.size) :
    Calls Tryz.prog 94 #[.string s, .int .i64 i] w (Same w (plainV s.data.toList i)) := by
  have hs : s.size ≤ maxLen := by unfold maxLen; omega
  have hj := spanN_drop_le isDig s i hi
  have e2 := dw_at s.data.toList i
  have e1 := ext_span s i
  have e3 : atB ((s.data.toList.drop i).dropWhile isDig) 0 = atB s.data.toList (i + spanN isDig (s.data.toList.drop i)) := by rw [e2, atB_drop]; rfl
  have R1 := Lib.hid (fun W : World => run_ok s i W hs hi)
  by_cases h46 : atB s.data.toList (i + spanN isDig (s.data.toList.drop i)) = 46
  · have hlt : i + spanN isDig (s.data.toList.drop i) < s.size := by
      rcases Nat.lt_or_ge (i + spanN isDig (s.data.toList.drop i)) s.size with h | h
      · exact h
      · rw [atB_end s _ (by omega)] at h46; cases h46
    have h46' : s[i + spanN isDig (s.data.toList.drop i)] = 46 := by rw [← get_atB s _ hlt]; exact h46
    have eF : plF (s.data.toList.drop i) = (s.data.toList.drop (i + spanN isDig (s.data.toList.drop i) + 1)).takeWhile isDig := by
      unfold plF fracS
      rw [e3, h46, e2, List.drop_drop]
      rfl
    have eN : plN (s.data.toList.drop i) = spanN isDig (s.data.toList.drop i) + (1 + spanN isDig (s.data.toList.drop (i + spanN isDig (s.data.toList.drop i) + 1))) := by
      unfold plN fracN
      rw [e3, h46, e2, List.drop_drop]
      rfl
    have eV : plainV s.data.toList i = if plW (s.data.toList.drop i) ++ plF (s.data.toList.drop i) = [] then .tuple #[.string ⟨#[]⟩, .int .i64 0, .int .i64 (-1)] else .tuple #[.string (bs (plW (s.data.toList.drop i) ++ plF (s.data.toList.drop i))), .int .i64 ((plW (s.data.toList.drop i)).length : Int), .int .i64 ((i + plN (s.data.toList.drop i) : Nat) : Int)] := rfl
    rw [eN, eF] at eV
    rw [show i + (spanN isDig (s.data.toList.drop i) + (1 + spanN isDig (s.data.toList.drop (i + spanN isDig (s.data.toList.drop i) + 1)))) = i + spanN isDig (s.data.toList.drop i) + 1 + spanN isDig (s.data.toList.drop (i + spanN isDig (s.data.toList.drop i) + 1)) by omega] at eV
    have hj2 := spanN_drop_le isDig s (i + spanN isDig (s.data.toList.drop i) + 1) (by omega)
    have e4 := ext_span s (i + spanN isDig (s.data.toList.drop i) + 1)
    have R2 := Lib.hid (fun W : World => run_ok s (i + spanN isDig (s.data.toList.drop i) + 1) W hs (by omega))
    unfold plW at eV
    exact plain_dot s i (i + spanN isDig (s.data.toList.drop i)) (i + spanN isDig (s.data.toList.drop i) + 1 + spanN isDig (s.data.toList.drop (i + spanN isDig (s.data.toList.drop i) + 1))) w hs (by omega) hlt h46' (by omega) hj2 _ _ e1 e4 (by rw [← e1]; simp; omega) (by rw [← e4]; simp; omega) R1
      (Lib.hid fun W => by have := R2.out W; rw [show (((i + spanN isDig (s.data.toList.drop i) + 1 : Nat)) : Int) = ((i + spanN isDig (s.data.toList.drop i) : Nat) : Int) + 1 from by omega] at this; exact this) _ eV
  · have eb : (atB s.data.toList (i + spanN isDig (s.data.toList.drop i)) == 46) = false := by simpa using h46
    have eF : plF (s.data.toList.drop i) = [] := by
      unfold plF fracS
      rw [e3, eb]
      rfl
    have eN : plN (s.data.toList.drop i) = spanN isDig (s.data.toList.drop i) := by
      unfold plN fracN
      rw [e3, eb]
      rfl
    have eV : plainV s.data.toList i = if plW (s.data.toList.drop i) ++ plF (s.data.toList.drop i) = [] then .tuple #[.string ⟨#[]⟩, .int .i64 0, .int .i64 (-1)] else .tuple #[.string (bs (plW (s.data.toList.drop i) ++ plF (s.data.toList.drop i))), .int .i64 ((plW (s.data.toList.drop i)).length : Int), .int .i64 ((i + plN (s.data.toList.drop i) : Nat) : Int)] := rfl
    rw [eN, eF, List.append_nil] at eV
    exact plain_none s i (i + spanN isDig (s.data.toList.drop i)) w hs (by omega) hj (fun _ h => h46 (UInt8.toNat_inj.1 (by have e : ((atB s.data.toList (i + spanN isDig (s.data.toList.drop i))).toNat : Int) = 46 := h; show _ = 46; omega))) _ e1 R1 _ eV
end

section


/-- What signed tells. -/
def numV (neg : Bool) (d : ByteArray) (p r : Int) : Value := .agg #[.bool neg, .string d, .int .i64 p, .int .i64 r]
def sgB (l : List UInt8) : Nat := spanN isBlank l
def sgNeg (l : List UInt8) : Bool := atB (l.drop (sgB l)) 0 == 45
def sgI (l : List UInt8) : Nat := sgB l + (if sgNeg l then 1 else 0)
def sgD (l : List UInt8) : List UInt8 := plW (l.drop (sgI l)) ++ plF (l.drop (sgI l))
def signedV (l : List UInt8) : Value :=
  if sgD l = [] then .tuple #[numV false ⟨#[]⟩ 0 0, .int .i64 0]
  else .tuple #[numV (sgNeg l) (bs (sgD l)) ((plW (l.drop (sgI l))).length : Int) 0, .int .i64 ((sgI l + plN (l.drop (sgI l)) : Nat) : Int)]

set_option maxRecDepth 100000

set_option maxHeartbeats 800000 in
theorem signed_neg_none (s : ByteArray) (b : Nat) (w : World) (hs : s.size ≤ 140737488351232) (hb : b < s.size) (h45 : s[b] = 45)
    (SC : Hid (∀ W, Calls Tryz.prog 92 #[.string s] W (Same W (.int .i64 (b : Int))))) (PC : Hid (∀ W, Calls Tryz.prog 94 #[.string s, .int .i64 ((b : Int) + 1)] W (Same W (.tuple #[.string ⟨#[]⟩, .int .i64 0, .int .i64 (-1)])))) :
    Calls Tryz.prog 89 #[.string s] w (RetBelow w (.tuple #[.agg #[.bool false, .string ⟨#[]⟩, .int .i64 0, .int .i64 0], .int .i64 0])) := by
  have t0 : ((s[b].toNat : Int) == 45) = true := by rw [h45]; rfl
  clear h45
  have A0 := CellsAt.new w [.bool false, .string ⟨#[]⟩, .int .i64 0, .int .i64 0] 94
  have B0 := Lib.hid ((Below.refl w.heap.size w).alloc (Nat.le_refl _) (Obj.cells #[.bool false, .string ⟨#[]⟩, .int .i64 0, .int .i64 0] 94))
  have HA0 := Lib.hid A0
  clear A0
  go_enter Tryz.func89, Tryz.ntmps89
  go_wp2_with fail
  generalize hX : w.alloc (Obj.cells #[.bool false, .string ⟨#[]⟩, .int .i64 0, .int .i64 0] 94) = x at *
  clear hX
  refine (SC.out _).mono ?_
  rintro e w1 ⟨rfl, rfl⟩
  go_wp2_with fail
  refine (PC.out _).mono ?_
  rintro e w1 ⟨rfl, rfl⟩
  have A2 := HA0.out
  have a0 := A2.cell 0 _ rfl
  have a1 := A2.cell 1 _ rfl
  have a2 := A2.cell 2 _ rfl
  have a3 := A2.cell 3 _ rfl
  have f0 := A2.free 0
  have f1 := A2.free 1
  have f2 := A2.free 2
  have f3 := A2.free 3
  have al := A2.lt
  have C := (((A2.set 0 (.bool false) (by simp)).set 1 (.string ⟨#[]⟩) (by simp)).set 2 (.int .i64 0) (by simp)).set 3 (.int .i64 0) (by simp)
  have c0 := C.cell 0 _ rfl
  have c1 := C.cell 1 _ rfl
  have c2 := C.cell 2 _ rfl
  have c3 := C.cell 3 _ rfl
  have BX := Lib.hid ((((B0.out.setCell (p := ⟨w.heap.size, 0, none⟩) (Nat.le_refl _) (.bool false)).setCell (p := ⟨w.heap.size, 1, none⟩) (Nat.le_refl _) (.string ⟨#[]⟩)).setCell (p := ⟨w.heap.size, 2, none⟩) (Nat.le_refl _) (.int .i64 0)).setCell (p := ⟨w.heap.size, 3, none⟩) (Nat.le_refl _) (.int .i64 0))
  clear A2 C
  go_wp2_with fail
  exact bodyPost_ret (v := .tuple #[.agg #[.bool false, .string ⟨#[]⟩, .int .i64 0, .int .i64 0], .int .i64 0]) (by simp [results, Tryz.results89, go_sem, c0, c1, c2, c3]) rfl ⟨rfl, BX.out⟩

set_option maxHeartbeats 800000 in
theorem signed_neg_some (s : ByteArray) (b : Nat) (w : World) (hs : s.size ≤ 140737488351232) (hb : b < s.size) (h45 : s[b] = 45) (D : ByteArray) (p q : Int) (hq : 0 ≤ q)
    (SC : Hid (∀ W, Calls Tryz.prog 92 #[.string s] W (Same W (.int .i64 (b : Int))))) (PC : Hid (∀ W, Calls Tryz.prog 94 #[.string s, .int .i64 ((b : Int) + 1)] W (Same W (.tuple #[.string D, .int .i64 p, .int .i64 q])))) :
    Calls Tryz.prog 89 #[.string s] w (RetBelow w (.tuple #[.agg #[.bool true, .string D, .int .i64 p, .int .i64 0], .int .i64 q])) := by
  have t0 : ((s[b].toNat : Int) == 45) = true := by rw [h45]; rfl
  clear h45
  have tq : decide (q < 0) = false := by simp; omega
  have A0 := CellsAt.new w [.bool false, .string ⟨#[]⟩, .int .i64 0, .int .i64 0] 94
  have B0 := Lib.hid ((Below.refl w.heap.size w).alloc (Nat.le_refl _) (Obj.cells #[.bool false, .string ⟨#[]⟩, .int .i64 0, .int .i64 0] 94))
  have HA0 := Lib.hid A0
  clear A0
  go_enter Tryz.func89, Tryz.ntmps89
  go_wp2_with fail
  generalize hX : w.alloc (Obj.cells #[.bool false, .string ⟨#[]⟩, .int .i64 0, .int .i64 0] 94) = x at *
  clear hX
  refine (SC.out _).mono ?_
  rintro e w1 ⟨rfl, rfl⟩
  go_wp2_with fail
  refine (PC.out _).mono ?_
  rintro e w1 ⟨rfl, rfl⟩
  have A2 := HA0.out
  have a0 := A2.cell 0 _ rfl
  have a1 := A2.cell 1 _ rfl
  have a2 := A2.cell 2 _ rfl
  have a3 := A2.cell 3 _ rfl
  have f0 := A2.free 0
  have f1 := A2.free 1
  have f2 := A2.free 2
  have f3 := A2.free 3
  have al := A2.lt
  have C := (((A2.set 0 (.bool true) (by simp)).set 1 (.string D) (by simp)).set 2 (.int .i64 p) (by simp)).set 3 (.int .i64 0) (by simp)
  have c0 := C.cell 0 _ rfl
  have c1 := C.cell 1 _ rfl
  have c2 := C.cell 2 _ rfl
  have c3 := C.cell 3 _ rfl
  have BX := Lib.hid ((((B0.out.setCell (p := ⟨w.heap.size, 0, none⟩) (Nat.le_refl _) (.bool true)).setCell (p := ⟨w.heap.size, 1, none⟩) (Nat.le_refl _) (.string D)).setCell (p := ⟨w.heap.size, 2, none⟩) (Nat.le_refl _) (.int .i64 p)).setCell (p := ⟨w.heap.size, 3, none⟩) (Nat.le_refl _) (.int .i64 0))
  clear A2 C
  go_wp2_with fail
  exact bodyPost_ret (v := .tuple #[.agg #[.bool true, .string D, .int .i64 p, .int .i64 0], .int .i64 q]) (by simp [results, Tryz.results89, go_sem, c0, c1, c2, c3]) rfl ⟨rfl, BX.out⟩

set_option maxHeartbeats 800000 in
theorem signed_pos_none (s : ByteArray) (b : Nat) (w : World) (hs : s.size ≤ 140737488351232) (hb : b < s.size) (h45 : ((s[b].toNat : Int) == 45) = false)
    (SC : Hid (∀ W, Calls Tryz.prog 92 #[.string s] W (Same W (.int .i64 (b : Int))))) (PC : Hid (∀ W, Calls Tryz.prog 94 #[.string s, .int .i64 (b : Int)] W (Same W (.tuple #[.string ⟨#[]⟩, .int .i64 0, .int .i64 (-1)])))) :
    Calls Tryz.prog 89 #[.string s] w (RetBelow w (.tuple #[.agg #[.bool false, .string ⟨#[]⟩, .int .i64 0, .int .i64 0], .int .i64 0])) := by
  have A0 := CellsAt.new w [.bool false, .string ⟨#[]⟩, .int .i64 0, .int .i64 0] 94
  have B0 := Lib.hid ((Below.refl w.heap.size w).alloc (Nat.le_refl _) (Obj.cells #[.bool false, .string ⟨#[]⟩, .int .i64 0, .int .i64 0] 94))
  have HA0 := Lib.hid A0
  clear A0
  go_enter Tryz.func89, Tryz.ntmps89
  go_wp2_with fail
  generalize hX : w.alloc (Obj.cells #[.bool false, .string ⟨#[]⟩, .int .i64 0, .int .i64 0] 94) = x at *
  clear hX
  refine (SC.out _).mono ?_
  rintro e w1 ⟨rfl, rfl⟩
  go_wp2_with fail
  refine (PC.out _).mono ?_
  rintro e w1 ⟨rfl, rfl⟩
  have A2 := HA0.out
  have a0 := A2.cell 0 _ rfl
  have a1 := A2.cell 1 _ rfl
  have a2 := A2.cell 2 _ rfl
  have a3 := A2.cell 3 _ rfl
  have f0 := A2.free 0
  have f1 := A2.free 1
  have f2 := A2.free 2
  have f3 := A2.free 3
  have al := A2.lt
  have C := (((A2.set 0 (.bool false) (by simp)).set 1 (.string ⟨#[]⟩) (by simp)).set 2 (.int .i64 0) (by simp)).set 3 (.int .i64 0) (by simp)
  have c0 := C.cell 0 _ rfl
  have c1 := C.cell 1 _ rfl
  have c2 := C.cell 2 _ rfl
  have c3 := C.cell 3 _ rfl
  have BX := Lib.hid ((((B0.out.setCell (p := ⟨w.heap.size, 0, none⟩) (Nat.le_refl _) (.bool false)).setCell (p := ⟨w.heap.size, 1, none⟩) (Nat.le_refl _) (.string ⟨#[]⟩)).setCell (p := ⟨w.heap.size, 2, none⟩) (Nat.le_refl _) (.int .i64 0)).setCell (p := ⟨w.heap.size, 3, none⟩) (Nat.le_refl _) (.int .i64 0))
  clear A2 C
  go_wp2_with fail
  exact bodyPost_ret (v := .tuple #[.agg #[.bool false, .string ⟨#[]⟩, .int .i64 0, .int .i64 0], .int .i64 0]) (by simp [results, Tryz.results89, go_sem, c0, c1, c2, c3]) rfl ⟨rfl, BX.out⟩

set_option maxHeartbeats 800000 in
theorem signed_pos_some (s : ByteArray) (b : Nat) (w : World) (hs : s.size ≤ 140737488351232) (hb : b < s.size) (h45 : ((s[b].toNat : Int) == 45) = false) (D : ByteArray) (p q : Int) (hq : 0 ≤ q)
    (SC : Hid (∀ W, Calls Tryz.prog 92 #[.string s] W (Same W (.int .i64 (b : Int))))) (PC : Hid (∀ W, Calls Tryz.prog 94 #[.string s, .int .i64 (b : Int)] W (Same W (.tuple #[.string D, .int .i64 p, .int .i64 q])))) :
    Calls Tryz.prog 89 #[.string s] w (RetBelow w (.tuple #[.agg #[.bool false, .string D, .int .i64 p, .int .i64 0], .int .i64 q])) := by
  have tq : decide (q < 0) = false := by simp; omega
  have A0 := CellsAt.new w [.bool false, .string ⟨#[]⟩, .int .i64 0, .int .i64 0] 94
  have B0 := Lib.hid ((Below.refl w.heap.size w).alloc (Nat.le_refl _) (Obj.cells #[.bool false, .string ⟨#[]⟩, .int .i64 0, .int .i64 0] 94))
  have HA0 := Lib.hid A0
  clear A0
  go_enter Tryz.func89, Tryz.ntmps89
  go_wp2_with fail
  generalize hX : w.alloc (Obj.cells #[.bool false, .string ⟨#[]⟩, .int .i64 0, .int .i64 0] 94) = x at *
  clear hX
  refine (SC.out _).mono ?_
  rintro e w1 ⟨rfl, rfl⟩
  go_wp2_with fail
  refine (PC.out _).mono ?_
  rintro e w1 ⟨rfl, rfl⟩
  have A2 := HA0.out
  have a0 := A2.cell 0 _ rfl
  have a1 := A2.cell 1 _ rfl
  have a2 := A2.cell 2 _ rfl
  have a3 := A2.cell 3 _ rfl
  have f0 := A2.free 0
  have f1 := A2.free 1
  have f2 := A2.free 2
  have f3 := A2.free 3
  have al := A2.lt
  have C := (((A2.set 0 (.bool false) (by simp)).set 1 (.string D) (by simp)).set 2 (.int .i64 p) (by simp)).set 3 (.int .i64 0) (by simp)
  have c0 := C.cell 0 _ rfl
  have c1 := C.cell 1 _ rfl
  have c2 := C.cell 2 _ rfl
  have c3 := C.cell 3 _ rfl
  have BX := Lib.hid ((((B0.out.setCell (p := ⟨w.heap.size, 0, none⟩) (Nat.le_refl _) (.bool false)).setCell (p := ⟨w.heap.size, 1, none⟩) (Nat.le_refl _) (.string D)).setCell (p := ⟨w.heap.size, 2, none⟩) (Nat.le_refl _) (.int .i64 p)).setCell (p := ⟨w.heap.size, 3, none⟩) (Nat.le_refl _) (.int .i64 0))
  clear A2 C
  go_wp2_with fail
  exact bodyPost_ret (v := .tuple #[.agg #[.bool false, .string D, .int .i64 p, .int .i64 0], .int .i64 q]) (by simp [results, Tryz.results89, go_sem, c0, c1, c2, c3]) rfl ⟨rfl, BX.out⟩

set_option maxHeartbeats 800000 in
theorem signed_end_none (s : ByteArray) (b : Nat) (w : World) (hs : s.size ≤ 140737488351232) (hb : ¬ b < s.size) (hb2 : b ≤ s.size)
    (SC : Hid (∀ W, Calls Tryz.prog 92 #[.string s] W (Same W (.int .i64 (b : Int))))) (PC : Hid (∀ W, Calls Tryz.prog 94 #[.string s, .int .i64 (b : Int)] W (Same W (.tuple #[.string ⟨#[]⟩, .int .i64 0, .int .i64 (-1)])))) :
    Calls Tryz.prog 89 #[.string s] w (RetBelow w (.tuple #[.agg #[.bool false, .string ⟨#[]⟩, .int .i64 0, .int .i64 0], .int .i64 0])) := by
  have A0 := CellsAt.new w [.bool false, .string ⟨#[]⟩, .int .i64 0, .int .i64 0] 94
  have B0 := Lib.hid ((Below.refl w.heap.size w).alloc (Nat.le_refl _) (Obj.cells #[.bool false, .string ⟨#[]⟩, .int .i64 0, .int .i64 0] 94))
  have HA0 := Lib.hid A0
  clear A0
  go_enter Tryz.func89, Tryz.ntmps89
  go_wp2_with fail
  generalize hX : w.alloc (Obj.cells #[.bool false, .string ⟨#[]⟩, .int .i64 0, .int .i64 0] 94) = x at *
  clear hX
  refine (SC.out _).mono ?_
  rintro e w1 ⟨rfl, rfl⟩
  go_wp2_with fail
  refine (PC.out _).mono ?_
  rintro e w1 ⟨rfl, rfl⟩
  have A2 := HA0.out
  have a0 := A2.cell 0 _ rfl
  have a1 := A2.cell 1 _ rfl
  have a2 := A2.cell 2 _ rfl
  have a3 := A2.cell 3 _ rfl
  have f0 := A2.free 0
  have f1 := A2.free 1
  have f2 := A2.free 2
  have f3 := A2.free 3
  have al := A2.lt
  have C := (((A2.set 0 (.bool false) (by simp)).set 1 (.string ⟨#[]⟩) (by simp)).set 2 (.int .i64 0) (by simp)).set 3 (.int .i64 0) (by simp)
  have c0 := C.cell 0 _ rfl
  have c1 := C.cell 1 _ rfl
  have c2 := C.cell 2 _ rfl
  have c3 := C.cell 3 _ rfl
  have BX := Lib.hid ((((B0.out.setCell (p := ⟨w.heap.size, 0, none⟩) (Nat.le_refl _) (.bool false)).setCell (p := ⟨w.heap.size, 1, none⟩) (Nat.le_refl _) (.string ⟨#[]⟩)).setCell (p := ⟨w.heap.size, 2, none⟩) (Nat.le_refl _) (.int .i64 0)).setCell (p := ⟨w.heap.size, 3, none⟩) (Nat.le_refl _) (.int .i64 0))
  clear A2 C
  go_wp2_with fail
  exact bodyPost_ret (v := .tuple #[.agg #[.bool false, .string ⟨#[]⟩, .int .i64 0, .int .i64 0], .int .i64 0]) (by simp [results, Tryz.results89, go_sem, c0, c1, c2, c3]) rfl ⟨rfl, BX.out⟩

set_option maxHeartbeats 800000 in
theorem signed_end_some (s : ByteArray) (b : Nat) (w : World) (hs : s.size ≤ 140737488351232) (hb : ¬ b < s.size) (hb2 : b ≤ s.size) (D : ByteArray) (p q : Int) (hq : 0 ≤ q)
    (SC : Hid (∀ W, Calls Tryz.prog 92 #[.string s] W (Same W (.int .i64 (b : Int))))) (PC : Hid (∀ W, Calls Tryz.prog 94 #[.string s, .int .i64 (b : Int)] W (Same W (.tuple #[.string D, .int .i64 p, .int .i64 q])))) :
    Calls Tryz.prog 89 #[.string s] w (RetBelow w (.tuple #[.agg #[.bool false, .string D, .int .i64 p, .int .i64 0], .int .i64 q])) := by
  have tq : decide (q < 0) = false := by simp; omega
  have A0 := CellsAt.new w [.bool false, .string ⟨#[]⟩, .int .i64 0, .int .i64 0] 94
  have B0 := Lib.hid ((Below.refl w.heap.size w).alloc (Nat.le_refl _) (Obj.cells #[.bool false, .string ⟨#[]⟩, .int .i64 0, .int .i64 0] 94))
  have HA0 := Lib.hid A0
  clear A0
  go_enter Tryz.func89, Tryz.ntmps89
  go_wp2_with fail
  generalize hX : w.alloc (Obj.cells #[.bool false, .string ⟨#[]⟩, .int .i64 0, .int .i64 0] 94) = x at *
  clear hX
  refine (SC.out _).mono ?_
  rintro e w1 ⟨rfl, rfl⟩
  go_wp2_with fail
  refine (PC.out _).mono ?_
  rintro e w1 ⟨rfl, rfl⟩
  have A2 := HA0.out
  have a0 := A2.cell 0 _ rfl
  have a1 := A2.cell 1 _ rfl
  have a2 := A2.cell 2 _ rfl
  have a3 := A2.cell 3 _ rfl
  have f0 := A2.free 0
  have f1 := A2.free 1
  have f2 := A2.free 2
  have f3 := A2.free 3
  have al := A2.lt
  have C := (((A2.set 0 (.bool false) (by simp)).set 1 (.string D) (by simp)).set 2 (.int .i64 p) (by simp)).set 3 (.int .i64 0) (by simp)
  have c0 := C.cell 0 _ rfl
  have c1 := C.cell 1 _ rfl
  have c2 := C.cell 2 _ rfl
  have c3 := C.cell 3 _ rfl
  have BX := Lib.hid ((((B0.out.setCell (p := ⟨w.heap.size, 0, none⟩) (Nat.le_refl _) (.bool false)).setCell (p := ⟨w.heap.size, 1, none⟩) (Nat.le_refl _) (.string D)).setCell (p := ⟨w.heap.size, 2, none⟩) (Nat.le_refl _) (.int .i64 p)).setCell (p := ⟨w.heap.size, 3, none⟩) (Nat.le_refl _) (.int .i64 0))
  clear A2 C
  go_wp2_with fail
  exact bodyPost_ret (v := .tuple #[.agg #[.bool false, .string D, .int .i64 p, .int .i64 0], .int .i64 q]) (by simp [results, Tryz.results89, go_sem, c0, c1, c2, c3]) rfl ⟨rfl, BX.out⟩

theorem signed_ok (s : ByteArray) (w : World) (hs : s.size ≤ 140737488351232) : Calls Tryz.prog 89 #[.string s] w (RetBelow w (signedV s.data.toList)) := by
  have hm : s.size ≤ maxLen := by unfold maxLen; omega
  have SC := Lib.hid (fun W : World => start_ok s W hm)
  have hb : sgB s.data.toList ≤ s.size := by unfold sgB; rw [Lib.size_eq]; exact spanN_le _ _
  have eN : sgNeg s.data.toList = (atB s.data.toList (sgB s.data.toList) == 45) := by unfold sgNeg; rw [atB_drop]; rfl
  have eS : signedV s.data.toList = if sgD s.data.toList = [] then .tuple #[numV false ⟨#[]⟩ 0 0, .int .i64 0] else .tuple #[numV (sgNeg s.data.toList) (bs (sgD s.data.toList)) ((plW (s.data.toList.drop (sgI s.data.toList))).length : Int) 0, .int .i64 ((sgI s.data.toList + plN (s.data.toList.drop (sgI s.data.toList)) : Nat) : Int)] := rfl
  have eP : plainV s.data.toList (sgI s.data.toList) = if sgD s.data.toList = [] then .tuple #[.string ⟨#[]⟩, .int .i64 0, .int .i64 (-1)] else .tuple #[.string (bs (sgD s.data.toList)), .int .i64 ((plW (s.data.toList.drop (sgI s.data.toList))).length : Int), .int .i64 ((sgI s.data.toList + plN (s.data.toList.drop (sgI s.data.toList)) : Nat) : Int)] := rfl
  have eI : sgI s.data.toList = sgB s.data.toList + (if sgNeg s.data.toList then 1 else 0) := rfl
  by_cases hlt : sgB s.data.toList < s.size
  · rw [get_atB s _ hlt] at eN
    by_cases h45 : s[sgB s.data.toList] = 45
    · rw [h45] at eN
      have eN' : sgNeg s.data.toList = true := eN
      rw [eN', if_pos rfl] at eI
      have PC := Lib.hid (fun W : World => plain_ok s (sgI s.data.toList) W hs (by omega))
      rw [eP, show ((sgI s.data.toList : Nat) : Int) = (sgB s.data.toList : Int) + 1 by omega] at PC
      rw [eN'] at eS
      by_cases hd : sgD s.data.toList = []
      · rw [if_pos hd] at eS PC
        rw [eS]
        exact signed_neg_none s _ w hs hlt h45 SC PC
      · rw [if_neg hd] at eS PC
        rw [eS]
        exact signed_neg_some s _ w hs hlt h45 _ _ _ (by omega) SC PC
    · have eN' : sgNeg s.data.toList = false := by rw [eN]; simpa using h45
      have t := byte_is s[sgB s.data.toList] 45 (by omega)
      have t' : ((s[sgB s.data.toList].toNat : Int) == 45) = false := t.trans (by simpa using h45)
      rw [eN', if_neg (by simp)] at eI
      have PC := Lib.hid (fun W : World => plain_ok s (sgI s.data.toList) W hs (by omega))
      rw [eP, show ((sgI s.data.toList : Nat) : Int) = (sgB s.data.toList : Int) by omega] at PC
      rw [eN'] at eS
      by_cases hd : sgD s.data.toList = []
      · rw [if_pos hd] at eS PC
        rw [eS]
        exact signed_pos_none s _ w hs hlt t' SC PC
      · rw [if_neg hd] at eS PC
        rw [eS]
        exact signed_pos_some s _ w hs hlt t' _ _ _ (by omega) SC PC
  · have eN' : sgNeg s.data.toList = false := by rw [eN, atB_end s _ hlt]; rfl
    rw [eN', if_neg (by simp)] at eI
    have PC := Lib.hid (fun W : World => plain_ok s (sgI s.data.toList) W hs (by omega))
    rw [eP, show ((sgI s.data.toList : Nat) : Int) = (sgB s.data.toList : Int) by omega] at PC
    rw [eN'] at eS
    by_cases hd : sgD s.data.toList = []
    · rw [if_pos hd] at eS PC
      rw [eS]
      exact signed_end_none s _ w hs hlt hb SC PC
    · rw [if_neg hd] at eS PC
      rw [eS]
      exact signed_end_some s _ w hs hlt hb _ _ _ (by omega) SC PC
end

section


set_option maxRecDepth 100000
set_option maxHeartbeats 1600000 in
theorem decR_none (s : ByteArray) (w : World) (SG : Hid (∀ W, Calls Tryz.prog 89 #[.string s] W (RetBelow W (.tuple #[.agg #[.bool false, .string ⟨#[]⟩, .int .i64 0, .int .i64 0], .int .i64 0])))) :
    Calls Tryz.prog 112 #[.string s] w (RetBelow w (.agg #[.bool false, .string ⟨#[]⟩, .string ⟨#[]⟩, .int .i64 0])) := by
  have HA0 := Lib.hid (CellsAt.new w [.bool false, .string ⟨#[]⟩, .string ⟨#[]⟩, .int .i64 0] 114)
  have B0 := Lib.hid ((Below.refl w.heap.size w).alloc (Nat.le_refl _) (Obj.cells #[.bool false, .string ⟨#[]⟩, .string ⟨#[]⟩, .int .i64 0] 114))
  go_enter Tryz.func112, Tryz.ntmps112
  go_wp2_with fail
  generalize hX : w.alloc (Obj.cells #[.bool false, .string ⟨#[]⟩, .string ⟨#[]⟩, .int .i64 0] 114) = x at *
  clear hX
  refine (SG.out _).mono ?_
  rintro e w1 ⟨rfl, hb1⟩
  have A2' := Lib.hid ((HA0.out.step hb1).alloc (Obj.cells #[.bool false, .string ⟨#[]⟩, .int .i64 0, .int .i64 0] 94))
  have B2 := Lib.hid ((B0.out.trans (hb1.mono B0.out.size)).alloc (Nat.le_trans B0.out.size hb1.size) (Obj.cells #[.bool false, .string ⟨#[]⟩, .int .i64 0, .int .i64 0] 94))
  clear hb1
  go_upto_region 3 with fail
  generalize hX : w1.alloc (Obj.cells #[.bool false, .string ⟨#[]⟩, .int .i64 0, .int .i64 0] 94) = x2 at *
  clear hX
  have A2 := A2'.out
  have hl := A2.lt
  have a0 := A2.cell 0 _ rfl
  have a1 := A2.cell 1 _ rfl
  have a2 := A2.cell 2 _ rfl
  have a3 := A2.cell 3 _ rfl
  have f0 := A2.free 0
  have f1 := A2.free 1
  have f2 := A2.free 2
  have f3 := A2.free 3
  have C := (((A2.set 0 (.bool false) (by simp)).set 1 (.string ⟨#[]⟩) (by simp)).set 2 (.string ⟨#[]⟩) (by simp)).set 3 (.int .i64 0) (by simp)
  have c0 := C.cell 0 _ rfl
  have c1 := C.cell 1 _ rfl
  have c2 := C.cell 2 _ rfl
  have c3 := C.cell 3 _ rfl
  have BX := Lib.hid ((((B2.out.setCell (p := ⟨w.heap.size, 0, none⟩) (Nat.le_refl _) (.bool false)).setCell (p := ⟨w.heap.size, 1, none⟩) (Nat.le_refl _) (.string ⟨#[]⟩)).setCell (p := ⟨w.heap.size, 2, none⟩) (Nat.le_refl _) (.string ⟨#[]⟩)).setCell (p := ⟨w.heap.size, 3, none⟩) (Nat.le_refl _) (.int .i64 0))
  clear A2 C
  go_wp2_with fail
  exact bodyPost_ret (v := .agg #[.bool false, .string ⟨#[]⟩, .string ⟨#[]⟩, .int .i64 0]) (by simp [results, Tryz.results112, go_sem, c0, c1, c2, c3]) rfl ⟨rfl, BX.out⟩

set_option maxHeartbeats 1600000 in
theorem decR_pos (s D wb fb Wt Ft : ByteArray) (p z : Nat) (q : Nat) (w : World) (hq : 0 < q) (hp : p ≤ D.size) (hz : z ≤ wb.size) (sD : D.size ≤ 140737488351232) (sW : Wt.size ≤ 140737488351232) (sF : Ft.size ≤ 140737488351232) (sw : wb.size ≤ 140737488351232)
    (E1 : D.extract 0 p = wb) (E2 : wb.extract z wb.size = Wt) (E3 : D.extract p D.size = fb)
    (SG : Hid (∀ W, Calls Tryz.prog 89 #[.string s] W (RetBelow W (.tuple #[.agg #[.bool false, .string D, .int .i64 p, .int .i64 0], .int .i64 q]))))
    (ZC : Hid (∀ W, Calls Tryz.prog 110 #[.string wb] W (Same W (.int .i64 z)))) (TC : Hid (∀ W, Calls Tryz.prog 111 #[.string fb] W (Same W (.string Ft)))) :
    Calls Tryz.prog 112 #[.string s] w (RetBelow w (.agg #[.bool false, .string Wt, .string Ft, .int .i64 q])) := by
  have HA0 := Lib.hid (CellsAt.new w [.bool false, .string ⟨#[]⟩, .string ⟨#[]⟩, .int .i64 0] 114)
  have B0 := Lib.hid ((Below.refl w.heap.size w).alloc (Nat.le_refl _) (Obj.cells #[.bool false, .string ⟨#[]⟩, .string ⟨#[]⟩, .int .i64 0] 114))
  have tq : ((q : Int) == 0) = false := by rw [beq_eq_false_iff_ne]; omega
  go_enter Tryz.func112, Tryz.ntmps112
  go_wp2_with fail
  generalize hX : w.alloc (Obj.cells #[.bool false, .string ⟨#[]⟩, .string ⟨#[]⟩, .int .i64 0] 114) = x at *
  clear hX
  refine (SG.out _).mono ?_
  rintro e w1 ⟨rfl, hb1⟩
  have A2 := Lib.hid ((HA0.out.step hb1).alloc (Obj.cells #[.bool false, .string D, .int .i64 p, .int .i64 0] 94))
  have N2 := Lib.hid (CellsAt.new w1 [.bool false, .string D, .int .i64 p, .int .i64 0] 94)
  have B2 := Lib.hid ((B0.out.trans (hb1.mono B0.out.size)).alloc (Nat.le_trans B0.out.size hb1.size) (Obj.cells #[.bool false, .string D, .int .i64 p, .int .i64 0] 94))
  have hl : w.heap.size < w1.heap.size := Nat.lt_of_lt_of_le HA0.out.lt hb1.size
  have HZ2 := Lib.hid (show (w1.alloc (Obj.cells #[.bool false, .string D, .int .i64 p, .int .i64 0] 94)).heap.size = w1.heap.size + 1 by simp)
  go_wp2_with fail
  generalize hX : w1.alloc (Obj.cells #[.bool false, .string D, .int .i64 p, .int .i64 0] 94) = x2 at *
  clear hX hb1
  have n0 := N2.out.cell 0 _ rfl
  have n1 := N2.out.cell 1 _ rfl
  have n2 := N2.out.cell 2 _ rfl
  go_region_held3 (fun w' => w'.cell? ⟨w1.heap.size, 1, none⟩ = some (.string D) ∧ w'.cell? ⟨w1.heap.size, 2, none⟩ = some (.int .i64 (p : Int)))
    (first | go_keep)
    ((first | (go_at_call 110; refine (ZC.out _).mono ?_; rintro e w' ⟨rfl, rfl⟩) | (go_at_call 111; refine (TC.out _).mono ?_; rintro e w' ⟨rfl, rfl⟩)))
  all_goals
    have N4 := Lib.hid ((CellsAt.new x2 [.bool false, .string Wt, .string Ft, .int .i64 q] 114).step ((Below.refl _ _).drew))
    have A4 := Lib.hid ((A2.out.alloc (Obj.cells #[.bool false, .string Wt, .string Ft, .int .i64 q] 114)).step ((Below.refl _ _).drew))
    have M4 := Lib.hid ((N2.out.alloc (Obj.cells #[.bool false, .string Wt, .string Ft, .int .i64 q] 114)).step ((Below.refl _ _).drew))
    have B4 := Lib.hid ((B2.out.alloc B2.out.size (Obj.cells #[.bool false, .string Wt, .string Ft, .int .i64 q] 114)).drew)
    have hl4 : w.heap.size < x2.heap.size := by have := HZ2.out; omega
    generalize hX : (x2.alloc (Obj.cells #[.bool false, .string Wt, .string Ft, .int .i64 q] 114)).drew = x3 at *
    clear hX n0 n1 n2
    have m0 := M4.out.cell 0 _ rfl
    have m1 := N4.out.cell 1 _ rfl
    have m2 := N4.out.cell 2 _ rfl
    have m3 := N4.out.cell 0 _ rfl
    have mf := N4.out.free 0
    have N5 := Lib.hid (N4.out.set 0 (.bool false) (by simp))
    have A5 := Lib.hid (A4.out.other (show x2.heap.size ≠ w.heap.size by omega) 0 (.bool false))
    have B5 := Lib.hid (B4.out.setCell (p := ⟨x2.heap.size, 0, none⟩) (by simp; omega) (.bool false))
    go_upto_region 7 with fail
    generalize hX : x3.setCell ⟨x2.heap.size, 0, none⟩ (.bool false) = x5 at *
    clear hX m0 m1 m2 m3 mf
    have r0 := N5.out.cell 0 _ rfl
    have r1 := N5.out.cell 1 _ rfl
    have r2 := N5.out.cell 2 _ rfl
    have r3 := N5.out.cell 3 _ rfl
    have A6 := A5.out
    have a0 := A6.cell 0 _ rfl
    have a1 := A6.cell 1 _ rfl
    have a2 := A6.cell 2 _ rfl
    have a3 := A6.cell 3 _ rfl
    have f0 := A6.free 0
    have f1 := A6.free 1
    have f2 := A6.free 2
    have f3 := A6.free 3
    have C := (((A6.set 0 (.bool false) (by simp)).set 1 (.string Wt) (by simp)).set 2 (.string Ft) (by simp)).set 3 (.int .i64 q) (by simp)
    have c0 := C.cell 0 _ rfl
    have c1 := C.cell 1 _ rfl
    have c2 := C.cell 2 _ rfl
    have c3 := C.cell 3 _ rfl
    have BX := Lib.hid ((((B5.out.setCell (p := ⟨w.heap.size, 0, none⟩) (Nat.le_refl _) (.bool false)).setCell (p := ⟨w.heap.size, 1, none⟩) (Nat.le_refl _) (.string Wt)).setCell (p := ⟨w.heap.size, 2, none⟩) (Nat.le_refl _) (.string Ft)).setCell (p := ⟨w.heap.size, 3, none⟩) (Nat.le_refl _) (.int .i64 q))
    clear A6 C
    go_wp2_with fail
    exact bodyPost_ret (v := .agg #[.bool false, .string Wt, .string Ft, .int .i64 q]) (by simp [results, Tryz.results112, go_sem, c0, c1, c2, c3]) rfl ⟨rfl, BX.out⟩

set_option maxHeartbeats 1600000 in
theorem decR_zero (s D wb fb Wt Ft : ByteArray) (p z : Nat) (q : Nat) (w : World) (hq : 0 < q) (hp : p ≤ D.size) (hz : z ≤ wb.size) (sD : D.size ≤ 140737488351232) (sW : Wt.size ≤ 140737488351232) (sF : Ft.size ≤ 140737488351232) (sw : wb.size ≤ 140737488351232)
    (E1 : D.extract 0 p = wb) (E2 : wb.extract z wb.size = Wt) (E3 : D.extract p D.size = fb) (S : ByteArray) (hS : Wt ++ Ft = S) (g1 : S.toList.isEmpty = true) (g2 : (S.toList == []) = true) (g3 : S.toList = [])
    (SG : Hid (∀ W, Calls Tryz.prog 89 #[.string s] W (RetBelow W (.tuple #[.agg #[.bool true, .string D, .int .i64 p, .int .i64 0], .int .i64 q]))))
    (ZC : Hid (∀ W, Calls Tryz.prog 110 #[.string wb] W (Same W (.int .i64 z)))) (TC : Hid (∀ W, Calls Tryz.prog 111 #[.string fb] W (Same W (.string Ft)))) :
    Calls Tryz.prog 112 #[.string s] w (RetBelow w (.agg #[.bool false, .string Wt, .string Ft, .int .i64 q])) := by
  have HA0 := Lib.hid (CellsAt.new w [.bool false, .string ⟨#[]⟩, .string ⟨#[]⟩, .int .i64 0] 114)
  have B0 := Lib.hid ((Below.refl w.heap.size w).alloc (Nat.le_refl _) (Obj.cells #[.bool false, .string ⟨#[]⟩, .string ⟨#[]⟩, .int .i64 0] 114))
  have tq : ((q : Int) == 0) = false := by rw [beq_eq_false_iff_ne]; omega
  go_enter Tryz.func112, Tryz.ntmps112
  go_wp2_with fail
  generalize hX : w.alloc (Obj.cells #[.bool false, .string ⟨#[]⟩, .string ⟨#[]⟩, .int .i64 0] 114) = x at *
  clear hX
  refine (SG.out _).mono ?_
  rintro e w1 ⟨rfl, hb1⟩
  have A2 := Lib.hid ((HA0.out.step hb1).alloc (Obj.cells #[.bool true, .string D, .int .i64 p, .int .i64 0] 94))
  have N2 := Lib.hid (CellsAt.new w1 [.bool true, .string D, .int .i64 p, .int .i64 0] 94)
  have B2 := Lib.hid ((B0.out.trans (hb1.mono B0.out.size)).alloc (Nat.le_trans B0.out.size hb1.size) (Obj.cells #[.bool true, .string D, .int .i64 p, .int .i64 0] 94))
  have hl : w.heap.size < w1.heap.size := Nat.lt_of_lt_of_le HA0.out.lt hb1.size
  have HZ2 := Lib.hid (show (w1.alloc (Obj.cells #[.bool true, .string D, .int .i64 p, .int .i64 0] 94)).heap.size = w1.heap.size + 1 by simp)
  go_wp2_with fail
  generalize hX : w1.alloc (Obj.cells #[.bool true, .string D, .int .i64 p, .int .i64 0] 94) = x2 at *
  clear hX hb1
  have n0 := N2.out.cell 0 _ rfl
  have n1 := N2.out.cell 1 _ rfl
  have n2 := N2.out.cell 2 _ rfl
  go_region_held3 (fun w' => w'.cell? ⟨w1.heap.size, 1, none⟩ = some (.string D) ∧ w'.cell? ⟨w1.heap.size, 2, none⟩ = some (.int .i64 (p : Int)))
    (first | go_keep)
    ((first | (go_at_call 110; refine (ZC.out _).mono ?_; rintro e w' ⟨rfl, rfl⟩) | (go_at_call 111; refine (TC.out _).mono ?_; rintro e w' ⟨rfl, rfl⟩)))
  all_goals
    have N4 := Lib.hid ((CellsAt.new x2 [.bool false, .string Wt, .string Ft, .int .i64 q] 114).step ((Below.refl _ _).drew))
    have A4 := Lib.hid ((A2.out.alloc (Obj.cells #[.bool false, .string Wt, .string Ft, .int .i64 q] 114)).step ((Below.refl _ _).drew))
    have M4 := Lib.hid ((N2.out.alloc (Obj.cells #[.bool false, .string Wt, .string Ft, .int .i64 q] 114)).step ((Below.refl _ _).drew))
    have B4 := Lib.hid ((B2.out.alloc B2.out.size (Obj.cells #[.bool false, .string Wt, .string Ft, .int .i64 q] 114)).drew)
    have hl4 : w.heap.size < x2.heap.size := by have := HZ2.out; omega
    generalize hX : (x2.alloc (Obj.cells #[.bool false, .string Wt, .string Ft, .int .i64 q] 114)).drew = x3 at *
    clear hX n0 n1 n2
    have m0 := M4.out.cell 0 _ rfl
    have m1 := N4.out.cell 1 _ rfl
    have m2 := N4.out.cell 2 _ rfl
    have m3 := N4.out.cell 0 _ rfl
    have mf := N4.out.free 0
    have N5 := Lib.hid (N4.out.set 0 (.bool false) (by simp))
    have A5 := Lib.hid (A4.out.other (show x2.heap.size ≠ w.heap.size by omega) 0 (.bool false))
    have B5 := Lib.hid (B4.out.setCell (p := ⟨x2.heap.size, 0, none⟩) (by simp; omega) (.bool false))
    go_upto_region 7 with fail
    generalize hX : x3.setCell ⟨x2.heap.size, 0, none⟩ (.bool false) = x5 at *
    clear hX m0 m1 m2 m3 mf
    have r0 := N5.out.cell 0 _ rfl
    have r1 := N5.out.cell 1 _ rfl
    have r2 := N5.out.cell 2 _ rfl
    have r3 := N5.out.cell 3 _ rfl
    have A6 := A5.out
    have a0 := A6.cell 0 _ rfl
    have a1 := A6.cell 1 _ rfl
    have a2 := A6.cell 2 _ rfl
    have a3 := A6.cell 3 _ rfl
    have f0 := A6.free 0
    have f1 := A6.free 1
    have f2 := A6.free 2
    have f3 := A6.free 3
    have C := (((A6.set 0 (.bool false) (by simp)).set 1 (.string Wt) (by simp)).set 2 (.string Ft) (by simp)).set 3 (.int .i64 q) (by simp)
    have c0 := C.cell 0 _ rfl
    have c1 := C.cell 1 _ rfl
    have c2 := C.cell 2 _ rfl
    have c3 := C.cell 3 _ rfl
    have BX := Lib.hid ((((B5.out.setCell (p := ⟨w.heap.size, 0, none⟩) (Nat.le_refl _) (.bool false)).setCell (p := ⟨w.heap.size, 1, none⟩) (Nat.le_refl _) (.string Wt)).setCell (p := ⟨w.heap.size, 2, none⟩) (Nat.le_refl _) (.string Ft)).setCell (p := ⟨w.heap.size, 3, none⟩) (Nat.le_refl _) (.int .i64 q))
    clear A6 C
    go_wp2_with fail
    exact bodyPost_ret (v := .agg #[.bool false, .string Wt, .string Ft, .int .i64 q]) (by simp [results, Tryz.results112, go_sem, c0, c1, c2, c3]) rfl ⟨rfl, BX.out⟩

set_option maxHeartbeats 1600000 in
theorem decR_neg (s D wb fb Wt Ft : ByteArray) (p z : Nat) (q : Nat) (w : World) (hq : 0 < q) (hp : p ≤ D.size) (hz : z ≤ wb.size) (sD : D.size ≤ 140737488351232) (sW : Wt.size ≤ 140737488351232) (sF : Ft.size ≤ 140737488351232) (sw : wb.size ≤ 140737488351232)
    (E1 : D.extract 0 p = wb) (E2 : wb.extract z wb.size = Wt) (E3 : D.extract p D.size = fb) (S : ByteArray) (hS : Wt ++ Ft = S) (g1 : S.toList.isEmpty = false) (g2 : (S.toList == []) = false) (g3 : ¬ S.toList = [])
    (SG : Hid (∀ W, Calls Tryz.prog 89 #[.string s] W (RetBelow W (.tuple #[.agg #[.bool true, .string D, .int .i64 p, .int .i64 0], .int .i64 q]))))
    (ZC : Hid (∀ W, Calls Tryz.prog 110 #[.string wb] W (Same W (.int .i64 z)))) (TC : Hid (∀ W, Calls Tryz.prog 111 #[.string fb] W (Same W (.string Ft)))) :
    Calls Tryz.prog 112 #[.string s] w (RetBelow w (.agg #[.bool true, .string Wt, .string Ft, .int .i64 q])) := by
  have HA0 := Lib.hid (CellsAt.new w [.bool false, .string ⟨#[]⟩, .string ⟨#[]⟩, .int .i64 0] 114)
  have B0 := Lib.hid ((Below.refl w.heap.size w).alloc (Nat.le_refl _) (Obj.cells #[.bool false, .string ⟨#[]⟩, .string ⟨#[]⟩, .int .i64 0] 114))
  have tq : ((q : Int) == 0) = false := by rw [beq_eq_false_iff_ne]; omega
  go_enter Tryz.func112, Tryz.ntmps112
  go_wp2_with fail
  generalize hX : w.alloc (Obj.cells #[.bool false, .string ⟨#[]⟩, .string ⟨#[]⟩, .int .i64 0] 114) = x at *
  clear hX
  refine (SG.out _).mono ?_
  rintro e w1 ⟨rfl, hb1⟩
  have A2 := Lib.hid ((HA0.out.step hb1).alloc (Obj.cells #[.bool true, .string D, .int .i64 p, .int .i64 0] 94))
  have N2 := Lib.hid (CellsAt.new w1 [.bool true, .string D, .int .i64 p, .int .i64 0] 94)
  have B2 := Lib.hid ((B0.out.trans (hb1.mono B0.out.size)).alloc (Nat.le_trans B0.out.size hb1.size) (Obj.cells #[.bool true, .string D, .int .i64 p, .int .i64 0] 94))
  have hl : w.heap.size < w1.heap.size := Nat.lt_of_lt_of_le HA0.out.lt hb1.size
  have HZ2 := Lib.hid (show (w1.alloc (Obj.cells #[.bool true, .string D, .int .i64 p, .int .i64 0] 94)).heap.size = w1.heap.size + 1 by simp)
  go_wp2_with fail
  generalize hX : w1.alloc (Obj.cells #[.bool true, .string D, .int .i64 p, .int .i64 0] 94) = x2 at *
  clear hX hb1
  have n0 := N2.out.cell 0 _ rfl
  have n1 := N2.out.cell 1 _ rfl
  have n2 := N2.out.cell 2 _ rfl
  go_region_held3 (fun w' => w'.cell? ⟨w1.heap.size, 1, none⟩ = some (.string D) ∧ w'.cell? ⟨w1.heap.size, 2, none⟩ = some (.int .i64 (p : Int)))
    (first | go_keep)
    ((first | (go_at_call 110; refine (ZC.out _).mono ?_; rintro e w' ⟨rfl, rfl⟩) | (go_at_call 111; refine (TC.out _).mono ?_; rintro e w' ⟨rfl, rfl⟩)))
  all_goals
    have N4 := Lib.hid ((CellsAt.new x2 [.bool false, .string Wt, .string Ft, .int .i64 q] 114).step ((Below.refl _ _).drew))
    have A4 := Lib.hid ((A2.out.alloc (Obj.cells #[.bool false, .string Wt, .string Ft, .int .i64 q] 114)).step ((Below.refl _ _).drew))
    have M4 := Lib.hid ((N2.out.alloc (Obj.cells #[.bool false, .string Wt, .string Ft, .int .i64 q] 114)).step ((Below.refl _ _).drew))
    have B4 := Lib.hid ((B2.out.alloc B2.out.size (Obj.cells #[.bool false, .string Wt, .string Ft, .int .i64 q] 114)).drew)
    have hl4 : w.heap.size < x2.heap.size := by have := HZ2.out; omega
    generalize hX : (x2.alloc (Obj.cells #[.bool false, .string Wt, .string Ft, .int .i64 q] 114)).drew = x3 at *
    clear hX n0 n1 n2
    have m0 := M4.out.cell 0 _ rfl
    have m1 := N4.out.cell 1 _ rfl
    have m2 := N4.out.cell 2 _ rfl
    have m3 := N4.out.cell 0 _ rfl
    have mf := N4.out.free 0
    have N5 := Lib.hid (N4.out.set 0 (.bool true) (by simp))
    have A5 := Lib.hid (A4.out.other (show x2.heap.size ≠ w.heap.size by omega) 0 (.bool true))
    have B5 := Lib.hid (B4.out.setCell (p := ⟨x2.heap.size, 0, none⟩) (by simp; omega) (.bool true))
    go_upto_region 7 with fail
    generalize hX : x3.setCell ⟨x2.heap.size, 0, none⟩ (.bool true) = x5 at *
    clear hX m0 m1 m2 m3 mf
    have r0 := N5.out.cell 0 _ rfl
    have r1 := N5.out.cell 1 _ rfl
    have r2 := N5.out.cell 2 _ rfl
    have r3 := N5.out.cell 3 _ rfl
    have A6 := A5.out
    have a0 := A6.cell 0 _ rfl
    have a1 := A6.cell 1 _ rfl
    have a2 := A6.cell 2 _ rfl
    have a3 := A6.cell 3 _ rfl
    have f0 := A6.free 0
    have f1 := A6.free 1
    have f2 := A6.free 2
    have f3 := A6.free 3
    have C := (((A6.set 0 (.bool true) (by simp)).set 1 (.string Wt) (by simp)).set 2 (.string Ft) (by simp)).set 3 (.int .i64 q) (by simp)
    have c0 := C.cell 0 _ rfl
    have c1 := C.cell 1 _ rfl
    have c2 := C.cell 2 _ rfl
    have c3 := C.cell 3 _ rfl
    have BX := Lib.hid ((((B5.out.setCell (p := ⟨w.heap.size, 0, none⟩) (Nat.le_refl _) (.bool true)).setCell (p := ⟨w.heap.size, 1, none⟩) (Nat.le_refl _) (.string Wt)).setCell (p := ⟨w.heap.size, 2, none⟩) (Nat.le_refl _) (.string Ft)).setCell (p := ⟨w.heap.size, 3, none⟩) (Nat.le_refl _) (.int .i64 q))
    clear A6 C
    go_wp2_with fail
    exact bodyPost_ret (v := .agg #[.bool true, .string Wt, .string Ft, .int .i64 q]) (by simp [results, Tryz.results112, go_sem, c0, c1, c2, c3]) rfl ⟨rfl, BX.out⟩

end

section


theorem scan_sg (l : List UInt8) : scanS l false = if sgD l = [] then Hd.none else ⟨3, sgNeg l, plW (l.drop (sgI l)), plF (l.drop (sgI l)), 0, sgI l + plN (l.drop (sgI l))⟩ := by
  have e1 : signN (l.drop (sgB l)) false = if sgNeg l then 1 else 0 := by unfold signN sgNeg; simp
  have e2 : (l.drop (sgB l)).drop (signN (l.drop (sgB l)) false) = l.drop (sgI l) := by rw [List.drop_drop, e1]; rfl
  have e3 : scanS l false = numberS ((l.drop (sgB l)).drop (signN (l.drop (sgB l)) false)) false (sgNeg l) (sgB l + signN (l.drop (sgB l)) false) := rfl
  rw [e3, e2, e1]
  unfold numberS
  have e4 : ((l.drop (sgI l)).takeWhile isDig = [] ∧ fracS ((l.drop (sgI l)).dropWhile isDig) = []) ↔ sgD l = [] := by
    unfold sgD plW plF
    rw [List.append_eq_nil_iff]
  by_cases h : sgD l = []
  · rw [if_pos (e4.2 h), if_pos h]
  · rw [if_neg (fun k => h (e4.1 k)), if_neg h]
    show (⟨3, sgNeg l, _, _, 0, _⟩ : Hd) = _
    congr 1
    show sgI l + spanN isDig (l.drop (sgI l)) + fracN _ = _
    unfold plN
    omega

theorem numD_iff (h : Hd) : numD h = [] ↔ trimL h.whole ++ trimR h.frac = [] := by
  rw [List.append_eq_nil_iff]
  unfold numD numW numF
  rw [List.append_eq_nil_iff]
  by_cases hw : trimL h.whole = []
  · simp only [hw, if_true]
    by_cases hf : trimL (trimR h.frac) = []
    · rw [if_pos hf]
      exact ⟨fun _ => ⟨trivial, trimLR_nil hf⟩, fun _ => ⟨trimR_nil, hf⟩⟩
    · rw [if_neg hf]
      refine ⟨fun k => absurd k.2 hf, fun k => absurd (by rw [k.2]; rfl) hf⟩
  · simp only [hw, if_false, false_and, iff_false]
    intro k
    rw [if_pos k.2] at k
    exact hw (trimR_trimL k.1)

theorem trimL_span (l : List UInt8) : l.drop (spanN isZero l) = trimL l := by
  rw [drop_spanN, trimL_eq]
  rfl

theorem plN_pos {r : List UInt8} (h : plW r ++ plF r ≠ []) : 0 < plN r := by
  unfold plN
  by_cases hw : plW r = []
  · have hf : plF r ≠ [] := fun k => h (by rw [hw, k]; rfl)
    have : 0 < fracN (r.dropWhile isDig) := by
      unfold plF fracS at hf
      unfold fracN
      by_cases k : (atB (r.dropWhile isDig) 0 == 46) = true
      · rw [if_pos k]; omega
      · rw [if_neg k] at hf; exact absurd rfl hf
    omega
  · have : 0 < spanN isDig r := by unfold spanN; exact List.length_pos_iff.2 hw
    omega

theorem decimalR_ok (s : ByteArray) (w : World) (hs : s.size ≤ 140737488351232) : Calls Tryz.prog 112 #[.string s] w (RetBelow w (decV (scanS s.data.toList false))) := by
  have SG := Lib.hid (fun W : World => signed_ok s W hs)
  have hb : sgB s.data.toList ≤ s.size := by unfold sgB; rw [Lib.size_eq]; exact spanN_le _ _
  have el := Lib.size_eq s
  rw [scan_sg]
  unfold signedV at SG
  by_cases h : sgD s.data.toList = []
  · rw [if_pos h] at SG ⊢
    exact decR_none s w SG
  · rw [if_neg h] at SG ⊢
    unfold numV at SG
    have hdp : sgD s.data.toList = plW (s.data.toList.drop (sgI s.data.toList)) ++ plF (s.data.toList.drop (sgI s.data.toList)) := rfl
    have hq := plN_pos (r := s.data.toList.drop (sgI s.data.toList)) h
    have lW : (plW (s.data.toList.drop (sgI s.data.toList))).length ≤ s.size := by
      have := (List.takeWhile_sublist (l := s.data.toList.drop (sgI s.data.toList)) isDig).length_le
      rw [List.length_drop] at this
      unfold plW; omega
    have lF : (plF (s.data.toList.drop (sgI s.data.toList))).length ≤ s.size := by
      have h1 := (fracS_ok ((s.data.toList.drop (sgI s.data.toList)).dropWhile isDig)).1
      have h2 := (List.dropWhile_sublist (l := s.data.toList.drop (sgI s.data.toList)) isDig).length_le
      rw [List.length_drop] at h2
      unfold plF; omega
    have lD : (plW (s.data.toList.drop (sgI s.data.toList))).length + (plF (s.data.toList.drop (sgI s.data.toList))).length ≤ s.size := by
      have h1 : (fracS ((s.data.toList.drop (sgI s.data.toList)).dropWhile isDig)).length ≤ ((s.data.toList.drop (sgI s.data.toList)).dropWhile isDig).length := (fracS_ok _).1
      have h2 := congrArg List.length (List.takeWhile_append_dropWhile (p := isDig) (l := s.data.toList.drop (sgI s.data.toList)))
      rw [List.length_append, List.length_drop] at h2
      unfold plW plF; omega
    rw [hdp] at SG
    generalize plW (s.data.toList.drop (sgI s.data.toList)) = A at *
    generalize plF (s.data.toList.drop (sgI s.data.toList)) = B at *
    generalize hqq : sgI s.data.toList + plN (s.data.toList.drop (sgI s.data.toList)) = q at *
    have hq0 : 0 < q := by omega
    have E1 : (bs (A ++ B)).extract 0 A.length = bs A := by rw [extract_bs, bs_list, List.drop_zero, Nat.sub_zero, List.take_left']; rfl
    have E2 : (bs A).extract (spanN isZero A) (bs A).size = bs (trimL A) := by
      rw [extract_bs, bs_list, bs_size, trimL_span, List.take_of_length_le]
      rw [← trimL_span, List.length_drop]; omega
    have E3 : (bs (A ++ B)).extract A.length (bs (A ++ B)).size = bs B := by
      rw [extract_bs, bs_list, bs_size, List.drop_left', List.take_of_length_le]
      · rw [List.length_append]; omega
      · rfl
    have ZC := Lib.hid (fun W : World => zeros_ok (bs A) W (by rw [bs_size]; unfold maxLen; omega))
    have TC := Lib.hid (fun W : World => trimmed_ok (bs B) W (by rw [bs_size]; unfold maxLen; omega))
    rw [bs_list] at ZC TC
    have z1 : (bs (A ++ B)).size ≤ 140737488351232 := by rw [bs_size, List.length_append]; omega
    have z2 : (bs (trimL A)).size ≤ 140737488351232 := by rw [bs_size]; have := trimL_len A; omega
    have z3 : (bs (trimR B)).size ≤ 140737488351232 := by rw [bs_size]; have := trimR_len B; omega
    have z4 : (bs A).size ≤ 140737488351232 := by rw [bs_size]; omega
    have p1 : A.length ≤ (bs (A ++ B)).size := by rw [bs_size, List.length_append]; omega
    have p2 : spanN isZero A ≤ (bs A).size := by rw [bs_size]; exact spanN_le _ _
    have eV : decV ⟨3, sgNeg s.data.toList, A, B, 0, q⟩ = .agg #[.bool (sgNeg s.data.toList && !(decide (numD ⟨3, sgNeg s.data.toList, A, B, 0, q⟩ = []))), .string (bs (trimL A)), .string (bs (trimR B)), .int .i64 q] := rfl
    rw [eV, decide_eq_decide.2 (numD_iff _)]
    show Calls Tryz.prog 112 _ w (RetBelow w (.agg #[.bool (sgNeg s.data.toList && !(decide (trimL A ++ trimR B = []))), _, _, _]))
    cases hn : sgNeg s.data.toList with
    | false =>
      rw [hn] at SG
      exact decR_pos s _ _ _ _ _ _ _ q w hq0 p1 p2 z1 z2 z3 z4 E1 E2 E3 SG ZC TC
    | true =>
      rw [hn] at SG
      by_cases he : trimL A ++ trimR B = []
      · rw [decide_eq_true he]
        have hf : (bs []).toList.isEmpty = true ∧ ((bs []).toList == []) = true ∧ (bs []).toList = [] := by rw [Lib.toList_data, bs_list]; exact ⟨rfl, rfl, rfl⟩
        exact decR_zero s _ _ _ _ _ _ _ q w hq0 p1 p2 z1 z2 z3 z4 E1 E2 E3 _ ((bs_cat _ _).trans (by rw [he])) hf.1 hf.2.1 hf.2.2 SG ZC TC
      · rw [decide_eq_false he]
        have hf := bs_more he
        exact decR_neg s _ _ _ _ _ _ _ q w hq0 p1 p2 z1 z2 z3 z4 E1 E2 E3 _ (bs_cat _ _) hf.1 hf.2.1 hf.2.2 SG ZC TC

/-- The letters of h. -/
def ltr (k : Nat) : UInt8 := ([75, 77, 71, 84, 80, 69, 90, 89, 82, 81] : List UInt8).getD k 0
theorem ltr_miss {c : UInt8} (h : c ≠ 107) (lo : ∀ j, j < 10 → c ≠ ltr j) : rankOf c = 0 := by
  have h0 := lo 0 (by omega)
  have h1 := lo 1 (by omega)
  have h2 := lo 2 (by omega)
  have h3 := lo 3 (by omega)
  have h4 := lo 4 (by omega)
  have h5 := lo 5 (by omega)
  have h6 := lo 6 (by omega)
  have h7 := lo 7 (by omega)
  have h8 := lo 8 (by omega)
  have h9 := lo 9 (by omega)
  simp only [ltr] at h0 h1 h2 h3 h4 h5 h6 h7 h8 h9
  unfold rankOf
  simp_all
theorem ltr_hit {k : Nat} (h : k < 10) : rankOf (ltr k) = k + 1 := by
  have : ∀ j : Fin 10, rankOf (ltr j) = j + 1 := by decide +kernel
  exact this ⟨k, h⟩
theorem ltr_get {k : Nat} (h : k < (⟨#[75, 77, 71, 84, 80, 69, 90, 89, 82, 81]⟩ : ByteArray).size) : (⟨#[75, 77, 71, 84, 80, 69, 90, 89, 82, 81]⟩ : ByteArray)[k] = ltr k := by
  have hk : k < 10 := h
  obtain rfl | rfl | rfl | rfl | rfl | rfl | rfl | rfl | rfl | rfl : k = 0 ∨ k = 1 ∨ k = 2 ∨ k = 3 ∨ k = 4 ∨ k = 5 ∨ k = 6 ∨ k = 7 ∨ k = 8 ∨ k = 9 := by omega
  all_goals rfl

set_option maxRecDepth 100000
set_option maxHeartbeats 800000 in
theorem letter_ok (c : UInt8) (w : World) : Calls Tryz.prog 113 #[.int .u8 c.toNat] w (Same w (.int .i64 (rankOf c))) := by
  have t0 := byte_is c 107 (by omega)
  by_cases h7 : c = 107
  · have t1 : ((c.toNat : Int) == 107) = true := t0.trans (by rw [h7]; rfl)
    have E := Lib.hid (show rankOf c = 1 by rw [h7]; rfl)
    clear h7 t0
    go_enter Tryz.func113, Tryz.ntmps113
    go_wp2_with fail
    go_ret
    exact ⟨by rw [E.out]; rfl, rfl⟩
  · have t1 : ((c.toNat : Int) == 107) = false := t0.trans (by simpa using h7)
    have H7 := Lib.hid h7
    clear h7 t0
    go_enter Tryz.func113, Tryz.ntmps113
    go_wp2_with fail
    go_loop [3] (fun x => ∃ k : Nat, k ≤ 10 ∧ x = .int .i64 k ∧ ∀ j, j < k → c ≠ ltr j) (fun x => 10 - (intOf x).toNat)
    case atStart => exact ⟨0, by omega, rfl, fun j hj => by omega⟩
    case round =>
      obtain ⟨k, hk, rfl, hlo⟩ := hrel
      have HLO := Lib.hid hlo
      clear hlo
      by_cases hlt : k < 10
      · have hz : k < (⟨#[75, 77, 71, 84, 80, 69, 90, 89, 82, 81]⟩ : ByteArray).size := hlt
        have eg := ltr_get hz
        have eb : (((ltr k).toNat : Int) == (c.toNat : Int)) = (ltr k == c) := by
          rw [Bool.eq_iff_iff, beq_iff_eq, beq_iff_eq]
          exact ⟨fun h => UInt8.toNat_inj.1 (by omega), fun h => by rw [h]⟩
        have EG := Lib.hid eg
        by_cases hc : c = ltr k
        · have HR := Lib.hid (show rankOf c = k + 1 by rw [hc, ltr_hit hlt])
          have t2 : (((ltr k).toNat : Int) == (c.toNat : Int)) = true := eb.trans (by rw [hc]; simp)
          rw [← EG.out] at t2
          clear eb eg hc
          go_wp2_with fail
          go_ret
          exact ⟨by rw [HR.out]; go_num, rfl⟩
        · have HR := Lib.hid (show ∀ j, j < k + 1 → c ≠ ltr j from fun j hj => by
            rcases Nat.lt_or_ge j k with h | h
            · exact HLO.out j h
            · rw [show j = k by omega]; exact hc)
          have t2 : (((ltr k).toNat : Int) == (c.toNat : Int)) = false := eb.trans (by rw [beq_eq_false_iff_ne]; exact fun e => hc e.symm)
          rw [← EG.out] at t2
          clear eb eg hc
          go_wp2_with fail
          go_round
          case rel => exact ⟨k + 1, by omega, by go_num, HR.out⟩
          case measure => simp [intOf]; omega
      · have HR := Lib.hid (show rankOf c = 0 from ltr_miss H7.out (fun j hj => HLO.out j (by omega)))
        go_wp2_with fail
        go_ret
        exact ⟨by rw [HR.out]; rfl, rfl⟩
end

section


set_option maxRecDepth 100000
theorem humR_end (a : Act) (X : World) (w : World) (b : Bool) (p q : ByteArray) (z r : Int) (hp : a.tmps.getD 2 undef = .pointer (some ⟨w.heap.size, 0, none⟩)) (hr : a.tmps.getD 3 undef = .int .i64 r) (hd : a.defers = [])
    (hX : CellsAt X w.heap.size [.bool false, .string ⟨#[]⟩, .string ⟨#[]⟩, .int .i64 0]) (hB : Below w.heap.size w X) :
    bodyPost Tryz.prog Tryz.f91 (RetBelow w (.tuple #[.agg #[.bool b, .string p, .string q, .int .i64 z], .int .i64 r])) Exit.ret a ((((X.setCell ⟨w.heap.size, 0, none⟩ (.bool b)).setCell ⟨w.heap.size, 1, none⟩ (.string p)).setCell ⟨w.heap.size, 2, none⟩ (.string q)).setCell ⟨w.heap.size, 3, none⟩ (.int .i64 z)) := by
  have C := (((hX.set 0 (.bool b) (by simp)).set 1 (.string p) (by simp)).set 2 (.string q) (by simp)).set 3 (.int .i64 z) (by simp)
  have hp2 := hp
  have hr2 := hr
  simp only [Array.getD_eq_getD_getElem?] at hp2 hr2
  have BX := (((hB.setCell (p := ⟨w.heap.size, 0, none⟩) (by simp) (.bool b)).setCell (p := ⟨w.heap.size, 1, none⟩) (by simp) (.string p)).setCell (p := ⟨w.heap.size, 2, none⟩) (by simp) (.string q)).setCell (p := ⟨w.heap.size, 3, none⟩) (by simp) (.int .i64 z)
  generalize (((X.setCell ⟨w.heap.size, 0, none⟩ (.bool b)).setCell ⟨w.heap.size, 1, none⟩ (.string p)).setCell ⟨w.heap.size, 2, none⟩ (.string q)).setCell ⟨w.heap.size, 3, none⟩ (.int .i64 z) = Y at *
  have c0 := C.cell 0 _ rfl
  have c1 := C.cell 1 _ rfl
  have c2 := C.cell 2 _ rfl
  have c3 := C.cell 3 _ rfl
  exact bodyPost_ret (v := .tuple #[.agg #[.bool b, .string p, .string q, .int .i64 z], .int .i64 r]) (by simp [results, Tryz.results91, go_sem, hp2, hr2, c0, c1, c2, c3]) hd ⟨rfl, BX⟩

set_option maxHeartbeats 1600000 in
theorem humR_out_full (s P Q : ByteArray) (b : Bool) (q : Nat) (w : World) (hs : s.size ≤ 140737488351232) (sP : P.size ≤ 140737488351232) (sQ : Q.size ≤ 140737488351232) (S : ByteArray) (hS : P ++ Q = S) (g1 : S.toList.isEmpty = false) (g2 : (S.toList == []) = false) (g3 : ¬ S.toList = [])
    (hq : ¬ (0 < q ∧ q < s.size)) (hq2 : q ≤ s.size)
    (DC : Hid (∀ W, Calls Tryz.prog 112 #[.string s] W (RetBelow W (.agg #[.bool b, .string P, .string Q, .int .i64 q])))) :
    Calls Tryz.prog 91 #[.string s] w (RetBelow w (.tuple #[.agg #[.bool b, .string P, .string Q, .int .i64 (q : Int)], .int .i64 0])) := by
  have HA0 := Lib.hid (CellsAt.new w [.bool false, .string ⟨#[]⟩, .string ⟨#[]⟩, .int .i64 0] 114)
  have B0 := Lib.hid ((Below.refl w.heap.size w).alloc (Nat.le_refl _) (Obj.cells #[.bool false, .string ⟨#[]⟩, .string ⟨#[]⟩, .int .i64 0] 114))
  rcases Nat.eq_zero_or_pos q with h0 | h0
  · have h1 : decide (0 < q) = false := decide_eq_false (by omega)
    clear hq h0
    go_enter Tryz.func91, Tryz.ntmps91
    go_wp2_with fail
    generalize hX : w.alloc (Obj.cells #[.bool false, .string ⟨#[]⟩, .string ⟨#[]⟩, .int .i64 0] 114) = x at *
    clear hX
    refine (DC.out _).mono ?_
    rintro e w1 ⟨rfl, hb1⟩
    have A2 := Lib.hid ((HA0.out.step hb1).alloc (Obj.cells #[.bool b, .string P, .string Q, .int .i64 q] 114))
    have N2 := Lib.hid (CellsAt.new w1 [.bool b, .string P, .string Q, .int .i64 q] 114)
    have B2 := Lib.hid ((B0.out.trans (hb1.mono B0.out.size)).alloc (Nat.le_trans B0.out.size hb1.size) (Obj.cells #[.bool b, .string P, .string Q, .int .i64 q] 114))
    have hl : w.heap.size < w1.heap.size := Nat.lt_of_lt_of_le HA0.out.lt hb1.size
    clear hb1
    go_upto_region 3 with fail
    generalize hX : w1.alloc (Obj.cells #[.bool b, .string P, .string Q, .int .i64 q] 114) = x2 at *
    clear hX
    have n0 := N2.out.cell 0 _ rfl
    have n1 := N2.out.cell 1 _ rfl
    have n2 := N2.out.cell 2 _ rfl
    have n3 := N2.out.cell 3 _ rfl
    have nf := N2.out.free 3
    have a0 := A2.out.cell 0 _ rfl
    have a1 := A2.out.cell 1 _ rfl
    have a2 := A2.out.cell 2 _ rfl
    have a3 := A2.out.cell 3 _ rfl
    have f0 := A2.out.free 0
    have f1 := A2.out.free 1
    have f2 := A2.out.free 2
    have f3 := A2.out.free 3
    go_wp2_with fail
    exact humR_end _ _ w _ _ _ _ _ rfl rfl rfl A2.out B2.out
  · have h2 : decide (q < s.size) = false := decide_eq_false (by omega)
    clear hq
    go_enter Tryz.func91, Tryz.ntmps91
    go_wp2_with fail
    generalize hX : w.alloc (Obj.cells #[.bool false, .string ⟨#[]⟩, .string ⟨#[]⟩, .int .i64 0] 114) = x at *
    clear hX
    refine (DC.out _).mono ?_
    rintro e w1 ⟨rfl, hb1⟩
    have A2 := Lib.hid ((HA0.out.step hb1).alloc (Obj.cells #[.bool b, .string P, .string Q, .int .i64 q] 114))
    have N2 := Lib.hid (CellsAt.new w1 [.bool b, .string P, .string Q, .int .i64 q] 114)
    have B2 := Lib.hid ((B0.out.trans (hb1.mono B0.out.size)).alloc (Nat.le_trans B0.out.size hb1.size) (Obj.cells #[.bool b, .string P, .string Q, .int .i64 q] 114))
    have hl : w.heap.size < w1.heap.size := Nat.lt_of_lt_of_le HA0.out.lt hb1.size
    clear hb1
    go_upto_region 3 with fail
    generalize hX : w1.alloc (Obj.cells #[.bool b, .string P, .string Q, .int .i64 q] 114) = x2 at *
    clear hX
    have n0 := N2.out.cell 0 _ rfl
    have n1 := N2.out.cell 1 _ rfl
    have n2 := N2.out.cell 2 _ rfl
    have n3 := N2.out.cell 3 _ rfl
    have nf := N2.out.free 3
    have a0 := A2.out.cell 0 _ rfl
    have a1 := A2.out.cell 1 _ rfl
    have a2 := A2.out.cell 2 _ rfl
    have a3 := A2.out.cell 3 _ rfl
    have f0 := A2.out.free 0
    have f1 := A2.out.free 1
    have f2 := A2.out.free 2
    have f3 := A2.out.free 3
    go_wp2_with fail
    exact humR_end _ _ w _ _ _ _ _ rfl rfl rfl A2.out B2.out

set_option maxHeartbeats 1600000 in
theorem humR_out_empty (s P Q : ByteArray) (b : Bool) (q : Nat) (w : World) (hs : s.size ≤ 140737488351232) (sP : P.size ≤ 140737488351232) (sQ : Q.size ≤ 140737488351232) (S : ByteArray) (hS : P ++ Q = S) (g1 : S.toList.isEmpty = true) (g2 : (S.toList == []) = true) (g3 : S.toList = [])
    (hq : ¬ (0 < q ∧ q < s.size)) (hq2 : q ≤ s.size)
    (DC : Hid (∀ W, Calls Tryz.prog 112 #[.string s] W (RetBelow W (.agg #[.bool b, .string P, .string Q, .int .i64 q])))) :
    Calls Tryz.prog 91 #[.string s] w (RetBelow w (.tuple #[.agg #[.bool b, .string P, .string Q, .int .i64 (q : Int)], .int .i64 0])) := by
  have HA0 := Lib.hid (CellsAt.new w [.bool false, .string ⟨#[]⟩, .string ⟨#[]⟩, .int .i64 0] 114)
  have B0 := Lib.hid ((Below.refl w.heap.size w).alloc (Nat.le_refl _) (Obj.cells #[.bool false, .string ⟨#[]⟩, .string ⟨#[]⟩, .int .i64 0] 114))
  rcases Nat.eq_zero_or_pos q with h0 | h0
  · have h1 : decide (0 < q) = false := decide_eq_false (by omega)
    clear hq h0
    go_enter Tryz.func91, Tryz.ntmps91
    go_wp2_with fail
    generalize hX : w.alloc (Obj.cells #[.bool false, .string ⟨#[]⟩, .string ⟨#[]⟩, .int .i64 0] 114) = x at *
    clear hX
    refine (DC.out _).mono ?_
    rintro e w1 ⟨rfl, hb1⟩
    have A2 := Lib.hid ((HA0.out.step hb1).alloc (Obj.cells #[.bool b, .string P, .string Q, .int .i64 q] 114))
    have N2 := Lib.hid (CellsAt.new w1 [.bool b, .string P, .string Q, .int .i64 q] 114)
    have B2 := Lib.hid ((B0.out.trans (hb1.mono B0.out.size)).alloc (Nat.le_trans B0.out.size hb1.size) (Obj.cells #[.bool b, .string P, .string Q, .int .i64 q] 114))
    have hl : w.heap.size < w1.heap.size := Nat.lt_of_lt_of_le HA0.out.lt hb1.size
    clear hb1
    go_upto_region 3 with fail
    generalize hX : w1.alloc (Obj.cells #[.bool b, .string P, .string Q, .int .i64 q] 114) = x2 at *
    clear hX
    have n0 := N2.out.cell 0 _ rfl
    have n1 := N2.out.cell 1 _ rfl
    have n2 := N2.out.cell 2 _ rfl
    have n3 := N2.out.cell 3 _ rfl
    have nf := N2.out.free 3
    have a0 := A2.out.cell 0 _ rfl
    have a1 := A2.out.cell 1 _ rfl
    have a2 := A2.out.cell 2 _ rfl
    have a3 := A2.out.cell 3 _ rfl
    have f0 := A2.out.free 0
    have f1 := A2.out.free 1
    have f2 := A2.out.free 2
    have f3 := A2.out.free 3
    go_wp2_with fail
    exact humR_end _ _ w _ _ _ _ _ rfl rfl rfl A2.out B2.out
  · have h2 : decide (q < s.size) = false := decide_eq_false (by omega)
    clear hq
    go_enter Tryz.func91, Tryz.ntmps91
    go_wp2_with fail
    generalize hX : w.alloc (Obj.cells #[.bool false, .string ⟨#[]⟩, .string ⟨#[]⟩, .int .i64 0] 114) = x at *
    clear hX
    refine (DC.out _).mono ?_
    rintro e w1 ⟨rfl, hb1⟩
    have A2 := Lib.hid ((HA0.out.step hb1).alloc (Obj.cells #[.bool b, .string P, .string Q, .int .i64 q] 114))
    have N2 := Lib.hid (CellsAt.new w1 [.bool b, .string P, .string Q, .int .i64 q] 114)
    have B2 := Lib.hid ((B0.out.trans (hb1.mono B0.out.size)).alloc (Nat.le_trans B0.out.size hb1.size) (Obj.cells #[.bool b, .string P, .string Q, .int .i64 q] 114))
    have hl : w.heap.size < w1.heap.size := Nat.lt_of_lt_of_le HA0.out.lt hb1.size
    clear hb1
    go_upto_region 3 with fail
    generalize hX : w1.alloc (Obj.cells #[.bool b, .string P, .string Q, .int .i64 q] 114) = x2 at *
    clear hX
    have n0 := N2.out.cell 0 _ rfl
    have n1 := N2.out.cell 1 _ rfl
    have n2 := N2.out.cell 2 _ rfl
    have n3 := N2.out.cell 3 _ rfl
    have nf := N2.out.free 3
    have a0 := A2.out.cell 0 _ rfl
    have a1 := A2.out.cell 1 _ rfl
    have a2 := A2.out.cell 2 _ rfl
    have a3 := A2.out.cell 3 _ rfl
    have f0 := A2.out.free 0
    have f1 := A2.out.free 1
    have f2 := A2.out.free 2
    have f3 := A2.out.free 3
    go_wp2_with fail
    exact humR_end _ _ w _ _ _ _ _ rfl rfl rfl A2.out B2.out

set_option maxHeartbeats 1600000 in
theorem humR_zero_full (s P Q : ByteArray) (b : Bool) (q : Nat) (w : World) (hs : s.size ≤ 140737488351232) (sP : P.size ≤ 140737488351232) (sQ : Q.size ≤ 140737488351232) (S : ByteArray) (hS : P ++ Q = S) (g1 : S.toList.isEmpty = false) (g2 : (S.toList == []) = false) (g3 : ¬ S.toList = [])
    (hq : 0 < q) (hlt : q < s.size) (LC : Hid (∀ W, Calls Tryz.prog 113 #[.int .u8 s[q].toNat] W (Same W (.int .i64 0))))
    (DC : Hid (∀ W, Calls Tryz.prog 112 #[.string s] W (RetBelow W (.agg #[.bool b, .string P, .string Q, .int .i64 q])))) :
    Calls Tryz.prog 91 #[.string s] w (RetBelow w (.tuple #[.agg #[.bool b, .string P, .string Q, .int .i64 (q : Int)], .int .i64 0])) := by
  have HA0 := Lib.hid (CellsAt.new w [.bool false, .string ⟨#[]⟩, .string ⟨#[]⟩, .int .i64 0] 114)
  have B0 := Lib.hid ((Below.refl w.heap.size w).alloc (Nat.le_refl _) (Obj.cells #[.bool false, .string ⟨#[]⟩, .string ⟨#[]⟩, .int .i64 0] 114))
  go_enter Tryz.func91, Tryz.ntmps91
  go_wp2_with fail
  generalize hX : w.alloc (Obj.cells #[.bool false, .string ⟨#[]⟩, .string ⟨#[]⟩, .int .i64 0] 114) = x at *
  clear hX
  refine (DC.out _).mono ?_
  rintro e w1 ⟨rfl, hb1⟩
  have A2 := Lib.hid ((HA0.out.step hb1).alloc (Obj.cells #[.bool b, .string P, .string Q, .int .i64 q] 114))
  have N2 := Lib.hid (CellsAt.new w1 [.bool b, .string P, .string Q, .int .i64 q] 114)
  have B2 := Lib.hid ((B0.out.trans (hb1.mono B0.out.size)).alloc (Nat.le_trans B0.out.size hb1.size) (Obj.cells #[.bool b, .string P, .string Q, .int .i64 q] 114))
  have hl : w.heap.size < w1.heap.size := Nat.lt_of_lt_of_le HA0.out.lt hb1.size
  clear hb1
  go_upto_region 3 with fail
  generalize hX : w1.alloc (Obj.cells #[.bool b, .string P, .string Q, .int .i64 q] 114) = x2 at *
  clear hX
  have n0 := N2.out.cell 0 _ rfl
  have n1 := N2.out.cell 1 _ rfl
  have n2 := N2.out.cell 2 _ rfl
  have n3 := N2.out.cell 3 _ rfl
  have nf := N2.out.free 3
  go_wp2_with fail
  refine (LC.out _).mono ?_
  rintro e w2 ⟨rfl, rfl⟩
  have a0 := A2.out.cell 0 _ rfl
  have a1 := A2.out.cell 1 _ rfl
  have a2 := A2.out.cell 2 _ rfl
  have a3 := A2.out.cell 3 _ rfl
  have f0 := A2.out.free 0
  have f1 := A2.out.free 1
  have f2 := A2.out.free 2
  have f3 := A2.out.free 3
  go_wp2_with fail
  exact humR_end _ _ w _ _ _ _ _ rfl rfl rfl A2.out B2.out

set_option maxHeartbeats 1600000 in
theorem humR_zero_empty (s P Q : ByteArray) (b : Bool) (q : Nat) (w : World) (hs : s.size ≤ 140737488351232) (sP : P.size ≤ 140737488351232) (sQ : Q.size ≤ 140737488351232) (S : ByteArray) (hS : P ++ Q = S) (g1 : S.toList.isEmpty = true) (g2 : (S.toList == []) = true) (g3 : S.toList = [])
    (hq : 0 < q) (hlt : q < s.size) (LC : Hid (∀ W, Calls Tryz.prog 113 #[.int .u8 s[q].toNat] W (Same W (.int .i64 0))))
    (DC : Hid (∀ W, Calls Tryz.prog 112 #[.string s] W (RetBelow W (.agg #[.bool b, .string P, .string Q, .int .i64 q])))) :
    Calls Tryz.prog 91 #[.string s] w (RetBelow w (.tuple #[.agg #[.bool b, .string P, .string Q, .int .i64 (q : Int)], .int .i64 0])) := by
  have HA0 := Lib.hid (CellsAt.new w [.bool false, .string ⟨#[]⟩, .string ⟨#[]⟩, .int .i64 0] 114)
  have B0 := Lib.hid ((Below.refl w.heap.size w).alloc (Nat.le_refl _) (Obj.cells #[.bool false, .string ⟨#[]⟩, .string ⟨#[]⟩, .int .i64 0] 114))
  go_enter Tryz.func91, Tryz.ntmps91
  go_wp2_with fail
  generalize hX : w.alloc (Obj.cells #[.bool false, .string ⟨#[]⟩, .string ⟨#[]⟩, .int .i64 0] 114) = x at *
  clear hX
  refine (DC.out _).mono ?_
  rintro e w1 ⟨rfl, hb1⟩
  have A2 := Lib.hid ((HA0.out.step hb1).alloc (Obj.cells #[.bool b, .string P, .string Q, .int .i64 q] 114))
  have N2 := Lib.hid (CellsAt.new w1 [.bool b, .string P, .string Q, .int .i64 q] 114)
  have B2 := Lib.hid ((B0.out.trans (hb1.mono B0.out.size)).alloc (Nat.le_trans B0.out.size hb1.size) (Obj.cells #[.bool b, .string P, .string Q, .int .i64 q] 114))
  have hl : w.heap.size < w1.heap.size := Nat.lt_of_lt_of_le HA0.out.lt hb1.size
  clear hb1
  go_upto_region 3 with fail
  generalize hX : w1.alloc (Obj.cells #[.bool b, .string P, .string Q, .int .i64 q] 114) = x2 at *
  clear hX
  have n0 := N2.out.cell 0 _ rfl
  have n1 := N2.out.cell 1 _ rfl
  have n2 := N2.out.cell 2 _ rfl
  have n3 := N2.out.cell 3 _ rfl
  have nf := N2.out.free 3
  go_wp2_with fail
  refine (LC.out _).mono ?_
  rintro e w2 ⟨rfl, rfl⟩
  have a0 := A2.out.cell 0 _ rfl
  have a1 := A2.out.cell 1 _ rfl
  have a2 := A2.out.cell 2 _ rfl
  have a3 := A2.out.cell 3 _ rfl
  have f0 := A2.out.free 0
  have f1 := A2.out.free 1
  have f2 := A2.out.free 2
  have f3 := A2.out.free 3
  go_wp2_with fail
  exact humR_end _ _ w _ _ _ _ _ rfl rfl rfl A2.out B2.out

set_option maxHeartbeats 1600000 in
theorem humR_more_full (s P Q : ByteArray) (b : Bool) (q : Nat) (w : World) (hs : s.size ≤ 140737488351232) (sP : P.size ≤ 140737488351232) (sQ : Q.size ≤ 140737488351232) (S : ByteArray) (hS : P ++ Q = S) (g1 : S.toList.isEmpty = false) (g2 : (S.toList == []) = false) (g3 : ¬ S.toList = [])
    (hq : 0 < q) (hlt : q < s.size) (r : Nat) (hr : 0 < r) (hr9 : r ≤ 10) (LC : Hid (∀ W, Calls Tryz.prog 113 #[.int .u8 s[q].toNat] W (Same W (.int .i64 r))))
    (DC : Hid (∀ W, Calls Tryz.prog 112 #[.string s] W (RetBelow W (.agg #[.bool b, .string P, .string Q, .int .i64 q])))) :
    Calls Tryz.prog 91 #[.string s] w (RetBelow w (.tuple #[.agg #[.bool b, .string P, .string Q, .int .i64 ((q : Int) + 1)], .int .i64 r])) := by
  have HA0 := Lib.hid (CellsAt.new w [.bool false, .string ⟨#[]⟩, .string ⟨#[]⟩, .int .i64 0] 114)
  have B0 := Lib.hid ((Below.refl w.heap.size w).alloc (Nat.le_refl _) (Obj.cells #[.bool false, .string ⟨#[]⟩, .string ⟨#[]⟩, .int .i64 0] 114))
  have t1 : decide ((0 : Int) < (r : Int)) = true := decide_eq_true (by omega)
  have hr1 : (1 : Int) ≤ (r : Int) := by omega
  go_enter Tryz.func91, Tryz.ntmps91
  go_wp2_with fail
  generalize hX : w.alloc (Obj.cells #[.bool false, .string ⟨#[]⟩, .string ⟨#[]⟩, .int .i64 0] 114) = x at *
  clear hX
  refine (DC.out _).mono ?_
  rintro e w1 ⟨rfl, hb1⟩
  have A2 := Lib.hid ((HA0.out.step hb1).alloc (Obj.cells #[.bool b, .string P, .string Q, .int .i64 q] 114))
  have N2 := Lib.hid (CellsAt.new w1 [.bool b, .string P, .string Q, .int .i64 q] 114)
  have B2 := Lib.hid ((B0.out.trans (hb1.mono B0.out.size)).alloc (Nat.le_trans B0.out.size hb1.size) (Obj.cells #[.bool b, .string P, .string Q, .int .i64 q] 114))
  have hl : w.heap.size < w1.heap.size := Nat.lt_of_lt_of_le HA0.out.lt hb1.size
  clear hb1
  go_upto_region 3 with fail
  generalize hX : w1.alloc (Obj.cells #[.bool b, .string P, .string Q, .int .i64 q] 114) = x2 at *
  clear hX
  have n0 := N2.out.cell 0 _ rfl
  have n1 := N2.out.cell 1 _ rfl
  have n2 := N2.out.cell 2 _ rfl
  have n3 := N2.out.cell 3 _ rfl
  have nf := N2.out.free 3
  go_wp2_with fail
  refine (LC.out _).mono ?_
  rintro e w2 ⟨rfl, rfl⟩
  go_upto_region 7 with fail
  have N3 := Lib.hid (N2.out.set 3 (.int .i64 ((q : Int) + 1)) (by simp))
  have A3 := Lib.hid (A2.out.other (show w1.heap.size ≠ w.heap.size by omega) 3 (.int .i64 ((q : Int) + 1)))
  have B3 := Lib.hid (B2.out.setCell (p := ⟨w1.heap.size, 3, none⟩) (by simp; omega) (.int .i64 ((q : Int) + 1)))
  generalize hX : x2.setCell ⟨w1.heap.size, 3, none⟩ (.int .i64 ((q : Int) + 1)) = x3 at *
  clear hX n0 n1 n2 n3 nf
  have n0 := N3.out.cell 0 _ rfl
  have n1 := N3.out.cell 1 _ rfl
  have n2 := N3.out.cell 2 _ rfl
  have n3 := N3.out.cell 3 _ rfl
  have a0 := A3.out.cell 0 _ rfl
  have a1 := A3.out.cell 1 _ rfl
  have a2 := A3.out.cell 2 _ rfl
  have a3 := A3.out.cell 3 _ rfl
  have f0 := A3.out.free 0
  have f1 := A3.out.free 1
  have f2 := A3.out.free 2
  have f3 := A3.out.free 3
  go_wp2_with fail
  exact humR_end _ _ w _ _ _ _ _ rfl rfl rfl A3.out B3.out

set_option maxHeartbeats 1600000 in
theorem humR_more_empty (s P Q : ByteArray) (b : Bool) (q : Nat) (w : World) (hs : s.size ≤ 140737488351232) (sP : P.size ≤ 140737488351232) (sQ : Q.size ≤ 140737488351232) (S : ByteArray) (hS : P ++ Q = S) (g1 : S.toList.isEmpty = true) (g2 : (S.toList == []) = true) (g3 : S.toList = [])
    (hq : 0 < q) (hlt : q < s.size) (r : Nat) (hr : 0 < r) (hr9 : r ≤ 10) (LC : Hid (∀ W, Calls Tryz.prog 113 #[.int .u8 s[q].toNat] W (Same W (.int .i64 r))))
    (DC : Hid (∀ W, Calls Tryz.prog 112 #[.string s] W (RetBelow W (.agg #[.bool b, .string P, .string Q, .int .i64 q])))) :
    Calls Tryz.prog 91 #[.string s] w (RetBelow w (.tuple #[.agg #[.bool b, .string P, .string Q, .int .i64 ((q : Int) + 1)], .int .i64 0])) := by
  have HA0 := Lib.hid (CellsAt.new w [.bool false, .string ⟨#[]⟩, .string ⟨#[]⟩, .int .i64 0] 114)
  have B0 := Lib.hid ((Below.refl w.heap.size w).alloc (Nat.le_refl _) (Obj.cells #[.bool false, .string ⟨#[]⟩, .string ⟨#[]⟩, .int .i64 0] 114))
  have t1 : decide ((0 : Int) < (r : Int)) = true := decide_eq_true (by omega)
  have hr1 : (1 : Int) ≤ (r : Int) := by omega
  go_enter Tryz.func91, Tryz.ntmps91
  go_wp2_with fail
  generalize hX : w.alloc (Obj.cells #[.bool false, .string ⟨#[]⟩, .string ⟨#[]⟩, .int .i64 0] 114) = x at *
  clear hX
  refine (DC.out _).mono ?_
  rintro e w1 ⟨rfl, hb1⟩
  have A2 := Lib.hid ((HA0.out.step hb1).alloc (Obj.cells #[.bool b, .string P, .string Q, .int .i64 q] 114))
  have N2 := Lib.hid (CellsAt.new w1 [.bool b, .string P, .string Q, .int .i64 q] 114)
  have B2 := Lib.hid ((B0.out.trans (hb1.mono B0.out.size)).alloc (Nat.le_trans B0.out.size hb1.size) (Obj.cells #[.bool b, .string P, .string Q, .int .i64 q] 114))
  have hl : w.heap.size < w1.heap.size := Nat.lt_of_lt_of_le HA0.out.lt hb1.size
  clear hb1
  go_upto_region 3 with fail
  generalize hX : w1.alloc (Obj.cells #[.bool b, .string P, .string Q, .int .i64 q] 114) = x2 at *
  clear hX
  have n0 := N2.out.cell 0 _ rfl
  have n1 := N2.out.cell 1 _ rfl
  have n2 := N2.out.cell 2 _ rfl
  have n3 := N2.out.cell 3 _ rfl
  have nf := N2.out.free 3
  go_wp2_with fail
  refine (LC.out _).mono ?_
  rintro e w2 ⟨rfl, rfl⟩
  go_upto_region 7 with fail
  have N3 := Lib.hid (N2.out.set 3 (.int .i64 ((q : Int) + 1)) (by simp))
  have A3 := Lib.hid (A2.out.other (show w1.heap.size ≠ w.heap.size by omega) 3 (.int .i64 ((q : Int) + 1)))
  have B3 := Lib.hid (B2.out.setCell (p := ⟨w1.heap.size, 3, none⟩) (by simp; omega) (.int .i64 ((q : Int) + 1)))
  generalize hX : x2.setCell ⟨w1.heap.size, 3, none⟩ (.int .i64 ((q : Int) + 1)) = x3 at *
  clear hX n0 n1 n2 n3 nf
  have n0 := N3.out.cell 0 _ rfl
  have n1 := N3.out.cell 1 _ rfl
  have n2 := N3.out.cell 2 _ rfl
  have n3 := N3.out.cell 3 _ rfl
  have a0 := A3.out.cell 0 _ rfl
  have a1 := A3.out.cell 1 _ rfl
  have a2 := A3.out.cell 2 _ rfl
  have a3 := A3.out.cell 3 _ rfl
  have f0 := A3.out.free 0
  have f1 := A3.out.free 1
  have f2 := A3.out.free 2
  have f3 := A3.out.free 3
  go_wp2_with fail
  exact humR_end _ _ w _ _ _ _ _ rfl rfl rfl A3.out B3.out

end

section


set_option maxRecDepth 100000
/-- A number, and a rank. -/
def humV (h : Hd) (l : List UInt8) : Value :=
  .tuple #[.agg #[.bool (decNeg h), .string (bs (trimL h.whole)), .string (bs (trimR h.frac)), .int .i64 ((h.size : Int) + if 0 < sufS h l then 1 else 0)], .int .i64 ((if numD h = [] then 0 else sufS h l : Nat) : Int)]
theorem scan_parts3 (l : List UInt8) : scanS l false = Hd.none ∨ ((scanS l false).cls = 3 ∧ 0 < (scanS l false).size ∧ (scanS l false).size ≤ l.length) := by
  rw [scan_sg]
  by_cases h : sgD l = []
  · rw [if_pos h]; exact Or.inl rfl
  · rw [if_neg h]
    refine Or.inr ⟨rfl, ?_, ?_⟩
    · show 0 < sgI l + plN (l.drop (sgI l))
      have := plN_pos (r := l.drop (sgI l)) h
      omega
    · show sgI l + plN (l.drop (sgI l)) ≤ l.length
      have h1 : (l.drop (sgI l)).length = l.length - sgI l := List.length_drop
      have h2 := congrArg List.length (List.takeWhile_append_dropWhile (p := isDig) (l := l.drop (sgI l)))
      rw [List.length_append] at h2
      have h3 : fracN ((l.drop (sgI l)).dropWhile isDig) ≤ ((l.drop (sgI l)).dropWhile isDig).length := by
        unfold fracN
        by_cases k : (atB ((l.drop (sgI l)).dropWhile isDig) 0 == 46) = true
        · rw [if_pos k]
          generalize (l.drop (sgI l)).dropWhile isDig = r at *
          cases r with
          | nil => cases k
          | cons x r => have := spanN_le isDig r; simp; omega
        · rw [if_neg k]; omega
      have h4 : sgI l ≤ l.length := by
        have hb : sgB l ≤ l.length := spanN_le _ _
        have e : sgI l = sgB l + (if sgNeg l then 1 else 0) := rfl
        rcases Nat.lt_or_ge (sgB l) l.length with k | k
        · rw [e]; split <;> omega
        · have : sgNeg l = false := by
            unfold sgNeg
            rw [List.drop_eq_nil_of_le k]
            rfl
          rw [e, this]; simp; omega
      unfold plN spanN
      omega

theorem humanR_ok (s : ByteArray) (w : World) (hs : s.size ≤ 140737488351232) : Calls Tryz.prog 91 #[.string s] w (RetBelow w (humV (scanS s.data.toList false) s.data.toList)) := by
  have DC := Lib.hid (fun W : World => decimalR_ok s W hs)
  have hp := scan_parts3 s.data.toList
  have pk := scanS_parts s.data.toList false
  have el := Lib.size_eq s
  rw [← el] at hp pk
  generalize scanS s.data.toList false = h at *
  have en := numD_iff h
  have zP : (bs (trimL h.whole)).size ≤ 140737488351232 := by rw [bs_size]; have := pk.wl; have := trimL_len h.whole; omega
  have zQ : (bs (trimR h.frac)).size ≤ 140737488351232 := by rw [bs_size]; have := pk.fl; have := trimR_len h.frac; omega
  have hqs : h.size ≤ s.size := by rcases hp with rfl | hp; exact Nat.zero_le _; exact hp.2.2
  unfold decV at DC
  unfold humV
  have hsuf : sufS h s.data.toList = if 0 < h.size ∧ h.size < s.size then rankOf (atB s.data.toList h.size) else 0 := by
    unfold sufS
    rcases hp with rfl | ⟨hc, h0, h1⟩
    · rfl
    · rw [if_neg (by omega)]
      by_cases k : h.size < s.size
      · rw [if_pos ⟨h0, k⟩]
      · rw [if_neg (fun x => k x.2), atB_end s _ k]
        rfl
  have hem : ∀ x : List UInt8, x = [] → (bs x).toList.isEmpty = true ∧ ((bs x).toList == []) = true ∧ (bs x).toList = [] := fun x hx => by rw [hx, Lib.toList_data, bs_list]; exact ⟨rfl, rfl, rfl⟩
  have hc := bs_cat (trimL h.whole) (trimR h.frac)
  by_cases hin : 0 < h.size ∧ h.size < s.size
  · rw [if_pos hin] at hsuf
    have LC := Lib.hid (fun W : World => letter_ok (s[h.size]'hin.2) W)
    rw [← get_atB s _ hin.2, ← hsuf] at LC
    have hle := sufS_le h s.data.toList
    have eg := get_atB s _ hin.2
    rw [eg] at LC
    by_cases hr : sufS h s.data.toList = 0
    · rw [hr] at LC
      rw [if_neg (show ¬ 0 < sufS h s.data.toList by omega), Int.add_zero, hr, ite_self]
      by_cases hz : numD h = []
      · have f := hem _ (en.1 hz)
        exact humR_zero_empty s _ _ _ _ w hs zP zQ _ hc f.1 f.2.1 f.2.2 hin.1 hin.2 LC DC
      · have f := bs_more (fun k => hz (en.2 k))
        exact humR_zero_full s _ _ _ _ w hs zP zQ _ hc f.1 f.2.1 f.2.2 hin.1 hin.2 LC DC
    · rw [if_pos (show 0 < sufS h s.data.toList by omega)]
      by_cases hz : numD h = []
      · rw [if_pos hz]
        have f := hem _ (en.1 hz)
        exact humR_more_empty s _ _ _ _ w hs zP zQ _ hc f.1 f.2.1 f.2.2 hin.1 hin.2 _ (by omega) hle LC DC
      · rw [if_neg hz]
        have f := bs_more (fun k => hz (en.2 k))
        exact humR_more_full s _ _ _ _ w hs zP zQ _ hc f.1 f.2.1 f.2.2 hin.1 hin.2 _ (by omega) hle LC DC
  · rw [if_neg hin] at hsuf
    rw [if_neg (show ¬ 0 < sufS h s.data.toList by omega), Int.add_zero, hsuf, ite_self]
    by_cases hz : numD h = []
    · have f := hem _ (en.1 hz)
      exact humR_out_empty s _ _ _ _ w hs zP zQ _ hc f.1 f.2.1 f.2.2 hin hqs DC
    · have f := bs_more (fun k => hz (en.2 k))
      exact humR_out_full s _ _ _ _ w hs zP zQ _ hc f.1 f.2.1 f.2.2 hin hqs DC
end
end Go.Proofs.YtgpcmlbmmcnkjaaGreatDoor.Num
