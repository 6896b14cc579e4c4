/- Versions: cut into pairs, and compared. -/
import Derived.Test.YtpbbgmfjdachnaaDoorRank
import Derived.RegionTactic
import Derived.Laws.Rows
import Derived.ChangeAlike
namespace Go.Proofs.YtpbbgmfjdachnaaDoor
open Go.RowKit

theorem trimL_ok (s : ByteArray) (w : World) : Calls Tryd.prog 37 #[.string s, .string ⟨#[48]⟩] w fun e w' => e = .returned (.string (bs (trimL s.data.toList))) ∧ w = w' :=
  (Tryd.strings_TrimLeft_one s 48 (by decide) w).mono fun _ _ ⟨h1, h2⟩ => ⟨by rw [h1]; unfold trimL bs; rw [Lib.trimLeftS_one], h2.symm⟩
theorem trimR_ok (s : ByteArray) (w : World) (hs : s.size ≤ 9223372036854775807) : Calls Tryd.prog 70 #[.string s, .string ⟨#[48]⟩] w fun e w' => e = .returned (.string (bs (trimR s.data.toList))) ∧ w = w' :=
  (Tryd.strings_TrimRight_one s 48 (by decide) w hs).mono fun _ _ ⟨h1, h2⟩ => ⟨by rw [h1]; unfold trimR bs; rw [Lib.trimRightS_one], h2.symm⟩

/-- A pair, as a value. -/
def pairV (p d : ByteArray) : Value := .agg #[.string p, .string d]

set_option maxHeartbeats 400000 in
theorem pairNumber_ok (p d : ByteArray) (w : World) : Calls Tryd.prog 104 #[.agg #[.string p, .string d]] w (RetBelow w (.string (bs (trimL d.data.toList)))) := by
  go_enter Tryd.func104, Tryd.ntmps104
  go_wp2_with fail
  refine (trimL_ok d _).mono ?_
  rintro e w1 ⟨rfl, rfl⟩
  go_wp2_with fail
  go_ret
  exact ⟨rfl, (Below.refl _ _).alloc (Nat.le_refl _) _⟩

theorem extract_bs (s : ByteArray) (i j : Nat) : s.extract i j = bs ((s.data.toList.drop i).take (j - i)) := by
  have e := Lib.extract_data s i j
  rw [← bs_of (s.extract i j), e]

theorem spanN_on' {p : UInt8 → Bool} : ∀ {l : List UInt8} {k : Nat}, k ≤ spanN p l → k < l.length → p (atB l k) = true → k + 1 ≤ spanN p l
  | [], k, _, hl, _ => by simp at hl
  | x :: r, 0, _, _, h => by
    have : p x = true := by simpa [atB] using h
    simp [spanN, List.takeWhile, this]
  | x :: r, k + 1, hk, hl, h => by
    by_cases e : p x = true
    · have hk' : k ≤ spanN p r := by simp [spanN, List.takeWhile, e] at hk; simpa [spanN] using hk
      have := spanN_on' (l := r) (k := k) hk' (by simpa using hl) (by simpa [atB] using h)
      simp [spanN, List.takeWhile, e] at this ⊢
      exact this
    · simp [spanN, List.takeWhile, e] at hk

def CutRel (w : World) (l : List UInt8) (p : UInt8 → Bool) (b : Nat) (i : Value) (wr : World) : Prop :=
  ∃ k : Nat, k ≤ spanN p l ∧ i = .int .i64 ((b + k : Nat) : Int) ∧ wr = w

theorem drop_atB (l : List UInt8) (b k : Nat) : atB (l.drop b) k = atB l (b + k) := by
  unfold atB
  simp [List.getD_eq_getElem?_getD, List.getElem?_drop]
theorem spanN_lt {p : UInt8 → Bool} (h0 : p 0 = false) : ∀ {l : List UInt8} {k : Nat}, p (atB l k) = true → k < l.length := by
  intro l k h
  rcases Nat.lt_or_ge k l.length with h' | h'
  · exact h'
  · unfold atB at h
    rw [List.getD_eq_getElem?_getD, List.getElem?_eq_none h'] at h
    simp [h0] at h

set_option maxHeartbeats 1600000 in
theorem cutPair_ok (s : ByteArray) (w : World) (hs : s.size ≤ 1125899906842624) :
    Calls Tryd.prog 81 #[.string s] w (RetBelow w (.tuple #[.agg #[.string (bs (plainOf s.data.toList)), .string (bs (digsOf s.data.toList))], .string (bs (restOf s.data.toList))])) := by
  obtain ⟨l, hll⟩ : ∃ l, l = s.data.toList := ⟨_, rfl⟩
  have hl1 : s.size ≤ l.length := by rw [hll, Lib.size_eq]; exact Nat.le_refl _
  have hl2 : l.length ≤ s.size := by rw [hll, Lib.size_eq]; exact Nat.le_refl _
  have n1le := spanN_le notDig l
  have n2le := spanN_le isDig (l.drop (spanN notDig l))
  simp only [List.length_drop] at n2le
  have E1 := Lib.hid (show s.extract 0 (spanN notDig l) = bs (plainOf s.data.toList) by rw [extract_bs, ← hll]; simp [take_spanN, plainOf])
  have E2 := Lib.hid (show s.extract (spanN notDig l) (spanN notDig l + spanN isDig (l.drop (spanN notDig l))) = bs (digsOf s.data.toList) by
    rw [extract_bs, ← hll, Nat.add_sub_cancel_left, take_spanN, drop_spanN]; rfl)
  have E3 := Lib.hid (show s.extract (spanN notDig l + spanN isDig (l.drop (spanN notDig l))) s.size = bs (restOf s.data.toList) by
    rw [extract_bs, ← hll, ← List.drop_drop, drop_spanN, drop_spanN, List.take_of_length_le (by
      have h1 := (List.dropWhile_sublist (l := l) notDig).length_le
      have h2 := (List.dropWhile_sublist (l := l.dropWhile notDig) isDig).length_le
      have e1 : (l.dropWhile notDig).length = l.length - spanN notDig l := by rw [← drop_spanN]; simp
      have e2 : ((l.dropWhile notDig).dropWhile isDig).length = (l.dropWhile notDig).length - spanN isDig (l.dropWhile notDig) := by rw [← drop_spanN isDig]; simp
      omega)]
    rfl)
  have HLL := Lib.hid hll
  clear hll
  generalize hn1 : spanN notDig l = n1 at *
  generalize hn2 : spanN isDig (l.drop n1) = n2 at *
  have HN1 := Lib.hid hn1
  have HN2 := Lib.hid hn2
  clear hn1 hn2
  go_enter Tryd.func81, Tryd.ntmps81
  go_wp2_with fail
  obtain ⟨w0, hw0⟩ : ∃ w0, w0 = w := ⟨_, rfl⟩
  go_loopw [4] (fun i wr => CutRel (w.alloc (Obj.cells #[Value.string ⟨#[]⟩, Value.string ⟨#[]⟩] 102)) l notDig 0 i wr) (fun i _ => s.size - (intOf i).toNat)
  case atStart => exact ⟨0, Nat.zero_le _, rfl, rfl⟩
  case round =>
    obtain ⟨k, hk, rfl, rfl⟩ := hrel
    rw [Nat.zero_add] at *
    rw [HN1.out] at hk
    by_cases hlt : k < s.size
    · have hb : atB l k = s[k] := by rw [HLL.out]; exact get_atB s k hlt
      cases hd : isDig s[k] with
      | false =>
        have HK := Lib.hid (show k + 1 ≤ n1 by
          have h1 : k ≤ spanN notDig l := by rw [HN1.out]; exact hk
          have := spanN_on' h1 (by omega) (by rw [hb]; simp [notDig, hd])
          rw [HN1.out] at this; exact this)
        have HD := Lib.hid hd
        clear hd hb
        go_wp2_with (refine (isDigit_ok s[k] _).mono ?_; rintro e w' ⟨rfl, rfl⟩; rw [HD.out])
        go_roundw
        case rel => exact ⟨k + 1, by rw [HN1.out]; exact HK.out, by go_num, rfl⟩
        case measure => simp [intOf]; omega
      | true =>
        have hkn : k = n1 := by
          have h1 : k ≤ spanN notDig l := by rw [HN1.out]; exact hk
          have := spanN_end h1 (by rw [hb]; simp [notDig, hd])
          rw [HN1.out] at this; exact this.symm
        have HD := Lib.hid hd
        clear hd hb
        subst hkn
        go_wp2_with (refine (isDigit_ok s[k] _).mono ?_; rintro e w' ⟨rfl, rfl⟩; rw [HD.out])
        have hk1 : k ≤ s.size := by omega
        go_loopw [5] (fun i wr => CutRel (w.alloc (Obj.cells #[Value.string ⟨#[]⟩, Value.string ⟨#[]⟩] 102)) (l.drop k) isDig k i wr) (fun i _ => s.size - (intOf i).toNat)
        case atStart => exact ⟨0, Nat.zero_le _, by go_num, rfl⟩
        case round =>
          obtain ⟨j, hj, rfl, rfl⟩ := hrel
          rw [HN2.out] at hj
          have hjl : k + j ≤ s.size := by omega
          by_cases hlt2 : k + j < s.size
          · have hb : atB (l.drop k) j = s[k + j] := by rw [drop_atB, HLL.out]; exact get_atB s (k + j) hlt2
            cases hd : isDig s[k + j] with
            | true =>
              have HK := Lib.hid (show j + 1 ≤ n2 by
                have h1 : j ≤ spanN isDig (l.drop k) := by rw [HN2.out]; exact hj
                have := spanN_on' h1 (by simp; omega) (by rw [hb]; exact hd)
                rw [HN2.out] at this; exact this)
              have HD2 := Lib.hid hd
              clear hd hb
              go_wp2_with (refine (isDigit_ok s[k + j] _).mono ?_; rintro e w' ⟨rfl, rfl⟩; rw [HD2.out])
              go_roundw
              case rel => exact ⟨j + 1, by rw [HN2.out]; exact HK.out, by go_num, rfl⟩
              case measure => simp [intOf]; omega
            | false =>
              have hj2 : j = n2 := by
                have h1 : j ≤ spanN isDig (l.drop k) := by rw [HN2.out]; exact hj
                have := spanN_end h1 (by rw [hb]; exact hd)
                rw [HN2.out] at this; exact this.symm
              have HD2 := Lib.hid hd
              clear hd hb
              subst hj2
              go_wp2_with (refine (isDigit_ok s[k + j] _).mono ?_; rintro e w' ⟨rfl, rfl⟩; rw [HD2.out])
              go_region
              all_goals go_wp2_with fail
              all_goals exact bodyPost_ret (v := .tuple #[.agg #[.string (bs (plainOf s.data.toList)), .string (bs (digsOf s.data.toList))], .string (bs (restOf s.data.toList))]) (by rw [E1.out, E2.out, E3.out]; simp [results, Tryd.results81, go_sem]) rfl ⟨rfl, ((Below.refl _ _).alloc (Nat.le_refl _) _).drew⟩
          · have hj2 : j = n2 := by omega
            subst hj2
            go_wp2_with fail
            go_region
            all_goals go_wp2_with fail
            all_goals exact bodyPost_ret (v := .tuple #[.agg #[.string (bs (plainOf s.data.toList)), .string (bs (digsOf s.data.toList))], .string (bs (restOf s.data.toList))]) (by rw [E1.out, E2.out, E3.out]; simp [results, Tryd.results81, go_sem]) rfl ⟨rfl, ((Below.refl _ _).alloc (Nat.le_refl _) _).drew⟩
    · have hkn : k = n1 := by omega
      subst hkn
      go_wp2_with fail
      have hk1 : k ≤ s.size := by omega
      go_loopw [5] (fun i wr => CutRel (w.alloc (Obj.cells #[Value.string ⟨#[]⟩, Value.string ⟨#[]⟩] 102)) (l.drop k) isDig k i wr) (fun i _ => s.size - (intOf i).toNat)
      case atStart => exact ⟨0, Nat.zero_le _, by go_num, rfl⟩
      case round =>
        obtain ⟨j, hj, rfl, rfl⟩ := hrel
        rw [HN2.out] at hj
        have hjl : k + j ≤ s.size := by omega
        by_cases hlt2 : k + j < s.size
        · exfalso; omega
        · have hj2 : j = n2 := by omega
          subst hj2
          go_wp2_with fail
          go_region
          all_goals go_wp2_with fail
          all_goals exact bodyPost_ret (v := .tuple #[.agg #[.string (bs (plainOf s.data.toList)), .string (bs (digsOf s.data.toList))], .string (bs (restOf s.data.toList))]) (by rw [E1.out, E2.out, E3.out]; simp [results, Tryd.results81, go_sem]) rfl ⟨rfl, ((Below.refl _ _).alloc (Nat.le_refl _) _).drew⟩
end Go.Proofs.YtpbbgmfjdachnaaDoor
