/- The document's answer for months. -/
import Derived.Test.YtgpcmlbmmcnkjaaGreatDoorNumRefN
namespace Go.Proofs.YtgpcmlbmmcnkjaaGreatDoor.Num
open Go.RowKit

def lowB (c : UInt8) : UInt8 := if 65 ≤ c.toNat ∧ c.toNat ≤ 90 then c + 32 else c
theorem low_hi {c : UInt8} (h1 : 65 ≤ c.toNat) (h2 : c.toNat ≤ 90) : ((lowB c).toNat : Int) = (c.toNat : Int) + 32 := by
  unfold lowB
  rw [if_pos ⟨h1, h2⟩, UInt8.toNat_add]
  show (((c.toNat + 32) % 256 : Nat) : Int) = _
  omega
set_option maxHeartbeats 400000 in
theorem low_ok (c : UInt8) (w : World) : Calls Tryz.prog 114 #[.int .u8 c.toNat] w (Same w (.int .u8 (lowB c).toNat)) := by
  by_cases h1 : (65 : Int) ≤ c.toNat
  · by_cases h2 : (c.toNat : Int) ≤ 90
    · have E := Lib.hid (low_hi (c := c) (by omega) (by omega))
      go_enter Tryz.func114, Tryz.ntmps114
      go_wp2_with fail
      go_ret
      exact ⟨by rw [E.out]; rfl, rfl⟩
    · have E := Lib.hid (show lowB c = c by unfold lowB; rw [if_neg (by omega)])
      have h2' : decide ((c.toNat : Int) ≤ 90) = false := decide_eq_false h2
      go_enter Tryz.func114, Tryz.ntmps114
      go_wp2_with fail
      go_ret
      exact ⟨by rw [E.out]; rfl, rfl⟩
  · have E := Lib.hid (show lowB c = c by unfold lowB; rw [if_neg (by omega)])
    have h1' : decide ((65 : Int) ≤ c.toNat) = false := decide_eq_false h1
    go_enter Tryz.func114, Tryz.ntmps114
    go_wp2_with fail
    go_ret
    exact ⟨by rw [E.out]; rfl, rfl⟩

/-- Does l begin with a word, its letters made small? -/
def begR : List UInt8 → List UInt8 → Bool
  | [], _ => true
  | c :: w, l => match l with
    | [] => false
    | x :: l => (lowB x == c) && begR w l
theorem begR_short : ∀ {l w : List UInt8}, l.length < w.length → begR w l = false
  | l, [], h => by simp at h
  | [], c :: w, _ => rfl
  | x :: l, c :: w, h => by
    show ((lowB x == c) && begR w l) = false
    rw [begR_short (by simpa using h), Bool.and_false]
theorem begR_step {l w : List UInt8} (k : Nat) (h1 : k < w.length) (h2 : k < l.length) : begR (w.drop k) (l.drop k) = ((lowB (atB l k) == atB w k) && begR (w.drop (k + 1)) (l.drop (k + 1))) := by
  rw [List.drop_eq_getElem_cons h2, List.drop_eq_getElem_cons h1]
  have e1 : atB l k = l[k] := by unfold atB; rw [List.getD_eq_getElem?_getD, List.getElem?_eq_getElem h2]; rfl
  have e2 : atB w k = w[k] := by unfold atB; rw [List.getD_eq_getElem?_getD, List.getElem?_eq_getElem h1]; rfl
  rw [e1, e2]
  rfl
/-- A word of small letters. -/
def smallW (w : List UInt8) : Bool := w.all fun c => decide (97 ≤ c.toNat) && decide (c.toNat ≤ 122)
theorem low_or : ∀ (x : UInt8) (j : Fin 26), (lowB x == UInt8.ofNat (97 + j)) = (x ||| 32 == UInt8.ofNat (97 + j)) := by
  have h : ∀ (x : Fin 256) (j : Fin 26), (lowB (UInt8.ofNat x) == UInt8.ofNat (97 + j)) = (UInt8.ofNat x ||| 32 == UInt8.ofNat (97 + j)) := by decide +kernel
  intro x j
  have := h ⟨x.toNat, x.toNat_lt⟩ j
  simpa using this
theorem begR_W : ∀ (w l : List UInt8), smallW w = true → begR w l = begW w l
  | [], _, _ => rfl
  | c :: w, [], _ => rfl
  | c :: w, x :: l, h => by
    unfold smallW at h
    rw [List.all_cons, Bool.and_eq_true] at h
    have hw : smallW w = true := h.2
    have hc := h.1
    simp only [Bool.and_eq_true, decide_eq_true_eq] at hc
    have e := low_or x ⟨c.toNat - 97, by omega⟩
    have ec : UInt8.ofNat (97 + (c.toNat - 97)) = c := by rw [show 97 + (c.toNat - 97) = c.toNat by omega]; simp
    simp only [ec] at e
    show ((lowB x == c) && begR w l) = ((x ||| 32 == c) && begW w l)
    rw [e, begR_W w l hw]

theorem drew_more {w wr : World} (h : ∃ n, wr = w.drewN n) (m : Nat) : ∃ n, wr.drewN m = w.drewN n := by
  obtain ⟨n, rfl⟩ := h
  exact ⟨_, by simp; rfl⟩
def AtRel (w : World) (s t : ByteArray) (b : Nat) (i : Value) (wr : World) : Prop :=
  ∃ k : Nat, k ≤ t.size ∧ i = .int .i64 k ∧ begR (t.data.toList.drop k) ((s.data.toList.drop b).drop k) = begR t.data.toList (s.data.toList.drop b) ∧ ∃ n, wr = w.drewN n

set_option maxHeartbeats 800000 in
theorem atR_ok (s t : ByteArray) (b : Nat) (w : World) (hs : s.size ≤ 140737488351232) (hb : b ≤ s.size) (ht : t.size ≤ 1000) :
    Calls Tryz.prog 93 #[.string s, .int .i64 b, .string t] w (BeginsPost w (begR t.data.toList (s.data.toList.drop b))) := by
  by_cases h : s.size < b + t.size
  · have E := Lib.hid (show begR t.data.toList (s.data.toList.drop b) = false from begR_short (by rw [List.length_drop, ← Lib.size_eq, ← Lib.size_eq]; omega))
    have t1 : decide ((s.size : Int) < (b : Int) + (t.size : Int)) = true := decide_eq_true (by omega)
    go_enter Tryz.func93, Tryz.ntmps93
    go_wp2_with fail
    go_ret
    exact ⟨by rw [E.out]; rfl, 0, rfl⟩
  · have t1 : decide ((s.size : Int) < (b : Int) + (t.size : Int)) = false := decide_eq_false (by omega)
    go_enter Tryz.func93, Tryz.ntmps93
    go_wp2_with fail
    clear t1
    go_loopw [7] (fun i wr => AtRel w s t b i wr) (fun i _ => t.size - (intOf i).toNat)
    case atStart => exact ⟨0, Nat.zero_le _, rfl, rfl, 0, rfl⟩
    case round =>
      obtain ⟨k, hk, rfl, hb2, hn⟩ := hrel
      have HN := Lib.hid hn
      clear hn
      have HB := Lib.hid hb2
      clear hb2
      by_cases hlt : k < t.size
      · obtain ⟨j, hj⟩ : ∃ j, j = b + k := ⟨_, rfl⟩
        have hks : j < s.size := by omega
        have HS := Lib.hid (begR_step (l := s.data.toList.drop b) (w := t.data.toList) k (by rw [← Lib.size_eq]; exact hlt) (by rw [List.length_drop, ← Lib.size_eq]; omega))
        have g1 := Lib.hid (show atB (s.data.toList.drop b) k = s[j] by rw [atB_drop, ← hj]; exact get_atB s j hks)
        have g2 := Lib.hid (get_atB t k hlt)
        have LC := Lib.hid (fun W : World => low_ok s[j] W)
        have s1 : IntKind.i64.wrap (j : Int) = (j : Int) := by rw [IntKind.wrap_i64]; omega
        have s3 : (b : Int) + (k : Int) = (j : Int) := by omega
        clear hj
        have tb : (((lowB s[j]).toNat : Int) != (t[k].toNat : Int)) = !(lowB s[j] == t[k]) := by
          rw [Bool.eq_iff_iff]
          simp only [bne_iff_ne, ne_eq, Bool.not_eq_true', beq_eq_false_iff_ne]
          exact ⟨fun h e => h (by rw [e]), fun h e => h (UInt8.toNat_inj.1 (by omega))⟩
        by_cases hx : lowB s[j] = t[k]
        · have t1 : (((lowB s[j]).toNat : Int) != (t[k].toNat : Int)) = false := tb.trans (by rw [hx]; simp)
          clear tb
          have HX := Lib.hid hx
          clear hx
          go_wp2_with fail
          go_quiet ((go_at_call 114; exact Calls.quiet_of_same ((LC.out _).mono fun _ _ h => ⟨h.1, h.2.symm⟩)))
          go_wp2_with fail
          clear s1 s3
          exact ⟨⟨k + 1, by omega, by go_num, by rw [← HB.out, HS.out, g1.out, g2.out, HX.out]; simp, drew_more HN.out _⟩, by simp [intOf]; omega⟩
        · have t1 : (((lowB s[j]).toNat : Int) != (t[k].toNat : Int)) = true := tb.trans (by simpa using hx)
          clear tb
          have HX := Lib.hid hx
          clear hx
          go_wp2_with fail
          go_quiet ((go_at_call 114; exact Calls.quiet_of_same ((LC.out _).mono fun _ _ h => ⟨h.1, h.2.symm⟩)))
          go_wp2_with fail
          go_ret
          refine ⟨?_, drew_more HN.out _⟩
          rw [← HB.out, HS.out, g1.out, g2.out, beq_eq_false_iff_ne.2 HX.out, Bool.false_and]
          rfl
      · have hk' : k = t.size := by omega
        subst hk'
        go_wp2_with fail
        go_ret
        refine ⟨?_, HN.out⟩
        rw [← HB.out, Lib.size_eq t, List.drop_length]
        rfl

theorem monthIn_hit {l : List UInt8} : ∀ (k n : Nat) (ws : List (List UInt8)), (∀ j, j < k → begB l (ws.getD j []) = false) → k < ws.length → begB l (ws.getD k []) = true → monthIn l n ws = n + k + 1
  | _, _, [], _, h, _ => by simp at h
  | 0, n, w :: r, _, _, h => by
    have h' : begB l w = true := h
    show (if begB l w then n + 1 else monthIn l (n + 1) r) = _
    rw [if_pos h']
  | k + 1, n, w :: r, lo, hk, h => by
    have h0 : begB l w = false := lo 0 (by omega)
    show (if begB l w then n + 1 else monthIn l (n + 1) r) = _
    rw [if_neg (by rw [h0]; simp), monthIn_hit k (n + 1) r (fun j hj => lo (j + 1) (by omega)) (by simpa using hk) h]
    omega
theorem monthIn_none {l : List UInt8} : ∀ (n : Nat) (ws : List (List UInt8)), (∀ j, j < ws.length → begB l (ws.getD j []) = false) → monthIn l n ws = 0
  | _, [], _ => rfl
  | n, w :: r, lo => by
    have h0 : begB l w = false := lo 0 (by simp)
    show (if begB l w then n + 1 else monthIn l (n + 1) r) = _
    rw [if_neg (by rw [h0]; simp), monthIn_none (n + 1) r (fun j hj => lo (j + 1) (by simpa using hj))]

abbrev mText : ByteArray := ⟨#[106, 97, 110, 102, 101, 98, 109, 97, 114, 97, 112, 114, 109, 97, 121, 106, 117, 110, 106, 117, 108, 97, 117, 103, 115, 101, 112, 111, 99, 116, 110, 111, 118, 100, 101, 99]⟩
theorem mText_name {k : Nat} (h : k < 12) : (mText.extract (3 * k) (3 * k + 3)).data.toList = mNames.getD k [] := by
  have : ∀ j : Fin 12, (mText.extract (3 * j.1) (3 * j.1 + 3)).data.toList = mNames.getD j.1 [] := by decide +kernel
  exact this ⟨k, h⟩
theorem mNames_small {k : Nat} (h : k < 12) : smallW (mNames.getD k []) = true := by
  have : ∀ j : Fin 12, smallW (mNames.getD j.1 []) = true := by decide +kernel
  exact this ⟨k, h⟩

def MoRel (w : World) (l : List UInt8) (i : Value) (wr : World) : Prop :=
  ∃ k : Nat, k ≤ 12 ∧ i = .int .i64 k ∧ (∀ j, j < k → begB l (mNames.getD j []) = false) ∧ Below w.heap.size w wr

set_option maxHeartbeats 800000 in
theorem monthR_ok (s : ByteArray) (w : World) (hs : s.size ≤ 140737488351232) : Calls Tryz.prog 66 #[.string s] w (RetBelow w (.int .i64 (monthS s.data.toList))) := by
  have SC := Lib.hid (fun W : World => start_ok s W (by unfold maxLen; omega))
  have hb : spanN isBlank s.data.toList ≤ s.size := by rw [Lib.size_eq]; exact spanN_le _ _
  have EM := Lib.hid (show monthS s.data.toList = monthIn (s.data.toList.drop (spanN isBlank s.data.toList)) 0 mNames by rw [drop_spanN]; rfl)
  rw [EM.out]
  generalize spanN isBlank s.data.toList = b at *
  clear EM
  have hbi : (b : Int) ≤ 140737488351232 := by omega
  go_enter Tryz.func66, Tryz.ntmps66
  go_wp2_with fail
  refine (SC.out _).mono ?_
  rintro e w1 ⟨rfl, rfl⟩
  go_wp2_with fail
  go_loopw [4] (fun i wr => MoRel w (s.data.toList.drop b) i wr) (fun i _ => 12 - (intOf i).toNat)
  case atStart => exact ⟨0, by omega, rfl, fun j hj => by omega, Below.refl _ _⟩
  case round =>
    obtain ⟨k, hk, rfl, hlo, hB⟩ := hrel
    have HLO := Lib.hid hlo
    have HB := Lib.hid hB
    clear hlo hB
    by_cases hlt : k < 12
    · have hex : (mText.extract (3 * k) (3 * k + 3)).size ≤ 1000 := by simp; omega
      have AC := Lib.hid (fun W : World => atR_ok s (mText.extract (3 * k) (3 * k + 3)) b W hs hb hex)
      have en := mText_name hlt
      have es := begR_W (mNames.getD k []) (s.data.toList.drop b) (mNames_small hlt)
      rw [en, es] at AC
      have ei : ((3 : Int) * (k : Int)).toNat = 3 * k := by omega
      have ei2 : ((3 : Int) * (k : Int) + 3).toNat = 3 * k + 3 := by omega
      clear hex en es
      cases hc : begW (mNames.getD k []) (s.data.toList.drop b) with
      | true =>
        have HR := Lib.hid (show monthIn (s.data.toList.drop b) 0 mNames = 0 + k + 1 from monthIn_hit k 0 mNames HLO.out hlt hc)
        rw [hc] at AC
        clear hc
        go_wp2_with fail
        refine (AC.out _).mono ?_
        rintro e w2 ⟨rfl, n, rfl⟩
        go_wp2_with fail
        go_ret
        exact ⟨by rw [HR.out, Nat.zero_add]; go_num, bdrewB HB.out _⟩
      | false =>
        have HR := Lib.hid (show ∀ j, j < k + 1 → begB (s.data.toList.drop b) (mNames.getD j []) = false from fun j hj => by
          rcases Nat.lt_or_ge j k with h | h
          · exact HLO.out j h
          · rw [show j = k by omega]; exact hc)
        rw [hc] at AC
        clear hc
        go_wp2_with fail
        refine (AC.out _).mono ?_
        rintro e w2 ⟨rfl, n, rfl⟩
        go_wp2_with fail
        exact ⟨⟨k + 1, by omega, by go_num, HR.out, bdrewB HB.out _⟩, by simp [intOf]; omega⟩
    · have HR := Lib.hid (show monthIn (s.data.toList.drop b) 0 mNames = 0 from monthIn_none 0 mNames (fun j hj => HLO.out j (by have : j < 12 := hj; omega)))
      go_wp2_with fail
      go_ret
      exact ⟨by rw [HR.out]; rfl, HB.out⟩
end Go.Proofs.YtgpcmlbmmcnkjaaGreatDoor.Num
