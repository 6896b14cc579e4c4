/- The document's answer for numbers: exponents, Norm. -/
import Derived.Test.YtpbbgmfjdachnaaDoorRefM
import Derived.Test.YtpbbgmfjdachnaaDoorExp
namespace Go.Proofs.YtpbbgmfjdachnaaDoor
open Go.RowKit

def valN : Nat → List UInt8 → Nat
  | e, [] => e
  | e, c :: r => valN (10 * e + (c.toNat - 48)) r
theorem valN_app : ∀ (a : List UInt8) (e : Nat) (b : List UInt8), valN e (a ++ b) = valN (valN e a) b
  | [], _, _ => rfl
  | _ :: a, _, b => valN_app a _ b
theorem valN_snoc (e : Nat) (a : List UInt8) (c : UInt8) : valN e (a ++ [c]) = 10 * valN e a + (c.toNat - 48) := valN_app a e [c]
theorem satS_val : ∀ (r : List UInt8) (e : Nat), satS (min e 1099511627776) r = min (valN e r) 1099511627776
  | [], e => rfl
  | c :: r, e => by
    have h := satS_val r (10 * e + (c.toNat - 48))
    show satS (min (10 * (min e 1099511627776) + (c.toNat - 48)) 1099511627776) r = min (valN (10 * e + (c.toNat - 48)) r) 1099511627776
    rw [← h]
    congr 1
    omega
theorem satS_min (r : List UInt8) : satS 0 r = min (valN 0 r) 1099511627776 := satS_val r 0
theorem valN_zeros : ∀ (l : List UInt8), valN 0 l = valN 0 (trimL l)
  | [] => rfl
  | c :: r => by
    rw [trimL_eq]
    by_cases h : c = 48
    · subst h
      show valN (10 * 0 + 0) r = _
      rw [valN_zeros r, trimL_eq]
      rfl
    · rw [List.dropWhile_cons_of_neg (by simpa using h)]
theorem valN_ge : ∀ (r : List UInt8) (e : Nat), e * 10 ^ r.length ≤ valN e r
  | [], e => by show e * 1 ≤ e; omega
  | c :: r, e => by
    have h := valN_ge r (10 * e + (c.toNat - 48))
    show _ ≤ valN (10 * e + (c.toNat - 48)) r
    refine Nat.le_trans ?_ h
    rw [List.length_cons, Nat.pow_succ, show e * (10 ^ r.length * 10) = (10 * e) * 10 ^ r.length by rw [Nat.mul_comm (10 ^ r.length) 10, ← Nat.mul_assoc, Nat.mul_comm e 10]]
    exact Nat.mul_le_mul_right _ (by omega)
theorem valN_lt : ∀ (r : List UInt8) (e : Nat), (∀ x ∈ r, isDig x = true) → valN e r < (e + 1) * 10 ^ r.length
  | [], e, _ => by show e < (e + 1) * 1; omega
  | c :: r, e, hd => by
    have hc := isDig_iff.1 (hd c (by simp))
    have h := valN_lt r (10 * e + (c.toNat - 48)) (fun x hx => hd x (by simp [hx]))
    show valN (10 * e + (c.toNat - 48)) r < _
    refine Nat.lt_of_lt_of_le h ?_
    rw [List.length_cons, Nat.pow_succ, show (e + 1) * (10 ^ r.length * 10) = (10 * (e + 1)) * 10 ^ r.length by rw [Nat.mul_comm (10 ^ r.length) 10, ← Nat.mul_assoc, Nat.mul_comm (e + 1) 10]]
    exact Nat.mul_le_mul_right _ (by omega)
theorem valN_le {r : List UInt8} (hd : ∀ x ∈ r, isDig x = true) (h : r.length ≤ 14) : valN 0 r ≤ 100000000000000 := by
  have h1 := valN_lt r 0 hd
  have h2 : 10 ^ r.length ≤ 10 ^ 14 := Nat.pow_le_pow_right (by omega) h
  omega
theorem trimL_head {l : List UInt8} {c : UInt8} {r : List UInt8} (h : trimL l = c :: r) : c ≠ 48 := by
  rw [trimL_eq] at h
  intro hc
  subst hc
  have := List.head_dropWhile_not (p := fun x : UInt8 => x == 48) (l := l) (by rw [h]; simp)
  simp [h] at this
theorem sat_exit {D : List UInt8} (hd : ∀ x ∈ D, isDig x = true) (k : Nat) (hk : k ≤ (trimL D).length) (hx : k = (trimL D).length ∨ k = 14) (h14 : k ≤ 14) :
    satS 0 D = if 1099511627776 < valN 0 ((trimL D).take k) ∨ 14 < (trimL D).length then 1099511627776 else valN 0 ((trimL D).take k) := by
  rw [satS_min, valN_zeros]
  rcases Nat.lt_or_ge 14 (trimL D).length with h | h
  · rw [if_pos (Or.inr h)]
    have : 100000000000000 ≤ valN 0 (trimL D) := by
      cases ht : trimL D with
      | nil => rw [ht] at h; simp at h
      | cons c r =>
        have hc := trimL_head ht
        have hcd := isDig_iff.1 (hd c (mem_trimL (by rw [ht]; simp)))
        have hge := valN_ge r (10 * 0 + (c.toNat - 48))
        rw [ht, List.length_cons] at h
        have h2 : 10 ^ 14 ≤ 10 ^ r.length := Nat.pow_le_pow_right (by omega) (by omega)
        have h3 : 1 ≤ c.toNat - 48 := by
          have : c.toNat ≠ 48 := fun e => hc (UInt8.toNat_inj.1 e)
          omega
        show 100000000000000 ≤ valN (10 * 0 + (c.toNat - 48)) r
        have h4 : 1 * 10 ^ r.length ≤ (10 * 0 + (c.toNat - 48)) * 10 ^ r.length := Nat.mul_le_mul_right _ (by omega)
        omega
    omega
  · have e : (trimL D).take k = trimL D := List.take_of_length_le (by omega)
    rw [e]
    by_cases hM : 1099511627776 < valN 0 (trimL D)
    · rw [if_pos (Or.inl hM)]; omega
    · rw [if_neg (by omega)]; omega

theorem mem_tw {p : UInt8 → Bool} : ∀ {l : List UInt8} {x : UInt8}, x ∈ l.takeWhile p → p x = true
  | [], _, h => by cases h
  | y :: l, x, h => by
    by_cases e : p y = true
    · simp only [List.takeWhile_cons, e, if_true, List.mem_cons] at h
      rcases h with rfl | h
      · exact e
      · exact mem_tw h
    · simp [List.takeWhile_cons, e] at h
theorem low_e : ∀ x : UInt8, (lowB x == 101) = (x == 101 || x == 69) := by
  have h : ∀ x : Fin 256, (lowB (UInt8.ofNat x) == 101) = (UInt8.ofNat x == 101 || UInt8.ofNat x == 69) := by decide +kernel
  intro x
  have := h ⟨x.toNat, x.toNat_lt⟩
  simpa using this

def expV (l : List UInt8) (i : Nat) : Value := .tuple #[.int .i64 (expS (l.drop i)).1, .int .i64 ((i + (expS (l.drop i)).2 : Nat) : Int)]

set_option maxRecDepth 100000
theorem expR_none (s : ByteArray) (i : Nat) (w : World) (hs : s.size ≤ 140737488351232) (hi : i ≤ s.size) (hl : ∀ h : i < s.size, lowB s[i] ≠ 101) : Calls Tryd.prog 53 #[.string s, .int .i64 i] w (Same w (.tuple #[.int .i64 0, .int .i64 i])) := by
  by_cases h : i < s.size
  · have LC := Lib.hid (fun W : World => low_ok s[i] W)
    have t := byte_is (lowB s[i]) 101 (by omega)
    have t1 : (((lowB s[i]).toNat : Int) != 101) = true := by
      have : (((lowB s[i]).toNat : Int) == 101) = false := t.trans (by simpa using hl h)
      simp only [bne, this]; rfl
    clear t hl
    go_enter Tryd.func53, Tryd.ntmps53
    go_wp2_with fail
    refine (LC.out _).mono ?_
    rintro e w1 ⟨rfl, rfl⟩
    go_wp2_with fail
    go_ret2
    exact ⟨rfl, rfl⟩
  · clear hl
    go_enter Tryd.func53, Tryd.ntmps53
    go_wp2_with fail
    go_ret2
    exact ⟨rfl, rfl⟩

set_option maxHeartbeats 800000 in
theorem expR_neg_none (s : ByteArray) (i j : Nat) (w : World) (hs : s.size ≤ 140737488351232) (hi : i < s.size) (hji : j = i + 1) (hl : lowB s[i] = 101) (hj : j < s.size) (h1 : s[j] = 45)
    (RC : Hid (∀ W, Calls Tryd.prog 87 #[.string s, .int .i64 ((j : Int) + 1)] W (Same W (.int .i64 ((j : Int) + 1))))) : Calls Tryd.prog 53 #[.string s, .int .i64 i] w (Same w (.tuple #[.int .i64 0, .int .i64 i])) := by
  have LC := Lib.hid (fun W : World => low_ok s[i] W)
  have t1 : (((lowB s[i]).toNat : Int) != 101) = false := by
    rw [hl]; rfl
  have s1 : (i : Int) + 1 = (j : Int) := by omega
  clear hl
  have t2 : ((s[j].toNat : Int) == 45) = true := by rw [h1]; rfl
  clear h1
  clear hji
  go_enter Tryd.func53, Tryd.ntmps53
  go_wp2_with fail
  refine (LC.out _).mono ?_
  rintro e w1 ⟨rfl, rfl⟩
  go_wp2_with fail
  refine (RC.out _).mono ?_
  rintro e w1 ⟨rfl, rfl⟩
  go_wp2_with fail
  go_ret2
  exact ⟨rfl, rfl⟩

set_option maxHeartbeats 1600000 in
theorem expR_neg_some (s : ByteArray) (i j : Nat) (w : World) (hs : s.size ≤ 140737488351232) (hi : i < s.size) (hji : j = i + 1) (hl : lowB s[i] = 101) (hj : j < s.size) (h1 : s[j] = 45) (k : Nat) (hk1 : (j + 1) < k) (hk2 : k ≤ s.size) (DD : List UInt8) (z : Nat) (dg : ByteArray) (hD : s.extract (j + 1) k = dg) (hz : z ≤ dg.size) (hDD : dg.extract z dg.size = bs DD) (hdd : DD.length ≤ 140737488351232)
    (hdig : ∀ x ∈ DD, isDig x = true) (E : Nat) (hE : ∀ q, q ≤ DD.length → (q = DD.length ∨ q = 14) → q ≤ 14 → E = if 1099511627776 < valN 0 (DD.take q) ∨ 14 < DD.length then 1099511627776 else valN 0 (DD.take q))
    (RC : Hid (∀ W, Calls Tryd.prog 87 #[.string s, .int .i64 ((j : Int) + 1)] W (Same W (.int .i64 k)))) (ZC : Hid (∀ W, Calls Tryd.prog 57 #[.string dg] W (Same W (.int .i64 z)))) :
    Calls Tryd.prog 53 #[.string s, .int .i64 i] w (Same w (.tuple #[.int .i64 (-(E : Int)), .int .i64 k])) := by
  have HEE := Lib.hid hE
  have HDIG := Lib.hid hdig
  have HS := Lib.hid (bs_size DD)
  have HL := Lib.hid (bs_list DD)
  have tne : ((k : Int) == ((j : Int) + 1)) = false := by rw [beq_eq_false_iff_ne]; omega
  clear hE hdig
  obtain ⟨dd, hdd2⟩ : ∃ dd, dd = bs DD := ⟨_, rfl⟩
  rw [← hdd2] at hDD HS HL
  clear hdd2
  have hsz : dd.size ≤ 140737488351232 := by rw [HS.out]; exact hdd
  clear hdd
  have LC := Lib.hid (fun W : World => low_ok s[i] W)
  have t1 : (((lowB s[i]).toNat : Int) != 101) = false := by
    rw [hl]; rfl
  have s1 : (i : Int) + 1 = (j : Int) := by omega
  clear hl
  have t2 : ((s[j].toNat : Int) == 45) = true := by rw [h1]; rfl
  clear h1
  clear hji
  go_enter Tryd.func53, Tryd.ntmps53
  go_wp2_with fail
  refine (LC.out _).mono ?_
  rintro e w1 ⟨rfl, rfl⟩
  go_wp2_with fail
  refine (RC.out _).mono ?_
  rintro e w1 ⟨rfl, rfl⟩
  go_wp2_with fail
  refine (ZC.out _).mono ?_
  rintro e w1 ⟨rfl, rfl⟩
  go_wp2_with fail
  go_loop [10, 11] (fun n q => ∃ m : Nat, m ≤ dd.size ∧ m ≤ 14 ∧ q = .int .i64 m ∧ n = .int .i64 (valN 0 (DD.take m) : Int)) (fun _ q => 14 - (intOf q).toNat)
  case atStart => exact ⟨0, by omega, by omega, rfl, rfl⟩
  case round =>
    obtain ⟨m, hm1, hm2, rfl, rfl⟩ := hrel
    have hv : valN 0 (DD.take m) ≤ 100000000000000 := valN_le (fun x hx => HDIG.out x (List.mem_of_mem_take hx)) (by rw [List.length_take]; omega)
    by_cases hlt : m < dd.size
    · by_cases h14 : m < 14
      · have hg : DD.take (m + 1) = DD.take m ++ [dd[m]] := by
          have hl : m < DD.length := by rw [← HS.out]; exact hlt
          rw [List.take_succ_eq_append_getElem hl]
          congr 2
          rw [← get_atB dd m hlt, HL.out]
          unfold atB
          rw [List.getD_eq_getElem?_getD, List.getElem?_eq_getElem hl]; rfl
        have hdm : 48 ≤ dd[m].toNat ∧ dd[m].toNat ≤ 57 := isDig_iff.1 (HDIG.out _ (List.mem_of_mem_take (i := m + 1) (by rw [hg]; simp)))
        have HN := Lib.hid (show (valN 0 (DD.take (m + 1)) : Int) = 10 * (valN 0 (DD.take m) : Int) + ((dd[m].toNat : Int) - 48) by rw [hg, valN_snoc]; omega)
        clear hg
        obtain ⟨d1, d2⟩ := hdm
        generalize hvv : valN 0 (DD.take m) = vv at *
        clear hvv
        have q1 : IntKind.u8.wrap ((dd[m].toNat : Int) - 48) = (dd[m].toNat : Int) - 48 := by unfold IntKind.wrap; simp [IntKind.bits, IntKind.signed]; omega
        go_wp2_with fail
        go_round
        case rel => exact ⟨m + 1, by omega, by omega, by go_num, by rw [HN.out]⟩
        case measure => simp [intOf]; omega
      · have t14 : decide ((m : Int) < 14) = false := decide_eq_false (by omega)
        have hE := HEE.out m (by rw [← HS.out]; omega) (Or.inr (by omega)) (by omega)
        rw [← HS.out] at hE
        by_cases hM : 1099511627776 < valN 0 (DD.take m)
        · rw [if_pos (Or.inl hM)] at hE
          have HE := Lib.hid hE
          clear hE
          have tM : decide ((1099511627776 : Int) < (valN 0 (DD.take m) : Int)) = true := decide_eq_true (by omega)
          go_wp2_with fail
          go_ret2
          exact ⟨by rw [HE.out]; rfl, rfl⟩
        · have tM : decide ((1099511627776 : Int) < (valN 0 (DD.take m) : Int)) = false := decide_eq_false (by omega)
          by_cases h15 : 14 < dd.size
          · rw [if_pos (Or.inr h15)] at hE
            have HE := Lib.hid hE
            clear hE
            have t15 : decide ((14 : Int) < (dd.size : Int)) = true := decide_eq_true (by omega)
            go_wp2_with fail
            go_ret2
            exact ⟨by rw [HE.out]; rfl, rfl⟩
          · rw [if_neg (by omega)] at hE
            have HE := Lib.hid hE
            clear hE
            have t15 : decide ((14 : Int) < (dd.size : Int)) = false := decide_eq_false (by omega)
            go_wp2_with fail
            go_ret2
            exact ⟨by rw [HE.out]; rfl, rfl⟩
    · have hE := HEE.out m (by rw [← HS.out]; omega) (Or.inl (by rw [← HS.out]; omega)) (by omega)
      rw [← HS.out] at hE
      by_cases hM : 1099511627776 < valN 0 (DD.take m)
      · rw [if_pos (Or.inl hM)] at hE
        have HE := Lib.hid hE
        clear hE
        have tM : decide ((1099511627776 : Int) < (valN 0 (DD.take m) : Int)) = true := decide_eq_true (by omega)
        go_wp2_with fail
        go_ret2
        exact ⟨by rw [HE.out]; rfl, rfl⟩
      · have tM : decide ((1099511627776 : Int) < (valN 0 (DD.take m) : Int)) = false := decide_eq_false (by omega)
        rw [if_neg (by omega)] at hE
        have HE := Lib.hid hE
        clear hE
        have t15 : decide ((14 : Int) < (dd.size : Int)) = false := decide_eq_false (by omega)
        go_wp2_with fail
        go_ret2
        exact ⟨by rw [HE.out]; rfl, rfl⟩

set_option maxHeartbeats 800000 in
theorem expR_plus_none (s : ByteArray) (i j : Nat) (w : World) (hs : s.size ≤ 140737488351232) (hi : i < s.size) (hji : j = i + 1) (hl : lowB s[i] = 101) (hj : j < s.size) (h1 : s[j] = 43)
    (RC : Hid (∀ W, Calls Tryd.prog 87 #[.string s, .int .i64 ((j : Int) + 1)] W (Same W (.int .i64 ((j : Int) + 1))))) : Calls Tryd.prog 53 #[.string s, .int .i64 i] w (Same w (.tuple #[.int .i64 0, .int .i64 i])) := by
  have LC := Lib.hid (fun W : World => low_ok s[i] W)
  have t1 : (((lowB s[i]).toNat : Int) != 101) = false := by
    rw [hl]; rfl
  have s1 : (i : Int) + 1 = (j : Int) := by omega
  clear hl
  have t2 : ((s[j].toNat : Int) == 43) = true := by rw [h1]; rfl
  have t3 : ((s[j].toNat : Int) == 45) = false := by rw [h1]; rfl
  clear h1
  clear hji
  go_enter Tryd.func53, Tryd.ntmps53
  go_wp2_with fail
  refine (LC.out _).mono ?_
  rintro e w1 ⟨rfl, rfl⟩
  go_wp2_with fail
  refine (RC.out _).mono ?_
  rintro e w1 ⟨rfl, rfl⟩
  go_wp2_with fail
  go_ret2
  exact ⟨rfl, rfl⟩

set_option maxHeartbeats 1600000 in
theorem expR_plus_some (s : ByteArray) (i j : Nat) (w : World) (hs : s.size ≤ 140737488351232) (hi : i < s.size) (hji : j = i + 1) (hl : lowB s[i] = 101) (hj : j < s.size) (h1 : s[j] = 43) (k : Nat) (hk1 : (j + 1) < k) (hk2 : k ≤ s.size) (DD : List UInt8) (z : Nat) (dg : ByteArray) (hD : s.extract (j + 1) k = dg) (hz : z ≤ dg.size) (hDD : dg.extract z dg.size = bs DD) (hdd : DD.length ≤ 140737488351232)
    (hdig : ∀ x ∈ DD, isDig x = true) (E : Nat) (hE : ∀ q, q ≤ DD.length → (q = DD.length ∨ q = 14) → q ≤ 14 → E = if 1099511627776 < valN 0 (DD.take q) ∨ 14 < DD.length then 1099511627776 else valN 0 (DD.take q))
    (RC : Hid (∀ W, Calls Tryd.prog 87 #[.string s, .int .i64 ((j : Int) + 1)] W (Same W (.int .i64 k)))) (ZC : Hid (∀ W, Calls Tryd.prog 57 #[.string dg] W (Same W (.int .i64 z)))) :
    Calls Tryd.prog 53 #[.string s, .int .i64 i] w (Same w (.tuple #[.int .i64 ((E : Int)), .int .i64 k])) := by
  have HEE := Lib.hid hE
  have HDIG := Lib.hid hdig
  have HS := Lib.hid (bs_size DD)
  have HL := Lib.hid (bs_list DD)
  have tne : ((k : Int) == ((j : Int) + 1)) = false := by rw [beq_eq_false_iff_ne]; omega
  clear hE hdig
  obtain ⟨dd, hdd2⟩ : ∃ dd, dd = bs DD := ⟨_, rfl⟩
  rw [← hdd2] at hDD HS HL
  clear hdd2
  have hsz : dd.size ≤ 140737488351232 := by rw [HS.out]; exact hdd
  clear hdd
  have LC := Lib.hid (fun W : World => low_ok s[i] W)
  have t1 : (((lowB s[i]).toNat : Int) != 101) = false := by
    rw [hl]; rfl
  have s1 : (i : Int) + 1 = (j : Int) := by omega
  clear hl
  have t2 : ((s[j].toNat : Int) == 43) = true := by rw [h1]; rfl
  have t3 : ((s[j].toNat : Int) == 45) = false := by rw [h1]; rfl
  clear h1
  clear hji
  go_enter Tryd.func53, Tryd.ntmps53
  go_wp2_with fail
  refine (LC.out _).mono ?_
  rintro e w1 ⟨rfl, rfl⟩
  go_wp2_with fail
  refine (RC.out _).mono ?_
  rintro e w1 ⟨rfl, rfl⟩
  go_wp2_with fail
  refine (ZC.out _).mono ?_
  rintro e w1 ⟨rfl, rfl⟩
  go_wp2_with fail
  go_loop [10, 11] (fun n q => ∃ m : Nat, m ≤ dd.size ∧ m ≤ 14 ∧ q = .int .i64 m ∧ n = .int .i64 (valN 0 (DD.take m) : Int)) (fun _ q => 14 - (intOf q).toNat)
  case atStart => exact ⟨0, by omega, by omega, rfl, rfl⟩
  case round =>
    obtain ⟨m, hm1, hm2, rfl, rfl⟩ := hrel
    have hv : valN 0 (DD.take m) ≤ 100000000000000 := valN_le (fun x hx => HDIG.out x (List.mem_of_mem_take hx)) (by rw [List.length_take]; omega)
    by_cases hlt : m < dd.size
    · by_cases h14 : m < 14
      · have hg : DD.take (m + 1) = DD.take m ++ [dd[m]] := by
          have hl : m < DD.length := by rw [← HS.out]; exact hlt
          rw [List.take_succ_eq_append_getElem hl]
          congr 2
          rw [← get_atB dd m hlt, HL.out]
          unfold atB
          rw [List.getD_eq_getElem?_getD, List.getElem?_eq_getElem hl]; rfl
        have hdm : 48 ≤ dd[m].toNat ∧ dd[m].toNat ≤ 57 := isDig_iff.1 (HDIG.out _ (List.mem_of_mem_take (i := m + 1) (by rw [hg]; simp)))
        have HN := Lib.hid (show (valN 0 (DD.take (m + 1)) : Int) = 10 * (valN 0 (DD.take m) : Int) + ((dd[m].toNat : Int) - 48) by rw [hg, valN_snoc]; omega)
        clear hg
        obtain ⟨d1, d2⟩ := hdm
        generalize hvv : valN 0 (DD.take m) = vv at *
        clear hvv
        have q1 : IntKind.u8.wrap ((dd[m].toNat : Int) - 48) = (dd[m].toNat : Int) - 48 := by unfold IntKind.wrap; simp [IntKind.bits, IntKind.signed]; omega
        go_wp2_with fail
        go_round
        case rel => exact ⟨m + 1, by omega, by omega, by go_num, by rw [HN.out]⟩
        case measure => simp [intOf]; omega
      · have t14 : decide ((m : Int) < 14) = false := decide_eq_false (by omega)
        have hE := HEE.out m (by rw [← HS.out]; omega) (Or.inr (by omega)) (by omega)
        rw [← HS.out] at hE
        by_cases hM : 1099511627776 < valN 0 (DD.take m)
        · rw [if_pos (Or.inl hM)] at hE
          have HE := Lib.hid hE
          clear hE
          have tM : decide ((1099511627776 : Int) < (valN 0 (DD.take m) : Int)) = true := decide_eq_true (by omega)
          go_wp2_with fail
          go_ret2
          exact ⟨by rw [HE.out]; rfl, rfl⟩
        · have tM : decide ((1099511627776 : Int) < (valN 0 (DD.take m) : Int)) = false := decide_eq_false (by omega)
          by_cases h15 : 14 < dd.size
          · rw [if_pos (Or.inr h15)] at hE
            have HE := Lib.hid hE
            clear hE
            have t15 : decide ((14 : Int) < (dd.size : Int)) = true := decide_eq_true (by omega)
            go_wp2_with fail
            go_ret2
            exact ⟨by rw [HE.out]; rfl, rfl⟩
          · rw [if_neg (by omega)] at hE
            have HE := Lib.hid hE
            clear hE
            have t15 : decide ((14 : Int) < (dd.size : Int)) = false := decide_eq_false (by omega)
            go_wp2_with fail
            go_ret2
            exact ⟨by rw [HE.out]; rfl, rfl⟩
    · have hE := HEE.out m (by rw [← HS.out]; omega) (Or.inl (by rw [← HS.out]; omega)) (by omega)
      rw [← HS.out] at hE
      by_cases hM : 1099511627776 < valN 0 (DD.take m)
      · rw [if_pos (Or.inl hM)] at hE
        have HE := Lib.hid hE
        clear hE
        have tM : decide ((1099511627776 : Int) < (valN 0 (DD.take m) : Int)) = true := decide_eq_true (by omega)
        go_wp2_with fail
        go_ret2
        exact ⟨by rw [HE.out]; rfl, rfl⟩
      · have tM : decide ((1099511627776 : Int) < (valN 0 (DD.take m) : Int)) = false := decide_eq_false (by omega)
        rw [if_neg (by omega)] at hE
        have HE := Lib.hid hE
        clear hE
        have t15 : decide ((14 : Int) < (dd.size : Int)) = false := decide_eq_false (by omega)
        go_wp2_with fail
        go_ret2
        exact ⟨by rw [HE.out]; rfl, rfl⟩

set_option maxHeartbeats 800000 in
theorem expR_bare_none (s : ByteArray) (i j : Nat) (w : World) (hs : s.size ≤ 140737488351232) (hi : i < s.size) (hji : j = i + 1) (hl : lowB s[i] = 101) (hj : j < s.size) (t2 : ((s[j].toNat : Int) == 45) = false) (t3 : ((s[j].toNat : Int) == 43) = false)
    (RC : Hid (∀ W, Calls Tryd.prog 87 #[.string s, .int .i64 (j : Int)] W (Same W (.int .i64 (j : Int))))) : Calls Tryd.prog 53 #[.string s, .int .i64 i] w (Same w (.tuple #[.int .i64 0, .int .i64 i])) := by
  have LC := Lib.hid (fun W : World => low_ok s[i] W)
  have t1 : (((lowB s[i]).toNat : Int) != 101) = false := by
    rw [hl]; rfl
  have s1 : (i : Int) + 1 = (j : Int) := by omega
  clear hl
  clear hji
  go_enter Tryd.func53, Tryd.ntmps53
  go_wp2_with fail
  refine (LC.out _).mono ?_
  rintro e w1 ⟨rfl, rfl⟩
  go_wp2_with fail
  refine (RC.out _).mono ?_
  rintro e w1 ⟨rfl, rfl⟩
  go_wp2_with fail
  go_ret2
  exact ⟨rfl, rfl⟩

set_option maxHeartbeats 1600000 in
theorem expR_bare_some (s : ByteArray) (i j : Nat) (w : World) (hs : s.size ≤ 140737488351232) (hi : i < s.size) (hji : j = i + 1) (hl : lowB s[i] = 101) (hj : j < s.size) (t2 : ((s[j].toNat : Int) == 45) = false) (t3 : ((s[j].toNat : Int) == 43) = false) (k : Nat) (hk1 : j < k) (hk2 : k ≤ s.size) (DD : List UInt8) (z : Nat) (dg : ByteArray) (hD : s.extract j k = dg) (hz : z ≤ dg.size) (hDD : dg.extract z dg.size = bs DD) (hdd : DD.length ≤ 140737488351232)
    (hdig : ∀ x ∈ DD, isDig x = true) (E : Nat) (hE : ∀ q, q ≤ DD.length → (q = DD.length ∨ q = 14) → q ≤ 14 → E = if 1099511627776 < valN 0 (DD.take q) ∨ 14 < DD.length then 1099511627776 else valN 0 (DD.take q))
    (RC : Hid (∀ W, Calls Tryd.prog 87 #[.string s, .int .i64 (j : Int)] W (Same W (.int .i64 k)))) (ZC : Hid (∀ W, Calls Tryd.prog 57 #[.string dg] W (Same W (.int .i64 z)))) :
    Calls Tryd.prog 53 #[.string s, .int .i64 i] w (Same w (.tuple #[.int .i64 ((E : Int)), .int .i64 k])) := by
  have HEE := Lib.hid hE
  have HDIG := Lib.hid hdig
  have HS := Lib.hid (bs_size DD)
  have HL := Lib.hid (bs_list DD)
  have tne : ((k : Int) == (j : Int)) = false := by rw [beq_eq_false_iff_ne]; omega
  clear hE hdig
  obtain ⟨dd, hdd2⟩ : ∃ dd, dd = bs DD := ⟨_, rfl⟩
  rw [← hdd2] at hDD HS HL
  clear hdd2
  have hsz : dd.size ≤ 140737488351232 := by rw [HS.out]; exact hdd
  clear hdd
  have LC := Lib.hid (fun W : World => low_ok s[i] W)
  have t1 : (((lowB s[i]).toNat : Int) != 101) = false := by
    rw [hl]; rfl
  have s1 : (i : Int) + 1 = (j : Int) := by omega
  clear hl
  clear hji
  go_enter Tryd.func53, Tryd.ntmps53
  go_wp2_with fail
  refine (LC.out _).mono ?_
  rintro e w1 ⟨rfl, rfl⟩
  go_wp2_with fail
  refine (RC.out _).mono ?_
  rintro e w1 ⟨rfl, rfl⟩
  go_wp2_with fail
  refine (ZC.out _).mono ?_
  rintro e w1 ⟨rfl, rfl⟩
  go_wp2_with fail
  go_loop [10, 11] (fun n q => ∃ m : Nat, m ≤ dd.size ∧ m ≤ 14 ∧ q = .int .i64 m ∧ n = .int .i64 (valN 0 (DD.take m) : Int)) (fun _ q => 14 - (intOf q).toNat)
  case atStart => exact ⟨0, by omega, by omega, rfl, rfl⟩
  case round =>
    obtain ⟨m, hm1, hm2, rfl, rfl⟩ := hrel
    have hv : valN 0 (DD.take m) ≤ 100000000000000 := valN_le (fun x hx => HDIG.out x (List.mem_of_mem_take hx)) (by rw [List.length_take]; omega)
    by_cases hlt : m < dd.size
    · by_cases h14 : m < 14
      · have hg : DD.take (m + 1) = DD.take m ++ [dd[m]] := by
          have hl : m < DD.length := by rw [← HS.out]; exact hlt
          rw [List.take_succ_eq_append_getElem hl]
          congr 2
          rw [← get_atB dd m hlt, HL.out]
          unfold atB
          rw [List.getD_eq_getElem?_getD, List.getElem?_eq_getElem hl]; rfl
        have hdm : 48 ≤ dd[m].toNat ∧ dd[m].toNat ≤ 57 := isDig_iff.1 (HDIG.out _ (List.mem_of_mem_take (i := m + 1) (by rw [hg]; simp)))
        have HN := Lib.hid (show (valN 0 (DD.take (m + 1)) : Int) = 10 * (valN 0 (DD.take m) : Int) + ((dd[m].toNat : Int) - 48) by rw [hg, valN_snoc]; omega)
        clear hg
        obtain ⟨d1, d2⟩ := hdm
        generalize hvv : valN 0 (DD.take m) = vv at *
        clear hvv
        have q1 : IntKind.u8.wrap ((dd[m].toNat : Int) - 48) = (dd[m].toNat : Int) - 48 := by unfold IntKind.wrap; simp [IntKind.bits, IntKind.signed]; omega
        go_wp2_with fail
        go_round
        case rel => exact ⟨m + 1, by omega, by omega, by go_num, by rw [HN.out]⟩
        case measure => simp [intOf]; omega
      · have t14 : decide ((m : Int) < 14) = false := decide_eq_false (by omega)
        have hE := HEE.out m (by rw [← HS.out]; omega) (Or.inr (by omega)) (by omega)
        rw [← HS.out] at hE
        by_cases hM : 1099511627776 < valN 0 (DD.take m)
        · rw [if_pos (Or.inl hM)] at hE
          have HE := Lib.hid hE
          clear hE
          have tM : decide ((1099511627776 : Int) < (valN 0 (DD.take m) : Int)) = true := decide_eq_true (by omega)
          go_wp2_with fail
          go_ret2
          exact ⟨by rw [HE.out]; rfl, rfl⟩
        · have tM : decide ((1099511627776 : Int) < (valN 0 (DD.take m) : Int)) = false := decide_eq_false (by omega)
          by_cases h15 : 14 < dd.size
          · rw [if_pos (Or.inr h15)] at hE
            have HE := Lib.hid hE
            clear hE
            have t15 : decide ((14 : Int) < (dd.size : Int)) = true := decide_eq_true (by omega)
            go_wp2_with fail
            go_ret2
            exact ⟨by rw [HE.out]; rfl, rfl⟩
          · rw [if_neg (by omega)] at hE
            have HE := Lib.hid hE
            clear hE
            have t15 : decide ((14 : Int) < (dd.size : Int)) = false := decide_eq_false (by omega)
            go_wp2_with fail
            go_ret2
            exact ⟨by rw [HE.out]; rfl, rfl⟩
    · have hE := HEE.out m (by rw [← HS.out]; omega) (Or.inl (by rw [← HS.out]; omega)) (by omega)
      rw [← HS.out] at hE
      by_cases hM : 1099511627776 < valN 0 (DD.take m)
      · rw [if_pos (Or.inl hM)] at hE
        have HE := Lib.hid hE
        clear hE
        have tM : decide ((1099511627776 : Int) < (valN 0 (DD.take m) : Int)) = true := decide_eq_true (by omega)
        go_wp2_with fail
        go_ret2
        exact ⟨by rw [HE.out]; rfl, rfl⟩
      · have tM : decide ((1099511627776 : Int) < (valN 0 (DD.take m) : Int)) = false := decide_eq_false (by omega)
        rw [if_neg (by omega)] at hE
        have HE := Lib.hid hE
        clear hE
        have t15 : decide ((14 : Int) < (dd.size : Int)) = false := decide_eq_false (by omega)
        go_wp2_with fail
        go_ret2
        exact ⟨by rw [HE.out]; rfl, rfl⟩

set_option maxHeartbeats 800000 in
theorem expR_end_none (s : ByteArray) (i j : Nat) (w : World) (hs : s.size ≤ 140737488351232) (hi : i < s.size) (hji : j = i + 1) (hl : lowB s[i] = 101) (hj : ¬ j < s.size) (hj2 : j ≤ s.size)
    (RC : Hid (∀ W, Calls Tryd.prog 87 #[.string s, .int .i64 (j : Int)] W (Same W (.int .i64 (j : Int))))) : Calls Tryd.prog 53 #[.string s, .int .i64 i] w (Same w (.tuple #[.int .i64 0, .int .i64 i])) := by
  have LC := Lib.hid (fun W : World => low_ok s[i] W)
  have t1 : (((lowB s[i]).toNat : Int) != 101) = false := by
    rw [hl]; rfl
  have s1 : (i : Int) + 1 = (j : Int) := by omega
  clear hl
  clear hji
  go_enter Tryd.func53, Tryd.ntmps53
  go_wp2_with fail
  refine (LC.out _).mono ?_
  rintro e w1 ⟨rfl, rfl⟩
  go_wp2_with fail
  refine (RC.out _).mono ?_
  rintro e w1 ⟨rfl, rfl⟩
  go_wp2_with fail
  go_ret2
  exact ⟨rfl, rfl⟩


theorem expS_head {l : List UInt8} (h : atB l 0 = 101 ∨ atB l 0 = 69) : (atB l 0 == 101 || atB l 0 == 69) = true := by
  rcases h with h | h <;> rw [h] <;> rfl

theorem expR_ok (s : ByteArray) (i : Nat) (w : World) (hs : s.size ≤ 140737488351232) (hi : i ≤ s.size) : Calls Tryd.prog 53 #[.string s, .int .i64 i] w (Same w (expV s.data.toList i)) := by
  have hm : s.size ≤ maxLen := by unfold maxLen; omega
  have el := Lib.size_eq s
  unfold expV
  by_cases hl : i < s.size ∧ lowB (atB s.data.toList i) = 101
  · obtain ⟨hlt, hl⟩ := hl
    have hl' := hl
    rw [get_atB s i hlt] at hl
    have h0 : (atB (s.data.toList.drop i) 0 == 101 || atB (s.data.toList.drop i) 0 == 69) = true := by
      rw [atB_drop, Nat.add_zero, ← low_e, hl']; rfl
    have a1 : atB (s.data.toList.drop i) 1 = atB s.data.toList (i + 1) := atB_drop _ _ _
    have key : ∀ (sg : Nat), expSg (s.data.toList.drop i) = sg → i + 1 + sg ≤ s.size →
        expS (s.data.toList.drop i) = if spanN isDig (s.data.toList.drop (i + 1 + sg)) = 0 then (0, 0)
          else (if atB (s.data.toList.drop i) 1 == 45 then - (satS 0 ((s.data.toList.drop (i + 1 + sg)).takeWhile isDig) : Int) else satS 0 ((s.data.toList.drop (i + 1 + sg)).takeWhile isDig), 1 + sg + spanN isDig (s.data.toList.drop (i + 1 + sg))) := by
      intro sg hsg _
      unfold expS
      rw [if_pos h0, hsg, List.drop_drop, show i + (1 + sg) = i + 1 + sg by omega]
    have parts : ∀ j, j ≤ s.size → ∀ k, k = j + spanN isDig (s.data.toList.drop j) → k ≤ s.size ∧
        s.extract j k = bs ((s.data.toList.drop j).takeWhile isDig) ∧
        spanN isZero ((s.data.toList.drop j).takeWhile isDig) ≤ (bs ((s.data.toList.drop j).takeWhile isDig)).size ∧
        (bs ((s.data.toList.drop j).takeWhile isDig)).extract (spanN isZero ((s.data.toList.drop j).takeWhile isDig)) (bs ((s.data.toList.drop j).takeWhile isDig)).size = bs (trimL ((s.data.toList.drop j).takeWhile isDig)) ∧
        (trimL ((s.data.toList.drop j).takeWhile isDig)).length ≤ 140737488351232 ∧ (∀ x ∈ trimL ((s.data.toList.drop j).takeWhile isDig), isDig x = true) ∧
        (∀ q, q ≤ (trimL ((s.data.toList.drop j).takeWhile isDig)).length → (q = (trimL ((s.data.toList.drop j).takeWhile isDig)).length ∨ q = 14) → q ≤ 14 → satS 0 ((s.data.toList.drop j).takeWhile isDig) = if 1099511627776 < valN 0 ((trimL ((s.data.toList.drop j).takeWhile isDig)).take q) ∨ 14 < (trimL ((s.data.toList.drop j).takeWhile isDig)).length then 1099511627776 else valN 0 ((trimL ((s.data.toList.drop j).takeWhile isDig)).take q)) ∧
        (∀ W, Calls Tryd.prog 57 #[.string (bs ((s.data.toList.drop j).takeWhile isDig))] W (Same W (.int .i64 (spanN isZero ((s.data.toList.drop j).takeWhile isDig))))) := by
      intro j hj k hk
      have hall : ∀ x ∈ (s.data.toList.drop j).takeWhile isDig, isDig x = true := fun x hx => mem_tw hx
      have hlen : ((s.data.toList.drop j).takeWhile isDig).length ≤ 140737488351232 := by
        have := (List.takeWhile_sublist (l := s.data.toList.drop j) isDig).length_le
        rw [List.length_drop] at this
        omega
      have h1 := spanN_drop_le isDig s j hj
      have h2 := ext_span s j
      rw [← hk] at h2
      generalize (s.data.toList.drop j).takeWhile isDig = D at *
      refine ⟨by omega, h2, by rw [bs_size]; exact spanN_le _ _, ?_, by have := trimL_len D; omega, fun x hx => hall x (mem_trimL hx), fun q h1 h2 h3 => sat_exit hall q h1 h2 h3, fun W => ?_⟩
      · rw [extract_bs, bs_list, bs_size, trimL_span, List.take_of_length_le]
        rw [← trimL_span, List.length_drop]; omega
      · have := zeros_ok (bs D) W (by rw [bs_size]; unfold maxLen; omega)
        rw [bs_list] at this
        exact this
    by_cases hj : i + 1 < s.size
    · have g := get_atB s (i + 1) hj
      by_cases h45 : s[i + 1] = 45
      · have e1 : atB (s.data.toList.drop i) 1 = 45 := by rw [a1, g, h45]
        have hk := key 1 (by unfold expSg; rw [e1]; rfl) (by omega)
        rw [e1] at hk
        obtain ⟨k, hkk⟩ : ∃ k, k = i + 1 + 1 + spanN isDig (s.data.toList.drop (i + 1 + 1)) := ⟨_, rfl⟩
        have RC := Lib.hid (fun W : World => run_ok s (i + 1 + 1) W hm (by omega))
        rw [← hkk, show ((i + 1 + 1 : Nat) : Int) = ((i + 1 : Nat) : Int) + 1 from by omega] at RC
        by_cases hn : spanN isDig (s.data.toList.drop (i + 1 + 1)) = 0
        · rw [if_pos hn] at hk
          rw [hk]
          rw [show (k : Int) = ((i + 1 : Nat) : Int) + 1 by omega] at RC
          exact expR_neg_none s i (i + 1) w hs hlt rfl hl hj h45 RC
        · rw [if_neg hn] at hk
          rw [hk]
          obtain ⟨p1, p2, p3, p4, p5, p6, p7, p8⟩ := parts (i + 1 + 1) (by omega) k hkk
          have := expR_neg_some s i (i + 1) w hs hlt rfl hl hj h45 k (by omega) p1 _ _ _ p2 p3 p4 p5 p6 _ p7 RC (Lib.hid p8)
          rw [show (i + (1 + 1 + spanN isDig (s.data.toList.drop (i + 1 + 1)))) = k by omega]
          exact this
      · have t45 : ((s[i + 1].toNat : Int) == 45) = false := (byte_is _ 45 (by omega)).trans (by simpa using h45)
        have n45 : (atB (s.data.toList.drop i) 1 == 45) = false := by rw [a1, g]; simpa using h45
        by_cases h43 : s[i + 1] = 43
        · have e1 : atB (s.data.toList.drop i) 1 = 43 := by rw [a1, g, h43]
          have hk := key 1 (by unfold expSg; rw [e1]; rfl) (by omega)
          rw [e1] at hk
          obtain ⟨k, hkk⟩ : ∃ k, k = i + 1 + 1 + spanN isDig (s.data.toList.drop (i + 1 + 1)) := ⟨_, rfl⟩
          have RC := Lib.hid (fun W : World => run_ok s (i + 1 + 1) W hm (by omega))
          rw [← hkk, show ((i + 1 + 1 : Nat) : Int) = ((i + 1 : Nat) : Int) + 1 from by omega] at RC
          by_cases hn : spanN isDig (s.data.toList.drop (i + 1 + 1)) = 0
          · rw [if_pos hn] at hk
            rw [hk]
            rw [show (k : Int) = ((i + 1 : Nat) : Int) + 1 by omega] at RC
            exact expR_plus_none s i (i + 1) w hs hlt rfl hl hj h43 RC
          · rw [if_neg hn] at hk
            rw [hk]
            obtain ⟨p1, p2, p3, p4, p5, p6, p7, p8⟩ := parts (i + 1 + 1) (by omega) k hkk
            have := expR_plus_some s i (i + 1) w hs hlt rfl hl hj h43 k (by omega) p1 _ _ _ p2 p3 p4 p5 p6 _ p7 RC (Lib.hid p8)
            rw [show (i + (1 + 1 + spanN isDig (s.data.toList.drop (i + 1 + 1)))) = k by omega]
            exact this
        · have t43 : ((s[i + 1].toNat : Int) == 43) = false := (byte_is _ 43 (by omega)).trans (by simpa using h43)
          have n43 : (atB (s.data.toList.drop i) 1 == 43) = false := by rw [a1, g]; simpa using h43
          have hk := key 0 (by unfold expSg; rw [n45, n43]; rfl) (by omega)
          rw [n45] at hk
          rw [Nat.add_zero] at hk
          obtain ⟨k, hkk⟩ : ∃ k, k = i + 1 + spanN isDig (s.data.toList.drop (i + 1)) := ⟨_, rfl⟩
          have RC := Lib.hid (fun W : World => run_ok s (i + 1) W hm (by omega))
          rw [← hkk] at RC
          by_cases hn : spanN isDig (s.data.toList.drop (i + 1)) = 0
          · rw [if_pos hn] at hk
            rw [hk]
            rw [show (k : Int) = ((i + 1 : Nat) : Int) by omega] at RC
            exact expR_bare_none s i (i + 1) w hs hlt rfl hl hj t45 t43 RC
          · rw [if_neg hn] at hk
            rw [hk]
            obtain ⟨p1, p2, p3, p4, p5, p6, p7, p8⟩ := parts (i + 1) (by omega) k hkk
            have := expR_bare_some s i (i + 1) w hs hlt rfl hl hj t45 t43 k (by omega) p1 _ _ _ p2 p3 p4 p5 p6 _ p7 RC (Lib.hid p8)
            rw [show (i + (1 + 0 + spanN isDig (s.data.toList.drop (i + 1)))) = k by omega]
            exact this
    · have e1 : atB (s.data.toList.drop i) 1 = 0 := by rw [a1, atB_end s _ hj]
      have hk := key 0 (by unfold expSg; rw [e1]; rfl) (by omega)
      have hn : spanN isDig (s.data.toList.drop (i + 1 + 0)) = 0 := by
        rw [List.drop_eq_nil_of_le (by omega)]; rfl
      rw [if_pos hn] at hk
      rw [hk]
      have RC := Lib.hid (fun W : World => run_ok s (i + 1) W hm (by omega))
      rw [Nat.add_zero] at hn
      rw [hn, Nat.add_zero] at RC
      exact expR_end_none s i (i + 1) w hs hlt rfl hl hj (by omega) RC
  · have e0 : (atB (s.data.toList.drop i) 0 == 101 || atB (s.data.toList.drop i) 0 == 69) = false := by
      rw [atB_drop, Nat.add_zero, ← low_e]
      by_cases h : i < s.size
      · rw [beq_eq_false_iff_ne]; exact fun e => hl ⟨h, e⟩
      · rw [atB_end s i h]; rfl
    have e : expS (s.data.toList.drop i) = (0, 0) := by unfold expS; rw [e0]; rfl
    rw [e]
    exact expR_none s i w hs hi (fun h e => hl ⟨h, by rw [get_atB s i h]; exact e⟩)


/-- A number with digits from the first to the last that is not 0. -/
def normV (neg : Bool) (D : List UInt8) (p r : Int) : Value := if trimR (trimL D) = [] then numV false ⟨#[]⟩ 0 0 else numV neg (bs (trimR (trimL D))) (p - spanN isZero D) r

theorem norm_end (a : Act) (X : World) (w : World) (v0 v1 v2 v3 : Value) (hp : a.tmps.getD 2 undef = .pointer (some ⟨w.heap.size + 1, 0, none⟩)) (hd : a.defers = [])
    (hX : CellsAt X (w.heap.size + 1) [.bool false, .string ⟨#[]⟩, .int .i64 0, .int .i64 0]) (hB : Below w.heap.size w X) :
    bodyPost Tryd.prog Tryd.f54 (RetBelow w (.agg #[v0, v1, v2, v3])) Exit.ret a ((((X.setCell ⟨w.heap.size + 1, 0, none⟩ v0).setCell ⟨w.heap.size + 1, 1, none⟩ v1).setCell ⟨w.heap.size + 1, 2, none⟩ v2).setCell ⟨w.heap.size + 1, 3, none⟩ v3) := by
  have C := (((hX.set 0 v0 (by simp)).set 1 v1 (by simp)).set 2 v2 (by simp)).set 3 v3 (by simp)
  have hp2 := hp
  simp only [Array.getD_eq_getD_getElem?] at hp2
  have BX := (((hB.setCell (p := ⟨w.heap.size + 1, 0, none⟩) (by simp) v0).setCell (p := ⟨w.heap.size + 1, 1, none⟩) (by simp) v1).setCell (p := ⟨w.heap.size + 1, 2, none⟩) (by simp) v2).setCell (p := ⟨w.heap.size + 1, 3, none⟩) (by simp) v3
  generalize (((X.setCell ⟨w.heap.size + 1, 0, none⟩ v0).setCell ⟨w.heap.size + 1, 1, none⟩ v1).setCell ⟨w.heap.size + 1, 2, none⟩ v2).setCell ⟨w.heap.size + 1, 3, none⟩ v3 = Y at *
  have c0 := C.cell 0 _ rfl
  have c1 := C.cell 1 _ rfl
  have c2 := C.cell 2 _ rfl
  have c3 := C.cell 3 _ rfl
  exact bodyPost_ret (v := .agg #[v0, v1, v2, v3]) (by simp [results, Tryd.results54, go_sem, hp2, c0, c1, c2, c3]) hd ⟨rfl, BX⟩

set_option maxHeartbeats 1600000 in
theorem norm_none (neg : Bool) (D t : ByteArray) (p r : Int) (z : Nat) (w : World) (hp : -1000000000000000000 ≤ p ∧ p ≤ 1000000000000000000) (sD : D.size ≤ 140737488351232) (hz : z ≤ D.size) (ht : D.extract z D.size = t) (d : ByteArray) (g1 : d.toList.isEmpty = true) (g2 : (d.toList == []) = true) (g3 : d.toList = [])
    (ZC : Hid (∀ W, Calls Tryd.prog 57 #[.string D] W (Same W (.int .i64 z)))) (TC : Hid (∀ W, Calls Tryd.prog 58 #[.string t] W (Same W (.string d)))) :
    Calls Tryd.prog 54 #[.agg #[.bool neg, .string D, .int .i64 p, .int .i64 r]] w (RetBelow w (.agg #[.bool false, .string ⟨#[]⟩, .int .i64 0, .int .i64 0])) := by
  have N0 := Lib.hid ((CellsAt.new w [.bool neg, .string D, .int .i64 p, .int .i64 r] 77).alloc (Obj.cells #[.bool false, .string ⟨#[]⟩, .int .i64 0, .int .i64 0] 77))
  have A0' := CellsAt.new (w.alloc (Obj.cells #[.bool neg, .string D, .int .i64 p, .int .i64 r] 77)) [.bool false, .string ⟨#[]⟩, .int .i64 0, .int .i64 0] 77
  rw [show (w.alloc (Obj.cells #[.bool neg, .string D, .int .i64 p, .int .i64 r] 77)).heap.size = w.heap.size + 1 by simp] at A0'
  have A0 := Lib.hid A0'
  have B0 := Lib.hid (((Below.refl w.heap.size w).alloc (Nat.le_refl _) (Obj.cells #[.bool neg, .string D, .int .i64 p, .int .i64 r] 77)).alloc (by simp) (Obj.cells #[.bool false, .string ⟨#[]⟩, .int .i64 0, .int .i64 0] 77))
  clear A0'
  obtain ⟨p1, p2⟩ := hp
  go_enter Tryd.func54, Tryd.ntmps54
  go_upto_region 1 with fail
  generalize hX : (w.alloc (Obj.cells #[.bool neg, .string D, .int .i64 p, .int .i64 r] 77)).alloc (Obj.cells #[.bool false, .string ⟨#[]⟩, .int .i64 0, .int .i64 0] 77) = x at *
  clear hX
  have n0 := N0.out.cell 0 _ rfl
  have n1 := N0.out.cell 1 _ rfl
  have n2 := N0.out.cell 2 _ rfl
  have n3 := N0.out.cell 3 _ rfl
  have nf1 := N0.out.free 1
  have nf2 := N0.out.free 2
  have a0 := A0.out.cell 0 _ rfl
  have a1 := A0.out.cell 1 _ rfl
  have a2 := A0.out.cell 2 _ rfl
  have a3 := A0.out.cell 3 _ rfl
  have f0 := A0.out.free 0
  have f1 := A0.out.free 1
  have f2 := A0.out.free 2
  have f3 := A0.out.free 3
  go_wp2_with fail
  refine (ZC.out _).mono ?_
  rintro e w1 ⟨rfl, rfl⟩
  go_wp2_with fail
  refine (TC.out _).mono ?_
  rintro e w1 ⟨rfl, rfl⟩
  go_wp2_with fail
  exact norm_end _ _ w _ _ _ _ rfl rfl A0.out B0.out

set_option maxHeartbeats 1600000 in
theorem norm_some (neg : Bool) (D t : ByteArray) (p r : Int) (z : Nat) (w : World) (hp : -1000000000000000000 ≤ p ∧ p ≤ 1000000000000000000) (sD : D.size ≤ 140737488351232) (hz : z ≤ D.size) (ht : D.extract z D.size = t) (d : ByteArray) (g1 : d.toList.isEmpty = false) (g2 : (d.toList == []) = false) (g3 : ¬ d.toList = [])
    (ZC : Hid (∀ W, Calls Tryd.prog 57 #[.string D] W (Same W (.int .i64 z)))) (TC : Hid (∀ W, Calls Tryd.prog 58 #[.string t] W (Same W (.string d)))) :
    Calls Tryd.prog 54 #[.agg #[.bool neg, .string D, .int .i64 p, .int .i64 r]] w (RetBelow w (.agg #[.bool neg, .string d, .int .i64 (p - z), .int .i64 r])) := by
  have N0 := Lib.hid ((CellsAt.new w [.bool neg, .string D, .int .i64 p, .int .i64 r] 77).alloc (Obj.cells #[.bool false, .string ⟨#[]⟩, .int .i64 0, .int .i64 0] 77))
  have A0' := CellsAt.new (w.alloc (Obj.cells #[.bool neg, .string D, .int .i64 p, .int .i64 r] 77)) [.bool false, .string ⟨#[]⟩, .int .i64 0, .int .i64 0] 77
  rw [show (w.alloc (Obj.cells #[.bool neg, .string D, .int .i64 p, .int .i64 r] 77)).heap.size = w.heap.size + 1 by simp] at A0'
  have A0 := Lib.hid A0'
  have B0 := Lib.hid (((Below.refl w.heap.size w).alloc (Nat.le_refl _) (Obj.cells #[.bool neg, .string D, .int .i64 p, .int .i64 r] 77)).alloc (by simp) (Obj.cells #[.bool false, .string ⟨#[]⟩, .int .i64 0, .int .i64 0] 77))
  clear A0'
  obtain ⟨p1, p2⟩ := hp
  go_enter Tryd.func54, Tryd.ntmps54
  go_upto_region 1 with fail
  generalize hX : (w.alloc (Obj.cells #[.bool neg, .string D, .int .i64 p, .int .i64 r] 77)).alloc (Obj.cells #[.bool false, .string ⟨#[]⟩, .int .i64 0, .int .i64 0] 77) = x at *
  clear hX
  have n0 := N0.out.cell 0 _ rfl
  have n1 := N0.out.cell 1 _ rfl
  have n2 := N0.out.cell 2 _ rfl
  have n3 := N0.out.cell 3 _ rfl
  have nf1 := N0.out.free 1
  have nf2 := N0.out.free 2
  have a0 := A0.out.cell 0 _ rfl
  have a1 := A0.out.cell 1 _ rfl
  have a2 := A0.out.cell 2 _ rfl
  have a3 := A0.out.cell 3 _ rfl
  have f0 := A0.out.free 0
  have f1 := A0.out.free 1
  have f2 := A0.out.free 2
  have f3 := A0.out.free 3
  go_wp2_with fail
  refine (ZC.out _).mono ?_
  rintro e w1 ⟨rfl, rfl⟩
  go_wp2_with fail
  refine (TC.out _).mono ?_
  rintro e w1 ⟨rfl, rfl⟩
  have N2 := Lib.hid ((N0.out.set 1 (.string d) (by simp)).set 2 (.int .i64 (p - z)) (by simp))
  have A2 := Lib.hid ((A0.out.other (show w.heap.size ≠ w.heap.size + 1 by omega) 1 (.string d)).other (show w.heap.size ≠ w.heap.size + 1 by omega) 2 (.int .i64 (p - z)))
  have B2 := Lib.hid ((B0.out.setCell (p := ⟨w.heap.size, 1, none⟩) (by simp) (.string d)).setCell (p := ⟨w.heap.size, 2, none⟩) (by simp) (.int .i64 (p - z)))
  have nl := N0.out.lt
  go_upto_region 7 with fail
  generalize hX : (x.setCell ⟨w.heap.size, 1, none⟩ (.string d)).setCell ⟨w.heap.size, 2, none⟩ (.int .i64 (p - z)) = x2 at *
  clear hX n0 n1 n2 n3 nf1 nf2 a0 a1 a2 a3 f0 f1 f2 f3
  have n0 := N2.out.cell 0 _ rfl
  have n1 := N2.out.cell 1 _ rfl
  have n2 := N2.out.cell 2 _ rfl
  have n3 := N2.out.cell 3 _ rfl
  have a0 := A2.out.cell 0 _ rfl
  have a1 := A2.out.cell 1 _ rfl
  have a2 := A2.out.cell 2 _ rfl
  have a3 := A2.out.cell 3 _ rfl
  have f0 := A2.out.free 0
  have f1 := A2.out.free 1
  have f2 := A2.out.free 2
  have f3 := A2.out.free 3
  go_wp2_with fail
  exact norm_end _ _ w _ _ _ _ rfl rfl A2.out B2.out


theorem norm_ok (neg : Bool) (D : List UInt8) (p r : Int) (w : World) (hp : -1000000000000000000 ≤ p ∧ p ≤ 1000000000000000000) (hD : D.length ≤ 140737488351232) :
    Calls Tryd.prog 54 #[numV neg (bs D) p r] w (RetBelow w (normV neg D p r)) := by
  have ZC := Lib.hid (fun W : World => zeros_ok (bs D) W (by rw [bs_size]; unfold maxLen; omega))
  have TC := Lib.hid (fun W : World => trimmed_ok (bs (trimL D)) W (by rw [bs_size]; have := trimL_len D; unfold maxLen; omega))
  rw [bs_list] at ZC TC
  have ht : (bs D).extract (spanN isZero D) (bs D).size = bs (trimL D) := by
    rw [extract_bs, bs_list, bs_size, trimL_span, List.take_of_length_le]
    rw [← trimL_span, List.length_drop]; omega
  have hz : spanN isZero D ≤ (bs D).size := by rw [bs_size]; exact spanN_le _ _
  unfold normV numV
  by_cases h : trimR (trimL D) = []
  · rw [if_pos h]
    have hf : (bs (trimR (trimL D))).toList.isEmpty = true ∧ ((bs (trimR (trimL D))).toList == []) = true ∧ (bs (trimR (trimL D))).toList = [] := by rw [h, Lib.toList_data, bs_list]; exact ⟨rfl, rfl, rfl⟩
    exact norm_none neg _ _ p r _ w hp (by rw [bs_size]; exact hD) hz ht _ hf.1 hf.2.1 hf.2.2 ZC TC
  · rw [if_neg h]
    have hf := bs_more h
    exact norm_some neg _ _ p r _ w hp (by rw [bs_size]; exact hD) hz ht _ hf.1 hf.2.1 hf.2.2 ZC TC

end Go.Proofs.YtpbbgmfjdachnaaDoor
