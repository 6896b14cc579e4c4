/- The document's answer for numbers: exponents, Norm, General; numeral's General, of texts of any length. -/
import Derived.Test.YtgpcmlbmmcnkjaaGreatDoorNumRefM
namespace Go.Proofs.YtgpcmlbmmcnkjaaGreatDoor.Num
open Go.RowKit
section


theorem fracJ (r : List UInt8) : (fracS r).length ≤ fracN r ∧ fracN r ≤ r.length := by
  unfold fracS fracN
  by_cases k : (atB r 0 == 46) = true
  · rw [if_pos k, if_pos k]
    cases r with
    | nil => cases k
    | cons x r => have := spanN_le isDig r; unfold spanN at this ⊢; simp; omega
  · rw [if_neg k, if_neg k]; exact ⟨Nat.le_refl _, Nat.zero_le _⟩
theorem numberS_joint (r1 : List UInt8) (g neg : Bool) (base : Nat) : (numberS r1 g neg base).whole.length + (numberS r1 g neg base).frac.length ≤ r1.length := by
  have h1 := (fracJ (r1.dropWhile isDig)).1
  have h2 := (fracJ (r1.dropWhile isDig)).2
  have h3 := congrArg List.length (List.takeWhile_append_dropWhile (p := isDig) (l := r1))
  rw [List.length_append] at h3
  unfold numberS
  split
  · show 0 + 0 ≤ _; omega
  · split
    · show (r1.takeWhile isDig).length + (fracS (r1.dropWhile isDig)).length ≤ _; omega
    · show (r1.takeWhile isDig).length + (fracS (r1.dropWhile isDig)).length ≤ _; omega
theorem scanS_joint (l : List UInt8) (g : Bool) : (scanS l g).whole.length + (scanS l g).frac.length ≤ l.length := by
  unfold scanS
  simp only
  split
  · show 0 + 0 ≤ _; omega
  · refine Nat.le_trans (numberS_joint _ _ _ _) ?_
    rw [List.length_drop, List.length_drop]; omega

set_option maxRecDepth 100000
end

section


def valN : Nat → List UInt8 → Nat
  | e, [] => e
  | e, c :: r => valN (10 * e + (c.toNat - 48)) r
theorem valN_app : ∀ (a : List UInt8) (e : Nat) (b : List UInt8), valN e (a ++ b) = valN (valN e a) b
  | [], _, _ => rfl
  | _ :: a, _, b => valN_app a _ b
theorem valN_snoc (e : Nat) (a : List UInt8) (c : UInt8) : valN e (a ++ [c]) = 10 * valN e a + (c.toNat - 48) := valN_app a e [c]
theorem satS_val : ∀ (r : List UInt8) (e : Nat), satS (min e 1099511627776) r = min (valN e r) 1099511627776
  | [], e => rfl
  | c :: r, e => by
    have h := satS_val r (10 * e + (c.toNat - 48))
    show satS (min (10 * (min e 1099511627776) + (c.toNat - 48)) 1099511627776) r = min (valN (10 * e + (c.toNat - 48)) r) 1099511627776
    rw [← h]
    congr 1
    omega
theorem satS_min (r : List UInt8) : satS 0 r = min (valN 0 r) 1099511627776 := satS_val r 0
theorem valN_zeros : ∀ (l : List UInt8), valN 0 l = valN 0 (trimL l)
  | [] => rfl
  | c :: r => by
    rw [trimL_eq]
    by_cases h : c = 48
    · subst h
      show valN (10 * 0 + 0) r = _
      rw [valN_zeros r, trimL_eq]
      rfl
    · rw [List.dropWhile_cons_of_neg (by simpa using h)]
theorem valN_ge : ∀ (r : List UInt8) (e : Nat), e * 10 ^ r.length ≤ valN e r
  | [], e => by show e * 1 ≤ e; omega
  | c :: r, e => by
    have h := valN_ge r (10 * e + (c.toNat - 48))
    show _ ≤ valN (10 * e + (c.toNat - 48)) r
    refine Nat.le_trans ?_ h
    rw [List.length_cons, Nat.pow_succ, show e * (10 ^ r.length * 10) = (10 * e) * 10 ^ r.length by rw [Nat.mul_comm (10 ^ r.length) 10, ← Nat.mul_assoc, Nat.mul_comm e 10]]
    exact Nat.mul_le_mul_right _ (by omega)
theorem valN_lt : ∀ (r : List UInt8) (e : Nat), (∀ x ∈ r, isDig x = true) → valN e r < (e + 1) * 10 ^ r.length
  | [], e, _ => by show e < (e + 1) * 1; omega
  | c :: r, e, hd => by
    have hc := isDig_iff.1 (hd c (by simp))
    have h := valN_lt r (10 * e + (c.toNat - 48)) (fun x hx => hd x (by simp [hx]))
    show valN (10 * e + (c.toNat - 48)) r < _
    refine Nat.lt_of_lt_of_le h ?_
    rw [List.length_cons, Nat.pow_succ, show (e + 1) * (10 ^ r.length * 10) = (10 * (e + 1)) * 10 ^ r.length by rw [Nat.mul_comm (10 ^ r.length) 10, ← Nat.mul_assoc, Nat.mul_comm (e + 1) 10]]
    exact Nat.mul_le_mul_right _ (by omega)
theorem valN_le {r : List UInt8} (hd : ∀ x ∈ r, isDig x = true) (h : r.length ≤ 14) : valN 0 r ≤ 100000000000000 := by
  have h1 := valN_lt r 0 hd
  have h2 : 10 ^ r.length ≤ 10 ^ 14 := Nat.pow_le_pow_right (by omega) h
  omega
theorem trimL_head {l : List UInt8} {c : UInt8} {r : List UInt8} (h : trimL l = c :: r) : c ≠ 48 := by
  rw [trimL_eq] at h
  intro hc
  subst hc
  have := List.head_dropWhile_not (p := fun x : UInt8 => x == 48) (l := l) (by rw [h]; simp)
  simp [h] at this
theorem sat_exit {D : List UInt8} (hd : ∀ x ∈ D, isDig x = true) (k : Nat) (hk : k ≤ (trimL D).length) (hx : k = (trimL D).length ∨ k = 14) (h14 : k ≤ 14) :
    satS 0 D = if 1099511627776 < valN 0 ((trimL D).take k) ∨ 14 < (trimL D).length then 1099511627776 else valN 0 ((trimL D).take k) := by
  rw [satS_min, valN_zeros]
  rcases Nat.lt_or_ge 14 (trimL D).length with h | h
  · rw [if_pos (Or.inr h)]
    have : 100000000000000 ≤ valN 0 (trimL D) := by
      cases ht : trimL D with
      | nil => rw [ht] at h; simp at h
      | cons c r =>
        have hc := trimL_head ht
        have hcd := isDig_iff.1 (hd c (mem_trimL (by rw [ht]; simp)))
        have hge := valN_ge r (10 * 0 + (c.toNat - 48))
        rw [ht, List.length_cons] at h
        have h2 : 10 ^ 14 ≤ 10 ^ r.length := Nat.pow_le_pow_right (by omega) (by omega)
        have h3 : 1 ≤ c.toNat - 48 := by
          have : c.toNat ≠ 48 := fun e => hc (UInt8.toNat_inj.1 e)
          omega
        show 100000000000000 ≤ valN (10 * 0 + (c.toNat - 48)) r
        have h4 : 1 * 10 ^ r.length ≤ (10 * 0 + (c.toNat - 48)) * 10 ^ r.length := Nat.mul_le_mul_right _ (by omega)
        omega
    omega
  · have e : (trimL D).take k = trimL D := List.take_of_length_le (by omega)
    rw [e]
    by_cases hM : 1099511627776 < valN 0 (trimL D)
    · rw [if_pos (Or.inl hM)]; omega
    · rw [if_neg (by omega)]; omega

theorem mem_tw {p : UInt8 → Bool} : ∀ {l : List UInt8} {x : UInt8}, x ∈ l.takeWhile p → p x = true
  | [], _, h => by cases h
  | y :: l, x, h => by
    by_cases e : p y = true
    · simp only [List.takeWhile_cons, e, if_true, List.mem_cons] at h
      rcases h with rfl | h
      · exact e
      · exact mem_tw h
    · simp [List.takeWhile_cons, e] at h
theorem low_e : ∀ x : UInt8, (lowB x == 101) = (x == 101 || x == 69) := by
  have h : ∀ x : Fin 256, (lowB (UInt8.ofNat x) == 101) = (UInt8.ofNat x == 101 || UInt8.ofNat x == 69) := by decide +kernel
  intro x
  have := h ⟨x.toNat, x.toNat_lt⟩
  simpa using this

def expV (l : List UInt8) (i : Nat) : Value := .tuple #[.int .i64 (expS (l.drop i)).1, .int .i64 ((i + (expS (l.drop i)).2 : Nat) : Int)]

set_option maxRecDepth 100000
theorem expR_none (s : ByteArray) (i : Nat) (w : World) (hs : s.size ≤ 140737488351232) (hi : i ≤ s.size) (hl : ∀ h : i < s.size, lowB s[i] ≠ 101) : Calls Tryz.prog 95 #[.string s, .int .i64 i] w (Same w (.tuple #[.int .i64 0, .int .i64 i])) := by
  by_cases h : i < s.size
  · have LC := Lib.hid (fun W : World => low_ok s[i] W)
    have t := byte_is (lowB s[i]) 101 (by omega)
    have t1 : (((lowB s[i]).toNat : Int) != 101) = true := by
      have : (((lowB s[i]).toNat : Int) == 101) = false := t.trans (by simpa using hl h)
      simp only [bne, this]; rfl
    clear t hl
    go_enter Tryz.func95, Tryz.ntmps95
    go_wp2_with fail
    refine (LC.out _).mono ?_
    rintro e w1 ⟨rfl, rfl⟩
    go_wp2_with fail
    go_ret2
    exact ⟨rfl, rfl⟩
  · clear hl
    go_enter Tryz.func95, Tryz.ntmps95
    go_wp2_with fail
    go_ret2
    exact ⟨rfl, rfl⟩

set_option maxHeartbeats 800000 in
theorem expR_neg_none (s : ByteArray) (i j : Nat) (w : World) (hs : s.size ≤ 140737488351232) (hi : i < s.size) (hji : j = i + 1) (hl : lowB s[i] = 101) (hj : j < s.size) (h1 : s[j] = 45)
    (RC : Hid (∀ W, Calls Tryz.prog 115 #[.string s, .int .i64 ((j : Int) + 1)] W (Same W (.int .i64 ((j : Int) + 1))))) : Calls Tryz.prog 95 #[.string s, .int .i64 i] w (Same w (.tuple #[.int .i64 0, .int .i64 i])) := by
  have LC := Lib.hid (fun W : World => low_ok s[i] W)
  have t1 : (((lowB s[i]).toNat : Int) != 101) = false := by
    rw [hl]; rfl
  have s1 : (i : Int) + 1 = (j : Int) := by omega
  clear hl
  have t2 : ((s[j].toNat : Int) == 45) = true := by rw [h1]; rfl
  clear h1
  clear hji
  go_enter Tryz.func95, Tryz.ntmps95
  go_wp2_with fail
  refine (LC.out _).mono ?_
  rintro e w1 ⟨rfl, rfl⟩
  go_wp2_with fail
  refine (RC.out _).mono ?_
  rintro e w1 ⟨rfl, rfl⟩
  go_wp2_with fail
  go_ret2
  exact ⟨rfl, rfl⟩

set_option maxHeartbeats 1600000 in
theorem expR_neg_some (s : ByteArray) (i j : Nat) (w : World) (hs : s.size ≤ 140737488351232) (hi : i < s.size) (hji : j = i + 1) (hl : lowB s[i] = 101) (hj : j < s.size) (h1 : s[j] = 45) (k : Nat) (hk1 : (j + 1) < k) (hk2 : k ≤ s.size) (DD : List UInt8) (z : Nat) (dg : ByteArray) (hD : s.extract (j + 1) k = dg) (hz : z ≤ dg.size) (hDD : dg.extract z dg.size = bs DD) (hdd : DD.length ≤ 140737488351232)
    (hdig : ∀ x ∈ DD, isDig x = true) (E : Nat) (hE : ∀ q, q ≤ DD.length → (q = DD.length ∨ q = 14) → q ≤ 14 → E = if 1099511627776 < valN 0 (DD.take q) ∨ 14 < DD.length then 1099511627776 else valN 0 (DD.take q))
    (RC : Hid (∀ W, Calls Tryz.prog 115 #[.string s, .int .i64 ((j : Int) + 1)] W (Same W (.int .i64 k)))) (ZC : Hid (∀ W, Calls Tryz.prog 110 #[.string dg] W (Same W (.int .i64 z)))) :
    Calls Tryz.prog 95 #[.string s, .int .i64 i] w (Same w (.tuple #[.int .i64 (-(E : Int)), .int .i64 k])) := by
  have HEE := Lib.hid hE
  have HDIG := Lib.hid hdig
  have HS := Lib.hid (bs_size DD)
  have HL := Lib.hid (bs_list DD)
  have tne : ((k : Int) == ((j : Int) + 1)) = false := by rw [beq_eq_false_iff_ne]; omega
  clear hE hdig
  obtain ⟨dd, hdd2⟩ : ∃ dd, dd = bs DD := ⟨_, rfl⟩
  rw [← hdd2] at hDD HS HL
  clear hdd2
  have hsz : dd.size ≤ 140737488351232 := by rw [HS.out]; exact hdd
  clear hdd
  have LC := Lib.hid (fun W : World => low_ok s[i] W)
  have t1 : (((lowB s[i]).toNat : Int) != 101) = false := by
    rw [hl]; rfl
  have s1 : (i : Int) + 1 = (j : Int) := by omega
  clear hl
  have t2 : ((s[j].toNat : Int) == 45) = true := by rw [h1]; rfl
  clear h1
  clear hji
  go_enter Tryz.func95, Tryz.ntmps95
  go_wp2_with fail
  refine (LC.out _).mono ?_
  rintro e w1 ⟨rfl, rfl⟩
  go_wp2_with fail
  refine (RC.out _).mono ?_
  rintro e w1 ⟨rfl, rfl⟩
  go_wp2_with fail
  refine (ZC.out _).mono ?_
  rintro e w1 ⟨rfl, rfl⟩
  go_wp2_with fail
  go_loop [10, 11] (fun n q => ∃ m : Nat, m ≤ dd.size ∧ m ≤ 14 ∧ q = .int .i64 m ∧ n = .int .i64 (valN 0 (DD.take m) : Int)) (fun _ q => 14 - (intOf q).toNat)
  case atStart => exact ⟨0, by omega, by omega, rfl, rfl⟩
  case round =>
    obtain ⟨m, hm1, hm2, rfl, rfl⟩ := hrel
    have hv : valN 0 (DD.take m) ≤ 100000000000000 := valN_le (fun x hx => HDIG.out x (List.mem_of_mem_take hx)) (by rw [List.length_take]; omega)
    by_cases hlt : m < dd.size
    · by_cases h14 : m < 14
      · have hg : DD.take (m + 1) = DD.take m ++ [dd[m]] := by
          have hl : m < DD.length := by rw [← HS.out]; exact hlt
          rw [List.take_succ_eq_append_getElem hl]
          congr 2
          rw [← get_atB dd m hlt, HL.out]
          unfold atB
          rw [List.getD_eq_getElem?_getD, List.getElem?_eq_getElem hl]; rfl
        have hdm : 48 ≤ dd[m].toNat ∧ dd[m].toNat ≤ 57 := isDig_iff.1 (HDIG.out _ (List.mem_of_mem_take (i := m + 1) (by rw [hg]; simp)))
        have HN := Lib.hid (show (valN 0 (DD.take (m + 1)) : Int) = 10 * (valN 0 (DD.take m) : Int) + ((dd[m].toNat : Int) - 48) by rw [hg, valN_snoc]; omega)
        clear hg
        obtain ⟨d1, d2⟩ := hdm
        generalize hvv : valN 0 (DD.take m) = vv at *
        clear hvv
        have q1 : IntKind.u8.wrap ((dd[m].toNat : Int) - 48) = (dd[m].toNat : Int) - 48 := by unfold IntKind.wrap; simp [IntKind.bits, IntKind.signed]; omega
        go_wp2_with fail
        go_round
        case rel => exact ⟨m + 1, by omega, by omega, by go_num, by rw [HN.out]⟩
        case measure => simp [intOf]; omega
      · have t14 : decide ((m : Int) < 14) = false := decide_eq_false (by omega)
        have hE := HEE.out m (by rw [← HS.out]; omega) (Or.inr (by omega)) (by omega)
        rw [← HS.out] at hE
        by_cases hM : 1099511627776 < valN 0 (DD.take m)
        · rw [if_pos (Or.inl hM)] at hE
          have HE := Lib.hid hE
          clear hE
          have tM : decide ((1099511627776 : Int) < (valN 0 (DD.take m) : Int)) = true := decide_eq_true (by omega)
          go_wp2_with fail
          go_ret2
          exact ⟨by rw [HE.out]; rfl, rfl⟩
        · have tM : decide ((1099511627776 : Int) < (valN 0 (DD.take m) : Int)) = false := decide_eq_false (by omega)
          by_cases h15 : 14 < dd.size
          · rw [if_pos (Or.inr h15)] at hE
            have HE := Lib.hid hE
            clear hE
            have t15 : decide ((14 : Int) < (dd.size : Int)) = true := decide_eq_true (by omega)
            go_wp2_with fail
            go_ret2
            exact ⟨by rw [HE.out]; rfl, rfl⟩
          · rw [if_neg (by omega)] at hE
            have HE := Lib.hid hE
            clear hE
            have t15 : decide ((14 : Int) < (dd.size : Int)) = false := decide_eq_false (by omega)
            go_wp2_with fail
            go_ret2
            exact ⟨by rw [HE.out]; rfl, rfl⟩
    · have hE := HEE.out m (by rw [← HS.out]; omega) (Or.inl (by rw [← HS.out]; omega)) (by omega)
      rw [← HS.out] at hE
      by_cases hM : 1099511627776 < valN 0 (DD.take m)
      · rw [if_pos (Or.inl hM)] at hE
        have HE := Lib.hid hE
        clear hE
        have tM : decide ((1099511627776 : Int) < (valN 0 (DD.take m) : Int)) = true := decide_eq_true (by omega)
        go_wp2_with fail
        go_ret2
        exact ⟨by rw [HE.out]; rfl, rfl⟩
      · have tM : decide ((1099511627776 : Int) < (valN 0 (DD.take m) : Int)) = false := decide_eq_false (by omega)
        rw [if_neg (by omega)] at hE
        have HE := Lib.hid hE
        clear hE
        have t15 : decide ((14 : Int) < (dd.size : Int)) = false := decide_eq_false (by omega)
        go_wp2_with fail
        go_ret2
        exact ⟨by rw [HE.out]; rfl, rfl⟩

set_option maxHeartbeats 800000 in
theorem expR_plus_none (s : ByteArray) (i j : Nat) (w : World) (hs : s.size ≤ 140737488351232) (hi : i < s.size) (hji : j = i + 1) (hl : lowB s[i] = 101) (hj : j < s.size) (h1 : s[j] = 43)
    (RC : Hid (∀ W, Calls Tryz.prog 115 #[.string s, .int .i64 ((j : Int) + 1)] W (Same W (.int .i64 ((j : Int) + 1))))) : Calls Tryz.prog 95 #[.string s, .int .i64 i] w (Same w (.tuple #[.int .i64 0, .int .i64 i])) := by
  have LC := Lib.hid (fun W : World => low_ok s[i] W)
  have t1 : (((lowB s[i]).toNat : Int) != 101) = false := by
    rw [hl]; rfl
  have s1 : (i : Int) + 1 = (j : Int) := by omega
  clear hl
  have t2 : ((s[j].toNat : Int) == 43) = true := by rw [h1]; rfl
  have t3 : ((s[j].toNat : Int) == 45) = false := by rw [h1]; rfl
  clear h1
  clear hji
  go_enter Tryz.func95, Tryz.ntmps95
  go_wp2_with fail
  refine (LC.out _).mono ?_
  rintro e w1 ⟨rfl, rfl⟩
  go_wp2_with fail
  refine (RC.out _).mono ?_
  rintro e w1 ⟨rfl, rfl⟩
  go_wp2_with fail
  go_ret2
  exact ⟨rfl, rfl⟩

set_option maxHeartbeats 1600000 in
theorem expR_plus_some (s : ByteArray) (i j : Nat) (w : World) (hs : s.size ≤ 140737488351232) (hi : i < s.size) (hji : j = i + 1) (hl : lowB s[i] = 101) (hj : j < s.size) (h1 : s[j] = 43) (k : Nat) (hk1 : (j + 1) < k) (hk2 : k ≤ s.size) (DD : List UInt8) (z : Nat) (dg : ByteArray) (hD : s.extract (j + 1) k = dg) (hz : z ≤ dg.size) (hDD : dg.extract z dg.size = bs DD) (hdd : DD.length ≤ 140737488351232)
    (hdig : ∀ x ∈ DD, isDig x = true) (E : Nat) (hE : ∀ q, q ≤ DD.length → (q = DD.length ∨ q = 14) → q ≤ 14 → E = if 1099511627776 < valN 0 (DD.take q) ∨ 14 < DD.length then 1099511627776 else valN 0 (DD.take q))
    (RC : Hid (∀ W, Calls Tryz.prog 115 #[.string s, .int .i64 ((j : Int) + 1)] W (Same W (.int .i64 k)))) (ZC : Hid (∀ W, Calls Tryz.prog 110 #[.string dg] W (Same W (.int .i64 z)))) :
    Calls Tryz.prog 95 #[.string s, .int .i64 i] w (Same w (.tuple #[.int .i64 ((E : Int)), .int .i64 k])) := by
  have HEE := Lib.hid hE
  have HDIG := Lib.hid hdig
  have HS := Lib.hid (bs_size DD)
  have HL := Lib.hid (bs_list DD)
  have tne : ((k : Int) == ((j : Int) + 1)) = false := by rw [beq_eq_false_iff_ne]; omega
  clear hE hdig
  obtain ⟨dd, hdd2⟩ : ∃ dd, dd = bs DD := ⟨_, rfl⟩
  rw [← hdd2] at hDD HS HL
  clear hdd2
  have hsz : dd.size ≤ 140737488351232 := by rw [HS.out]; exact hdd
  clear hdd
  have LC := Lib.hid (fun W : World => low_ok s[i] W)
  have t1 : (((lowB s[i]).toNat : Int) != 101) = false := by
    rw [hl]; rfl
  have s1 : (i : Int) + 1 = (j : Int) := by omega
  clear hl
  have t2 : ((s[j].toNat : Int) == 43) = true := by rw [h1]; rfl
  have t3 : ((s[j].toNat : Int) == 45) = false := by rw [h1]; rfl
  clear h1
  clear hji
  go_enter Tryz.func95, Tryz.ntmps95
  go_wp2_with fail
  refine (LC.out _).mono ?_
  rintro e w1 ⟨rfl, rfl⟩
  go_wp2_with fail
  refine (RC.out _).mono ?_
  rintro e w1 ⟨rfl, rfl⟩
  go_wp2_with fail
  refine (ZC.out _).mono ?_
  rintro e w1 ⟨rfl, rfl⟩
  go_wp2_with fail
  go_loop [10, 11] (fun n q => ∃ m : Nat, m ≤ dd.size ∧ m ≤ 14 ∧ q = .int .i64 m ∧ n = .int .i64 (valN 0 (DD.take m) : Int)) (fun _ q => 14 - (intOf q).toNat)
  case atStart => exact ⟨0, by omega, by omega, rfl, rfl⟩
  case round =>
    obtain ⟨m, hm1, hm2, rfl, rfl⟩ := hrel
    have hv : valN 0 (DD.take m) ≤ 100000000000000 := valN_le (fun x hx => HDIG.out x (List.mem_of_mem_take hx)) (by rw [List.length_take]; omega)
    by_cases hlt : m < dd.size
    · by_cases h14 : m < 14
      · have hg : DD.take (m + 1) = DD.take m ++ [dd[m]] := by
          have hl : m < DD.length := by rw [← HS.out]; exact hlt
          rw [List.take_succ_eq_append_getElem hl]
          congr 2
          rw [← get_atB dd m hlt, HL.out]
          unfold atB
          rw [List.getD_eq_getElem?_getD, List.getElem?_eq_getElem hl]; rfl
        have hdm : 48 ≤ dd[m].toNat ∧ dd[m].toNat ≤ 57 := isDig_iff.1 (HDIG.out _ (List.mem_of_mem_take (i := m + 1) (by rw [hg]; simp)))
        have HN := Lib.hid (show (valN 0 (DD.take (m + 1)) : Int) = 10 * (valN 0 (DD.take m) : Int) + ((dd[m].toNat : Int) - 48) by rw [hg, valN_snoc]; omega)
        clear hg
        obtain ⟨d1, d2⟩ := hdm
        generalize hvv : valN 0 (DD.take m) = vv at *
        clear hvv
        have q1 : IntKind.u8.wrap ((dd[m].toNat : Int) - 48) = (dd[m].toNat : Int) - 48 := by unfold IntKind.wrap; simp [IntKind.bits, IntKind.signed]; omega
        go_wp2_with fail
        go_round
        case rel => exact ⟨m + 1, by omega, by omega, by go_num, by rw [HN.out]⟩
        case measure => simp [intOf]; omega
      · have t14 : decide ((m : Int) < 14) = false := decide_eq_false (by omega)
        have hE := HEE.out m (by rw [← HS.out]; omega) (Or.inr (by omega)) (by omega)
        rw [← HS.out] at hE
        by_cases hM : 1099511627776 < valN 0 (DD.take m)
        · rw [if_pos (Or.inl hM)] at hE
          have HE := Lib.hid hE
          clear hE
          have tM : decide ((1099511627776 : Int) < (valN 0 (DD.take m) : Int)) = true := decide_eq_true (by omega)
          go_wp2_with fail
          go_ret2
          exact ⟨by rw [HE.out]; rfl, rfl⟩
        · have tM : decide ((1099511627776 : Int) < (valN 0 (DD.take m) : Int)) = false := decide_eq_false (by omega)
          by_cases h15 : 14 < dd.size
          · rw [if_pos (Or.inr h15)] at hE
            have HE := Lib.hid hE
            clear hE
            have t15 : decide ((14 : Int) < (dd.size : Int)) = true := decide_eq_true (by omega)
            go_wp2_with fail
            go_ret2
            exact ⟨by rw [HE.out]; rfl, rfl⟩
          · rw [if_neg (by omega)] at hE
            have HE := Lib.hid hE
            clear hE
            have t15 : decide ((14 : Int) < (dd.size : Int)) = false := decide_eq_false (by omega)
            go_wp2_with fail
            go_ret2
            exact ⟨by rw [HE.out]; rfl, rfl⟩
    · have hE := HEE.out m (by rw [← HS.out]; omega) (Or.inl (by rw [← HS.out]; omega)) (by omega)
      rw [← HS.out] at hE
      by_cases hM : 1099511627776 < valN 0 (DD.take m)
      · rw [if_pos (Or.inl hM)] at hE
        have HE := Lib.hid hE
        clear hE
        have tM : decide ((1099511627776 : Int) < (valN 0 (DD.take m) : Int)) = true := decide_eq_true (by omega)
        go_wp2_with fail
        go_ret2
        exact ⟨by rw [HE.out]; rfl, rfl⟩
      · have tM : decide ((1099511627776 : Int) < (valN 0 (DD.take m) : Int)) = false := decide_eq_false (by omega)
        rw [if_neg (by omega)] at hE
        have HE := Lib.hid hE
        clear hE
        have t15 : decide ((14 : Int) < (dd.size : Int)) = false := decide_eq_false (by omega)
        go_wp2_with fail
        go_ret2
        exact ⟨by rw [HE.out]; rfl, rfl⟩

set_option maxHeartbeats 800000 in
theorem expR_bare_none (s : ByteArray) (i j : Nat) (w : World) (hs : s.size ≤ 140737488351232) (hi : i < s.size) (hji : j = i + 1) (hl : lowB s[i] = 101) (hj : j < s.size) (t2 : ((s[j].toNat : Int) == 45) = false) (t3 : ((s[j].toNat : Int) == 43) = false)
    (RC : Hid (∀ W, Calls Tryz.prog 115 #[.string s, .int .i64 (j : Int)] W (Same W (.int .i64 (j : Int))))) : Calls Tryz.prog 95 #[.string s, .int .i64 i] w (Same w (.tuple #[.int .i64 0, .int .i64 i])) := by
  have LC := Lib.hid (fun W : World => low_ok s[i] W)
  have t1 : (((lowB s[i]).toNat : Int) != 101) = false := by
    rw [hl]; rfl
  have s1 : (i : Int) + 1 = (j : Int) := by omega
  clear hl
  clear hji
  go_enter Tryz.func95, Tryz.ntmps95
  go_wp2_with fail
  refine (LC.out _).mono ?_
  rintro e w1 ⟨rfl, rfl⟩
  go_wp2_with fail
  refine (RC.out _).mono ?_
  rintro e w1 ⟨rfl, rfl⟩
  go_wp2_with fail
  go_ret2
  exact ⟨rfl, rfl⟩

set_option maxHeartbeats 1600000 in
theorem expR_bare_some (s : ByteArray) (i j : Nat) (w : World) (hs : s.size ≤ 140737488351232) (hi : i < s.size) (hji : j = i + 1) (hl : lowB s[i] = 101) (hj : j < s.size) (t2 : ((s[j].toNat : Int) == 45) = false) (t3 : ((s[j].toNat : Int) == 43) = false) (k : Nat) (hk1 : j < k) (hk2 : k ≤ s.size) (DD : List UInt8) (z : Nat) (dg : ByteArray) (hD : s.extract j k = dg) (hz : z ≤ dg.size) (hDD : dg.extract z dg.size = bs DD) (hdd : DD.length ≤ 140737488351232)
    (hdig : ∀ x ∈ DD, isDig x = true) (E : Nat) (hE : ∀ q, q ≤ DD.length → (q = DD.length ∨ q = 14) → q ≤ 14 → E = if 1099511627776 < valN 0 (DD.take q) ∨ 14 < DD.length then 1099511627776 else valN 0 (DD.take q))
    (RC : Hid (∀ W, Calls Tryz.prog 115 #[.string s, .int .i64 (j : Int)] W (Same W (.int .i64 k)))) (ZC : Hid (∀ W, Calls Tryz.prog 110 #[.string dg] W (Same W (.int .i64 z)))) :
    Calls Tryz.prog 95 #[.string s, .int .i64 i] w (Same w (.tuple #[.int .i64 ((E : Int)), .int .i64 k])) := by
  have HEE := Lib.hid hE
  have HDIG := Lib.hid hdig
  have HS := Lib.hid (bs_size DD)
  have HL := Lib.hid (bs_list DD)
  have tne : ((k : Int) == (j : Int)) = false := by rw [beq_eq_false_iff_ne]; omega
  clear hE hdig
  obtain ⟨dd, hdd2⟩ : ∃ dd, dd = bs DD := ⟨_, rfl⟩
  rw [← hdd2] at hDD HS HL
  clear hdd2
  have hsz : dd.size ≤ 140737488351232 := by rw [HS.out]; exact hdd
  clear hdd
  have LC := Lib.hid (fun W : World => low_ok s[i] W)
  have t1 : (((lowB s[i]).toNat : Int) != 101) = false := by
    rw [hl]; rfl
  have s1 : (i : Int) + 1 = (j : Int) := by omega
  clear hl
  clear hji
  go_enter Tryz.func95, Tryz.ntmps95
  go_wp2_with fail
  refine (LC.out _).mono ?_
  rintro e w1 ⟨rfl, rfl⟩
  go_wp2_with fail
  refine (RC.out _).mono ?_
  rintro e w1 ⟨rfl, rfl⟩
  go_wp2_with fail
  refine (ZC.out _).mono ?_
  rintro e w1 ⟨rfl, rfl⟩
  go_wp2_with fail
  go_loop [10, 11] (fun n q => ∃ m : Nat, m ≤ dd.size ∧ m ≤ 14 ∧ q = .int .i64 m ∧ n = .int .i64 (valN 0 (DD.take m) : Int)) (fun _ q => 14 - (intOf q).toNat)
  case atStart => exact ⟨0, by omega, by omega, rfl, rfl⟩
  case round =>
    obtain ⟨m, hm1, hm2, rfl, rfl⟩ := hrel
    have hv : valN 0 (DD.take m) ≤ 100000000000000 := valN_le (fun x hx => HDIG.out x (List.mem_of_mem_take hx)) (by rw [List.length_take]; omega)
    by_cases hlt : m < dd.size
    · by_cases h14 : m < 14
      · have hg : DD.take (m + 1) = DD.take m ++ [dd[m]] := by
          have hl : m < DD.length := by rw [← HS.out]; exact hlt
          rw [List.take_succ_eq_append_getElem hl]
          congr 2
          rw [← get_atB dd m hlt, HL.out]
          unfold atB
          rw [List.getD_eq_getElem?_getD, List.getElem?_eq_getElem hl]; rfl
        have hdm : 48 ≤ dd[m].toNat ∧ dd[m].toNat ≤ 57 := isDig_iff.1 (HDIG.out _ (List.mem_of_mem_take (i := m + 1) (by rw [hg]; simp)))
        have HN := Lib.hid (show (valN 0 (DD.take (m + 1)) : Int) = 10 * (valN 0 (DD.take m) : Int) + ((dd[m].toNat : Int) - 48) by rw [hg, valN_snoc]; omega)
        clear hg
        obtain ⟨d1, d2⟩ := hdm
        generalize hvv : valN 0 (DD.take m) = vv at *
        clear hvv
        have q1 : IntKind.u8.wrap ((dd[m].toNat : Int) - 48) = (dd[m].toNat : Int) - 48 := by unfold IntKind.wrap; simp [IntKind.bits, IntKind.signed]; omega
        go_wp2_with fail
        go_round
        case rel => exact ⟨m + 1, by omega, by omega, by go_num, by rw [HN.out]⟩
        case measure => simp [intOf]; omega
      · have t14 : decide ((m : Int) < 14) = false := decide_eq_false (by omega)
        have hE := HEE.out m (by rw [← HS.out]; omega) (Or.inr (by omega)) (by omega)
        rw [← HS.out] at hE
        by_cases hM : 1099511627776 < valN 0 (DD.take m)
        · rw [if_pos (Or.inl hM)] at hE
          have HE := Lib.hid hE
          clear hE
          have tM : decide ((1099511627776 : Int) < (valN 0 (DD.take m) : Int)) = true := decide_eq_true (by omega)
          go_wp2_with fail
          go_ret2
          exact ⟨by rw [HE.out]; rfl, rfl⟩
        · have tM : decide ((1099511627776 : Int) < (valN 0 (DD.take m) : Int)) = false := decide_eq_false (by omega)
          by_cases h15 : 14 < dd.size
          · rw [if_pos (Or.inr h15)] at hE
            have HE := Lib.hid hE
            clear hE
            have t15 : decide ((14 : Int) < (dd.size : Int)) = true := decide_eq_true (by omega)
            go_wp2_with fail
            go_ret2
            exact ⟨by rw [HE.out]; rfl, rfl⟩
          · rw [if_neg (by omega)] at hE
            have HE := Lib.hid hE
            clear hE
            have t15 : decide ((14 : Int) < (dd.size : Int)) = false := decide_eq_false (by omega)
            go_wp2_with fail
            go_ret2
            exact ⟨by rw [HE.out]; rfl, rfl⟩
    · have hE := HEE.out m (by rw [← HS.out]; omega) (Or.inl (by rw [← HS.out]; omega)) (by omega)
      rw [← HS.out] at hE
      by_cases hM : 1099511627776 < valN 0 (DD.take m)
      · rw [if_pos (Or.inl hM)] at hE
        have HE := Lib.hid hE
        clear hE
        have tM : decide ((1099511627776 : Int) < (valN 0 (DD.take m) : Int)) = true := decide_eq_true (by omega)
        go_wp2_with fail
        go_ret2
        exact ⟨by rw [HE.out]; rfl, rfl⟩
      · have tM : decide ((1099511627776 : Int) < (valN 0 (DD.take m) : Int)) = false := decide_eq_false (by omega)
        rw [if_neg (by omega)] at hE
        have HE := Lib.hid hE
        clear hE
        have t15 : decide ((14 : Int) < (dd.size : Int)) = false := decide_eq_false (by omega)
        go_wp2_with fail
        go_ret2
        exact ⟨by rw [HE.out]; rfl, rfl⟩

set_option maxHeartbeats 800000 in
theorem expR_end_none (s : ByteArray) (i j : Nat) (w : World) (hs : s.size ≤ 140737488351232) (hi : i < s.size) (hji : j = i + 1) (hl : lowB s[i] = 101) (hj : ¬ j < s.size) (hj2 : j ≤ s.size)
    (RC : Hid (∀ W, Calls Tryz.prog 115 #[.string s, .int .i64 (j : Int)] W (Same W (.int .i64 (j : Int))))) : Calls Tryz.prog 95 #[.string s, .int .i64 i] w (Same w (.tuple #[.int .i64 0, .int .i64 i])) := by
  have LC := Lib.hid (fun W : World => low_ok s[i] W)
  have t1 : (((lowB s[i]).toNat : Int) != 101) = false := by
    rw [hl]; rfl
  have s1 : (i : Int) + 1 = (j : Int) := by omega
  clear hl
  clear hji
  go_enter Tryz.func95, Tryz.ntmps95
  go_wp2_with fail
  refine (LC.out _).mono ?_
  rintro e w1 ⟨rfl, rfl⟩
  go_wp2_with fail
  refine (RC.out _).mono ?_
  rintro e w1 ⟨rfl, rfl⟩
  go_wp2_with fail
  go_ret2
  exact ⟨rfl, rfl⟩


theorem expR_ok (s : ByteArray) (i : Nat) (w : World) (hs : s.size ≤ 140737488351232) (hi : i ≤ s.size) : Calls Tryz.prog 95 #[.string s, .int .i64 i] w (Same w (expV s.data.toList i)) := by
  have hm : s.size ≤ maxLen := by unfold maxLen; omega
  have el := Lib.size_eq s
  unfold expV
  by_cases hl : i < s.size ∧ lowB (atB s.data.toList i) = 101
  · obtain ⟨hlt, hl⟩ := hl
    have hl' := hl
    rw [get_atB s i hlt] at hl
    have h0 : (atB (s.data.toList.drop i) 0 == 101 || atB (s.data.toList.drop i) 0 == 69) = true := by
      rw [atB_drop, Nat.add_zero, ← low_e, hl']; rfl
    have a1 : atB (s.data.toList.drop i) 1 = atB s.data.toList (i + 1) := atB_drop _ _ _
    have key : ∀ (sg : Nat), expSg (s.data.toList.drop i) = sg → i + 1 + sg ≤ s.size →
        expS (s.data.toList.drop i) = if spanN isDig (s.data.toList.drop (i + 1 + sg)) = 0 then (0, 0)
          else (if atB (s.data.toList.drop i) 1 == 45 then - (satS 0 ((s.data.toList.drop (i + 1 + sg)).takeWhile isDig) : Int) else satS 0 ((s.data.toList.drop (i + 1 + sg)).takeWhile isDig), 1 + sg + spanN isDig (s.data.toList.drop (i + 1 + sg))) := by
      intro sg hsg _
      unfold expS
      rw [if_pos h0, hsg, List.drop_drop, show i + (1 + sg) = i + 1 + sg by omega]
    have parts : ∀ j, j ≤ s.size → ∀ k, k = j + spanN isDig (s.data.toList.drop j) → k ≤ s.size ∧
        s.extract j k = bs ((s.data.toList.drop j).takeWhile isDig) ∧
        spanN isZero ((s.data.toList.drop j).takeWhile isDig) ≤ (bs ((s.data.toList.drop j).takeWhile isDig)).size ∧
        (bs ((s.data.toList.drop j).takeWhile isDig)).extract (spanN isZero ((s.data.toList.drop j).takeWhile isDig)) (bs ((s.data.toList.drop j).takeWhile isDig)).size = bs (trimL ((s.data.toList.drop j).takeWhile isDig)) ∧
        (trimL ((s.data.toList.drop j).takeWhile isDig)).length ≤ 140737488351232 ∧ (∀ x ∈ trimL ((s.data.toList.drop j).takeWhile isDig), isDig x = true) ∧
        (∀ q, q ≤ (trimL ((s.data.toList.drop j).takeWhile isDig)).length → (q = (trimL ((s.data.toList.drop j).takeWhile isDig)).length ∨ q = 14) → q ≤ 14 → satS 0 ((s.data.toList.drop j).takeWhile isDig) = if 1099511627776 < valN 0 ((trimL ((s.data.toList.drop j).takeWhile isDig)).take q) ∨ 14 < (trimL ((s.data.toList.drop j).takeWhile isDig)).length then 1099511627776 else valN 0 ((trimL ((s.data.toList.drop j).takeWhile isDig)).take q)) ∧
        (∀ W, Calls Tryz.prog 110 #[.string (bs ((s.data.toList.drop j).takeWhile isDig))] W (Same W (.int .i64 (spanN isZero ((s.data.toList.drop j).takeWhile isDig))))) := by
      intro j hj k hk
      have hall : ∀ x ∈ (s.data.toList.drop j).takeWhile isDig, isDig x = true := fun x hx => mem_tw hx
      have hlen : ((s.data.toList.drop j).takeWhile isDig).length ≤ 140737488351232 := by
        have := (List.takeWhile_sublist (l := s.data.toList.drop j) isDig).length_le
        rw [List.length_drop] at this
        omega
      have h1 := spanN_drop_le isDig s j hj
      have h2 := ext_span s j
      rw [← hk] at h2
      generalize (s.data.toList.drop j).takeWhile isDig = D at *
      refine ⟨by omega, h2, by rw [bs_size]; exact spanN_le _ _, ?_, by have := trimL_len D; omega, fun x hx => hall x (mem_trimL hx), fun q h1 h2 h3 => sat_exit hall q h1 h2 h3, fun W => ?_⟩
      · rw [extract_bs, bs_list, bs_size, trimL_span, List.take_of_length_le]
        rw [← trimL_span, List.length_drop]; omega
      · have := zeros_ok (bs D) W (by rw [bs_size]; unfold maxLen; omega)
        rw [bs_list] at this
        exact this
    by_cases hj : i + 1 < s.size
    · have g := get_atB s (i + 1) hj
      by_cases h45 : s[i + 1] = 45
      · have e1 : atB (s.data.toList.drop i) 1 = 45 := by rw [a1, g, h45]
        have hk := key 1 (by unfold expSg; rw [e1]; rfl) (by omega)
        rw [e1] at hk
        obtain ⟨k, hkk⟩ : ∃ k, k = i + 1 + 1 + spanN isDig (s.data.toList.drop (i + 1 + 1)) := ⟨_, rfl⟩
        have RC := Lib.hid (fun W : World => run_ok s (i + 1 + 1) W hm (by omega))
        rw [← hkk, show ((i + 1 + 1 : Nat) : Int) = ((i + 1 : Nat) : Int) + 1 from by omega] at RC
        by_cases hn : spanN isDig (s.data.toList.drop (i + 1 + 1)) = 0
        · rw [if_pos hn] at hk
          rw [hk]
          rw [show (k : Int) = ((i + 1 : Nat) : Int) + 1 by omega] at RC
          exact expR_neg_none s i (i + 1) w hs hlt rfl hl hj h45 RC
        · rw [if_neg hn] at hk
          rw [hk]
          obtain ⟨p1, p2, p3, p4, p5, p6, p7, p8⟩ := parts (i + 1 + 1) (by omega) k hkk
          have := expR_neg_some s i (i + 1) w hs hlt rfl hl hj h45 k (by omega) p1 _ _ _ p2 p3 p4 p5 p6 _ p7 RC (Lib.hid p8)
          rw [show (i + (1 + 1 + spanN isDig (s.data.toList.drop (i + 1 + 1)))) = k by omega]
          exact this
      · have t45 : ((s[i + 1].toNat : Int) == 45) = false := (byte_is _ 45 (by omega)).trans (by simpa using h45)
        have n45 : (atB (s.data.toList.drop i) 1 == 45) = false := by rw [a1, g]; simpa using h45
        by_cases h43 : s[i + 1] = 43
        · have e1 : atB (s.data.toList.drop i) 1 = 43 := by rw [a1, g, h43]
          have hk := key 1 (by unfold expSg; rw [e1]; rfl) (by omega)
          rw [e1] at hk
          obtain ⟨k, hkk⟩ : ∃ k, k = i + 1 + 1 + spanN isDig (s.data.toList.drop (i + 1 + 1)) := ⟨_, rfl⟩
          have RC := Lib.hid (fun W : World => run_ok s (i + 1 + 1) W hm (by omega))
          rw [← hkk, show ((i + 1 + 1 : Nat) : Int) = ((i + 1 : Nat) : Int) + 1 from by omega] at RC
          by_cases hn : spanN isDig (s.data.toList.drop (i + 1 + 1)) = 0
          · rw [if_pos hn] at hk
            rw [hk]
            rw [show (k : Int) = ((i + 1 : Nat) : Int) + 1 by omega] at RC
            exact expR_plus_none s i (i + 1) w hs hlt rfl hl hj h43 RC
          · rw [if_neg hn] at hk
            rw [hk]
            obtain ⟨p1, p2, p3, p4, p5, p6, p7, p8⟩ := parts (i + 1 + 1) (by omega) k hkk
            have := expR_plus_some s i (i + 1) w hs hlt rfl hl hj h43 k (by omega) p1 _ _ _ p2 p3 p4 p5 p6 _ p7 RC (Lib.hid p8)
            rw [show (i + (1 + 1 + spanN isDig (s.data.toList.drop (i + 1 + 1)))) = k by omega]
            exact this
        · have t43 : ((s[i + 1].toNat : Int) == 43) = false := (byte_is _ 43 (by omega)).trans (by simpa using h43)
          have n43 : (atB (s.data.toList.drop i) 1 == 43) = false := by rw [a1, g]; simpa using h43
          have hk := key 0 (by unfold expSg; rw [n45, n43]; rfl) (by omega)
          rw [n45] at hk
          rw [Nat.add_zero] at hk
          obtain ⟨k, hkk⟩ : ∃ k, k = i + 1 + spanN isDig (s.data.toList.drop (i + 1)) := ⟨_, rfl⟩
          have RC := Lib.hid (fun W : World => run_ok s (i + 1) W hm (by omega))
          rw [← hkk] at RC
          by_cases hn : spanN isDig (s.data.toList.drop (i + 1)) = 0
          · rw [if_pos hn] at hk
            rw [hk]
            rw [show (k : Int) = ((i + 1 : Nat) : Int) by omega] at RC
            exact expR_bare_none s i (i + 1) w hs hlt rfl hl hj t45 t43 RC
          · rw [if_neg hn] at hk
            rw [hk]
            obtain ⟨p1, p2, p3, p4, p5, p6, p7, p8⟩ := parts (i + 1) (by omega) k hkk
            have := expR_bare_some s i (i + 1) w hs hlt rfl hl hj t45 t43 k (by omega) p1 _ _ _ p2 p3 p4 p5 p6 _ p7 RC (Lib.hid p8)
            rw [show (i + (1 + 0 + spanN isDig (s.data.toList.drop (i + 1)))) = k by omega]
            exact this
    · have e1 : atB (s.data.toList.drop i) 1 = 0 := by rw [a1, atB_end s _ hj]
      have hk := key 0 (by unfold expSg; rw [e1]; rfl) (by omega)
      have hn : spanN isDig (s.data.toList.drop (i + 1 + 0)) = 0 := by
        rw [List.drop_eq_nil_of_le (by omega)]; rfl
      rw [if_pos hn] at hk
      rw [hk]
      have RC := Lib.hid (fun W : World => run_ok s (i + 1) W hm (by omega))
      rw [Nat.add_zero] at hn
      rw [hn, Nat.add_zero] at RC
      exact expR_end_none s i (i + 1) w hs hlt rfl hl hj (by omega) RC
  · have e0 : (atB (s.data.toList.drop i) 0 == 101 || atB (s.data.toList.drop i) 0 == 69) = false := by
      rw [atB_drop, Nat.add_zero, ← low_e]
      by_cases h : i < s.size
      · rw [beq_eq_false_iff_ne]; exact fun e => hl ⟨h, e⟩
      · rw [atB_end s i h]; rfl
    have e : expS (s.data.toList.drop i) = (0, 0) := by unfold expS; rw [e0]; rfl
    rw [e]
    exact expR_none s i w hs hi (fun h e => hl ⟨h, by rw [get_atB s i h]; exact e⟩)


/-- A number with digits from the first to the last that is not 0. -/
def normV (neg : Bool) (D : List UInt8) (p r : Int) : Value := if trimR (trimL D) = [] then numV false ⟨#[]⟩ 0 0 else numV neg (bs (trimR (trimL D))) (p - spanN isZero D) r

theorem norm_end (a : Act) (X : World) (w : World) (v0 v1 v2 v3 : Value) (hp : a.tmps.getD 2 undef = .pointer (some ⟨w.heap.size + 1, 0, none⟩)) (hd : a.defers = [])
    (hX : CellsAt X (w.heap.size + 1) [.bool false, .string ⟨#[]⟩, .int .i64 0, .int .i64 0]) (hB : Below w.heap.size w X) :
    bodyPost Tryz.prog Tryz.f90 (RetBelow w (.agg #[v0, v1, v2, v3])) Exit.ret a ((((X.setCell ⟨w.heap.size + 1, 0, none⟩ v0).setCell ⟨w.heap.size + 1, 1, none⟩ v1).setCell ⟨w.heap.size + 1, 2, none⟩ v2).setCell ⟨w.heap.size + 1, 3, none⟩ v3) := by
  have C := (((hX.set 0 v0 (by simp)).set 1 v1 (by simp)).set 2 v2 (by simp)).set 3 v3 (by simp)
  have hp2 := hp
  simp only [Array.getD_eq_getD_getElem?] at hp2
  have BX := (((hB.setCell (p := ⟨w.heap.size + 1, 0, none⟩) (by simp) v0).setCell (p := ⟨w.heap.size + 1, 1, none⟩) (by simp) v1).setCell (p := ⟨w.heap.size + 1, 2, none⟩) (by simp) v2).setCell (p := ⟨w.heap.size + 1, 3, none⟩) (by simp) v3
  generalize (((X.setCell ⟨w.heap.size + 1, 0, none⟩ v0).setCell ⟨w.heap.size + 1, 1, none⟩ v1).setCell ⟨w.heap.size + 1, 2, none⟩ v2).setCell ⟨w.heap.size + 1, 3, none⟩ v3 = Y at *
  have c0 := C.cell 0 _ rfl
  have c1 := C.cell 1 _ rfl
  have c2 := C.cell 2 _ rfl
  have c3 := C.cell 3 _ rfl
  exact bodyPost_ret (v := .agg #[v0, v1, v2, v3]) (by simp [results, Tryz.results90, go_sem, hp2, c0, c1, c2, c3]) hd ⟨rfl, BX⟩

set_option maxHeartbeats 1600000 in
theorem norm_none (neg : Bool) (D t : ByteArray) (p r : Int) (z : Nat) (w : World) (hp : -1000000000000000000 ≤ p ∧ p ≤ 1000000000000000000) (sD : D.size ≤ 140737488351232) (hz : z ≤ D.size) (ht : D.extract z D.size = t) (d : ByteArray) (g1 : d.toList.isEmpty = true) (g2 : (d.toList == []) = true) (g3 : d.toList = [])
    (ZC : Hid (∀ W, Calls Tryz.prog 110 #[.string D] W (Same W (.int .i64 z)))) (TC : Hid (∀ W, Calls Tryz.prog 111 #[.string t] W (Same W (.string d)))) :
    Calls Tryz.prog 90 #[.agg #[.bool neg, .string D, .int .i64 p, .int .i64 r]] w (RetBelow w (.agg #[.bool false, .string ⟨#[]⟩, .int .i64 0, .int .i64 0])) := by
  have N0 := Lib.hid ((CellsAt.new w [.bool neg, .string D, .int .i64 p, .int .i64 r] 94).alloc (Obj.cells #[.bool false, .string ⟨#[]⟩, .int .i64 0, .int .i64 0] 94))
  have A0' := CellsAt.new (w.alloc (Obj.cells #[.bool neg, .string D, .int .i64 p, .int .i64 r] 94)) [.bool false, .string ⟨#[]⟩, .int .i64 0, .int .i64 0] 94
  rw [show (w.alloc (Obj.cells #[.bool neg, .string D, .int .i64 p, .int .i64 r] 94)).heap.size = w.heap.size + 1 by simp] at A0'
  have A0 := Lib.hid A0'
  have B0 := Lib.hid (((Below.refl w.heap.size w).alloc (Nat.le_refl _) (Obj.cells #[.bool neg, .string D, .int .i64 p, .int .i64 r] 94)).alloc (by simp) (Obj.cells #[.bool false, .string ⟨#[]⟩, .int .i64 0, .int .i64 0] 94))
  clear A0'
  obtain ⟨p1, p2⟩ := hp
  go_enter Tryz.func90, Tryz.ntmps90
  go_upto_region 1 with fail
  generalize hX : (w.alloc (Obj.cells #[.bool neg, .string D, .int .i64 p, .int .i64 r] 94)).alloc (Obj.cells #[.bool false, .string ⟨#[]⟩, .int .i64 0, .int .i64 0] 94) = x at *
  clear hX
  have n0 := N0.out.cell 0 _ rfl
  have n1 := N0.out.cell 1 _ rfl
  have n2 := N0.out.cell 2 _ rfl
  have n3 := N0.out.cell 3 _ rfl
  have nf1 := N0.out.free 1
  have nf2 := N0.out.free 2
  have a0 := A0.out.cell 0 _ rfl
  have a1 := A0.out.cell 1 _ rfl
  have a2 := A0.out.cell 2 _ rfl
  have a3 := A0.out.cell 3 _ rfl
  have f0 := A0.out.free 0
  have f1 := A0.out.free 1
  have f2 := A0.out.free 2
  have f3 := A0.out.free 3
  go_wp2_with fail
  refine (ZC.out _).mono ?_
  rintro e w1 ⟨rfl, rfl⟩
  go_wp2_with fail
  refine (TC.out _).mono ?_
  rintro e w1 ⟨rfl, rfl⟩
  go_wp2_with fail
  exact norm_end _ _ w _ _ _ _ rfl rfl A0.out B0.out

set_option maxHeartbeats 1600000 in
theorem norm_some (neg : Bool) (D t : ByteArray) (p r : Int) (z : Nat) (w : World) (hp : -1000000000000000000 ≤ p ∧ p ≤ 1000000000000000000) (sD : D.size ≤ 140737488351232) (hz : z ≤ D.size) (ht : D.extract z D.size = t) (d : ByteArray) (g1 : d.toList.isEmpty = false) (g2 : (d.toList == []) = false) (g3 : ¬ d.toList = [])
    (ZC : Hid (∀ W, Calls Tryz.prog 110 #[.string D] W (Same W (.int .i64 z)))) (TC : Hid (∀ W, Calls Tryz.prog 111 #[.string t] W (Same W (.string d)))) :
    Calls Tryz.prog 90 #[.agg #[.bool neg, .string D, .int .i64 p, .int .i64 r]] w (RetBelow w (.agg #[.bool neg, .string d, .int .i64 (p - z), .int .i64 r])) := by
  have N0 := Lib.hid ((CellsAt.new w [.bool neg, .string D, .int .i64 p, .int .i64 r] 94).alloc (Obj.cells #[.bool false, .string ⟨#[]⟩, .int .i64 0, .int .i64 0] 94))
  have A0' := CellsAt.new (w.alloc (Obj.cells #[.bool neg, .string D, .int .i64 p, .int .i64 r] 94)) [.bool false, .string ⟨#[]⟩, .int .i64 0, .int .i64 0] 94
  rw [show (w.alloc (Obj.cells #[.bool neg, .string D, .int .i64 p, .int .i64 r] 94)).heap.size = w.heap.size + 1 by simp] at A0'
  have A0 := Lib.hid A0'
  have B0 := Lib.hid (((Below.refl w.heap.size w).alloc (Nat.le_refl _) (Obj.cells #[.bool neg, .string D, .int .i64 p, .int .i64 r] 94)).alloc (by simp) (Obj.cells #[.bool false, .string ⟨#[]⟩, .int .i64 0, .int .i64 0] 94))
  clear A0'
  obtain ⟨p1, p2⟩ := hp
  go_enter Tryz.func90, Tryz.ntmps90
  go_upto_region 1 with fail
  generalize hX : (w.alloc (Obj.cells #[.bool neg, .string D, .int .i64 p, .int .i64 r] 94)).alloc (Obj.cells #[.bool false, .string ⟨#[]⟩, .int .i64 0, .int .i64 0] 94) = x at *
  clear hX
  have n0 := N0.out.cell 0 _ rfl
  have n1 := N0.out.cell 1 _ rfl
  have n2 := N0.out.cell 2 _ rfl
  have n3 := N0.out.cell 3 _ rfl
  have nf1 := N0.out.free 1
  have nf2 := N0.out.free 2
  have a0 := A0.out.cell 0 _ rfl
  have a1 := A0.out.cell 1 _ rfl
  have a2 := A0.out.cell 2 _ rfl
  have a3 := A0.out.cell 3 _ rfl
  have f0 := A0.out.free 0
  have f1 := A0.out.free 1
  have f2 := A0.out.free 2
  have f3 := A0.out.free 3
  go_wp2_with fail
  refine (ZC.out _).mono ?_
  rintro e w1 ⟨rfl, rfl⟩
  go_wp2_with fail
  refine (TC.out _).mono ?_
  rintro e w1 ⟨rfl, rfl⟩
  have N2 := Lib.hid ((N0.out.set 1 (.string d) (by simp)).set 2 (.int .i64 (p - z)) (by simp))
  have A2 := Lib.hid ((A0.out.other (show w.heap.size ≠ w.heap.size + 1 by omega) 1 (.string d)).other (show w.heap.size ≠ w.heap.size + 1 by omega) 2 (.int .i64 (p - z)))
  have B2 := Lib.hid ((B0.out.setCell (p := ⟨w.heap.size, 1, none⟩) (by simp) (.string d)).setCell (p := ⟨w.heap.size, 2, none⟩) (by simp) (.int .i64 (p - z)))
  have nl := N0.out.lt
  go_upto_region 7 with fail
  generalize hX : (x.setCell ⟨w.heap.size, 1, none⟩ (.string d)).setCell ⟨w.heap.size, 2, none⟩ (.int .i64 (p - z)) = x2 at *
  clear hX n0 n1 n2 n3 nf1 nf2 a0 a1 a2 a3 f0 f1 f2 f3
  have n0 := N2.out.cell 0 _ rfl
  have n1 := N2.out.cell 1 _ rfl
  have n2 := N2.out.cell 2 _ rfl
  have n3 := N2.out.cell 3 _ rfl
  have a0 := A2.out.cell 0 _ rfl
  have a1 := A2.out.cell 1 _ rfl
  have a2 := A2.out.cell 2 _ rfl
  have a3 := A2.out.cell 3 _ rfl
  have f0 := A2.out.free 0
  have f1 := A2.out.free 1
  have f2 := A2.out.free 2
  have f3 := A2.out.free 3
  go_wp2_with fail
  exact norm_end _ _ w _ _ _ _ rfl rfl A2.out B2.out


theorem norm_ok (neg : Bool) (D : List UInt8) (p r : Int) (w : World) (hp : -1000000000000000000 ≤ p ∧ p ≤ 1000000000000000000) (hD : D.length ≤ 140737488351232) :
    Calls Tryz.prog 90 #[numV neg (bs D) p r] w (RetBelow w (normV neg D p r)) := by
  have ZC := Lib.hid (fun W : World => zeros_ok (bs D) W (by rw [bs_size]; unfold maxLen; omega))
  have TC := Lib.hid (fun W : World => trimmed_ok (bs (trimL D)) W (by rw [bs_size]; have := trimL_len D; unfold maxLen; omega))
  rw [bs_list] at ZC TC
  have ht : (bs D).extract (spanN isZero D) (bs D).size = bs (trimL D) := by
    rw [extract_bs, bs_list, bs_size, trimL_span, List.take_of_length_le]
    rw [← trimL_span, List.length_drop]; omega
  have hz : spanN isZero D ≤ (bs D).size := by rw [bs_size]; exact spanN_le _ _
  unfold normV numV
  by_cases h : trimR (trimL D) = []
  · rw [if_pos h]
    have hf : (bs (trimR (trimL D))).toList.isEmpty = true ∧ ((bs (trimR (trimL D))).toList == []) = true ∧ (bs (trimR (trimL D))).toList = [] := by rw [h, Lib.toList_data, bs_list]; exact ⟨rfl, rfl, rfl⟩
    exact norm_none neg _ _ p r _ w hp (by rw [bs_size]; exact hD) hz ht _ hf.1 hf.2.1 hf.2.2 ZC TC
  · rw [if_neg h]
    have hf := bs_more h
    exact norm_some neg _ _ p r _ w hp (by rw [bs_size]; exact hD) hz ht _ hf.1 hf.2.1 hf.2.2 ZC TC

end

section


set_option maxRecDepth 100000
theorem genR_end (a : Act) (X : World) (w : World) (v0 v1 v2 v3 v4 : Value) (hp : a.tmps.getD 2 undef = .pointer (some ⟨w.heap.size, 0, none⟩)) (hd : a.defers = [])
    (hX : CellsAt X w.heap.size [.int .u8 0, .bool false, .string ⟨#[]⟩, .int .i64 0, .int .i64 0]) (hB : Below w.heap.size w X) :
    bodyPost Tryz.prog Tryz.f63 (RetBelow w (.agg #[v0, v1, v2, v3, v4])) Exit.ret a (((((X.setCell ⟨w.heap.size, 0, none⟩ v0).setCell ⟨w.heap.size, 1, none⟩ v1).setCell ⟨w.heap.size, 2, none⟩ v2).setCell ⟨w.heap.size, 3, none⟩ v3).setCell ⟨w.heap.size, 4, none⟩ v4) := by
  have C := ((((hX.set 0 v0 (by simp)).set 1 v1 (by simp)).set 2 v2 (by simp)).set 3 v3 (by simp)).set 4 v4 (by simp)
  have hp2 := hp
  simp only [Array.getD_eq_getD_getElem?] at hp2
  have BX := ((((hB.setCell (p := ⟨w.heap.size, 0, none⟩) (by simp) v0).setCell (p := ⟨w.heap.size, 1, none⟩) (by simp) v1).setCell (p := ⟨w.heap.size, 2, none⟩) (by simp) v2).setCell (p := ⟨w.heap.size, 3, none⟩) (by simp) v3).setCell (p := ⟨w.heap.size, 4, none⟩) (by simp) v4
  generalize ((((X.setCell ⟨w.heap.size, 0, none⟩ v0).setCell ⟨w.heap.size, 1, none⟩ v1).setCell ⟨w.heap.size, 2, none⟩ v2).setCell ⟨w.heap.size, 3, none⟩ v3).setCell ⟨w.heap.size, 4, none⟩ v4 = Y at *
  have c0 := C.cell 0 _ rfl
  have c1 := C.cell 1 _ rfl
  have c2 := C.cell 2 _ rfl
  have c3 := C.cell 3 _ rfl
  have c4 := C.cell 4 _ rfl
  exact bodyPost_ret (v := .agg #[v0, v1, v2, v3, v4]) (by simp [results, Tryz.results63, go_sem, hp2, c0, c1, c2, c3, c4]) hd ⟨rfl, BX⟩

set_option maxHeartbeats 1600000 in
theorem genR_neg_nan (s : ByteArray) (b : Nat) (w : World) (hs : s.size ≤ 140737488351232) (hb : b < s.size) (h1 : s[b] = 45)
    (SC : Hid (∀ W, Calls Tryz.prog 92 #[.string s] W (Same W (.int .i64 (b : Int)))))
    (AN : Hid (∀ W, Calls Tryz.prog 93 #[.string s, .int .i64 ((b : Int) + 1), .string ⟨#[110, 97, 110]⟩] W (BeginsPost W true)))
    : Calls Tryz.prog 63 #[.string s] w (RetBelow w (.agg #[.int .u8 1, .bool false, .string ⟨#[]⟩, .int .i64 0, .int .i64 (((b : Int) + 1) + 3)])) := by
  have t2 : ((s[b].toNat : Int) == 45) = true := by rw [h1]; rfl
  clear h1
  have A0 := Lib.hid (CellsAt.new w [.int .u8 0, .bool false, .string ⟨#[]⟩, .int .i64 0, .int .i64 0] 98)
  have B0 := Lib.hid ((Below.refl w.heap.size w).alloc (Nat.le_refl _) (Obj.cells #[.int .u8 0, .bool false, .string ⟨#[]⟩, .int .i64 0, .int .i64 0] 98))
  go_enter Tryz.func63, Tryz.ntmps63
  go_upto_region 1 with fail
  generalize hX : w.alloc (Obj.cells #[.int .u8 0, .bool false, .string ⟨#[]⟩, .int .i64 0, .int .i64 0] 98) = x at *
  clear hX
  go_wp2_with fail
  refine (SC.out _).mono ?_
  rintro e1 w1 ⟨rfl, rfl⟩
  go_wp2_with fail
  refine (AN.out _).mono ?_
  rintro e1 w1 ⟨rfl, n1, rfl⟩
  have A1 := Lib.hid (A0.out.step (below_drewN x n1))
  have B1 := Lib.hid (bdrewB B0.out n1)
  generalize x.drewN n1 = x1 at *
  have a0 := A1.out.cell 0 _ rfl
  have f0 := A1.out.free 0
  have a1 := A1.out.cell 1 _ rfl
  have f1 := A1.out.free 1
  have a2 := A1.out.cell 2 _ rfl
  have f2 := A1.out.free 2
  have a3 := A1.out.cell 3 _ rfl
  have f3 := A1.out.free 3
  have a4 := A1.out.cell 4 _ rfl
  have f4 := A1.out.free 4
  go_wp2_with fail
  exact genR_end _ _ w _ _ _ _ _ rfl rfl A1.out B1.out

set_option maxHeartbeats 1600000 in
theorem genR_neg_inf (s : ByteArray) (b : Nat) (w : World) (hs : s.size ≤ 140737488351232) (hb : b < s.size) (h1 : s[b] = 45)
    (SC : Hid (∀ W, Calls Tryz.prog 92 #[.string s] W (Same W (.int .i64 (b : Int)))))
    (AN : Hid (∀ W, Calls Tryz.prog 93 #[.string s, .int .i64 ((b : Int) + 1), .string ⟨#[110, 97, 110]⟩] W (BeginsPost W false)))
    (AI : Hid (∀ W, Calls Tryz.prog 93 #[.string s, .int .i64 ((b : Int) + 1), .string ⟨#[105, 110, 102]⟩] W (BeginsPost W true)))
    (AY : Hid (∀ W, Calls Tryz.prog 93 #[.string s, .int .i64 ((b : Int) + 1), .string ⟨#[105, 110, 102, 105, 110, 105, 116, 121]⟩] W (BeginsPost W false)))
    : Calls Tryz.prog 63 #[.string s] w (RetBelow w (.agg #[.int .u8 2, .bool false, .string ⟨#[]⟩, .int .i64 0, .int .i64 (((b : Int) + 1) + 3)])) := by
  have t2 : ((s[b].toNat : Int) == 45) = true := by rw [h1]; rfl
  clear h1
  have A0 := Lib.hid (CellsAt.new w [.int .u8 0, .bool false, .string ⟨#[]⟩, .int .i64 0, .int .i64 0] 98)
  have B0 := Lib.hid ((Below.refl w.heap.size w).alloc (Nat.le_refl _) (Obj.cells #[.int .u8 0, .bool false, .string ⟨#[]⟩, .int .i64 0, .int .i64 0] 98))
  go_enter Tryz.func63, Tryz.ntmps63
  go_upto_region 1 with fail
  generalize hX : w.alloc (Obj.cells #[.int .u8 0, .bool false, .string ⟨#[]⟩, .int .i64 0, .int .i64 0] 98) = x at *
  clear hX
  go_wp2_with fail
  refine (SC.out _).mono ?_
  rintro e1 w1 ⟨rfl, rfl⟩
  go_wp2_with fail
  refine (AN.out _).mono ?_
  rintro e1 w1 ⟨rfl, n1, rfl⟩
  have A1 := Lib.hid (A0.out.step (below_drewN x n1))
  have B1 := Lib.hid (bdrewB B0.out n1)
  generalize x.drewN n1 = x1 at *
  go_wp2_with fail
  refine (AI.out _).mono ?_
  rintro e1 w1 ⟨rfl, n2, rfl⟩
  have A2 := Lib.hid (A1.out.step (below_drewN x1 n2))
  have B2 := Lib.hid (bdrewB B1.out n2)
  generalize x1.drewN n2 = x2 at *
  go_upto_region 10 with fail
  have A3 := Lib.hid (A2.out.alloc (Obj.cells #[.int .u8 4, .bool false, .string ⟨#[]⟩, .int .i64 0, .int .i64 (((b : Int) + 1) + 3)] 98))
  have N3 := Lib.hid (CellsAt.new x2 [.int .u8 4, .bool false, .string ⟨#[]⟩, .int .i64 0, .int .i64 (((b : Int) + 1) + 3)] 98)
  have B3 := Lib.hid (B2.out.alloc B2.out.size (Obj.cells #[.int .u8 4, .bool false, .string ⟨#[]⟩, .int .i64 0, .int .i64 (((b : Int) + 1) + 3)] 98))
  have hl : w.heap.size < x2.heap.size := A2.out.lt
  generalize hX : x2.alloc (Obj.cells #[.int .u8 4, .bool false, .string ⟨#[]⟩, .int .i64 0, .int .i64 (((b : Int) + 1) + 3)] 98) = x3 at *
  clear hX
  have n0 := N3.out.cell 0 _ rfl
  have nf := N3.out.free 0
  have N4 := Lib.hid (N3.out.set 0 (.int .u8 2) (by simp))
  have A4 := Lib.hid (A3.out.other (show x2.heap.size ≠ w.heap.size by omega) 0 (.int .u8 2))
  have B4 := Lib.hid (B3.out.setCell (p := ⟨x2.heap.size, 0, none⟩) (by simp; omega) (.int .u8 2))
  go_upto_region 12 with fail
  generalize hX : x3.setCell ⟨x2.heap.size, 0, none⟩ (.int .u8 2) = x4 at *
  clear hX n0 nf
  go_wp2_with fail
  refine (AY.out _).mono ?_
  rintro e1 w1 ⟨rfl, n5, rfl⟩
  have A5 := Lib.hid (A4.out.step (below_drewN x4 n5))
  have N5 := Lib.hid (N4.out.step (below_drewN x4 n5))
  have B5 := Lib.hid (bdrewB B4.out n5)
  generalize x4.drewN n5 = x5 at *
  have N6 := N5
  have A6 := A5
  have B6 := B5
  clear A5 B5
  have m0 := N6.out.cell 0 _ rfl
  have m1 := N6.out.cell 1 _ rfl
  have m2 := N6.out.cell 2 _ rfl
  have m3 := N6.out.cell 3 _ rfl
  have m4 := N6.out.cell 4 _ rfl
  have a0 := A6.out.cell 0 _ rfl
  have f0 := A6.out.free 0
  have a1 := A6.out.cell 1 _ rfl
  have f1 := A6.out.free 1
  have a2 := A6.out.cell 2 _ rfl
  have f2 := A6.out.free 2
  have a3 := A6.out.cell 3 _ rfl
  have f3 := A6.out.free 3
  have a4 := A6.out.cell 4 _ rfl
  have f4 := A6.out.free 4
  go_wp2_with fail
  exact genR_end _ _ w _ _ _ _ _ rfl rfl A6.out B6.out

set_option maxHeartbeats 1600000 in
theorem genR_neg_infinity (s : ByteArray) (b : Nat) (w : World) (hs : s.size ≤ 140737488351232) (hb : b < s.size) (h1 : s[b] = 45)
    (SC : Hid (∀ W, Calls Tryz.prog 92 #[.string s] W (Same W (.int .i64 (b : Int)))))
    (AN : Hid (∀ W, Calls Tryz.prog 93 #[.string s, .int .i64 ((b : Int) + 1), .string ⟨#[110, 97, 110]⟩] W (BeginsPost W false)))
    (AI : Hid (∀ W, Calls Tryz.prog 93 #[.string s, .int .i64 ((b : Int) + 1), .string ⟨#[105, 110, 102]⟩] W (BeginsPost W true)))
    (AY : Hid (∀ W, Calls Tryz.prog 93 #[.string s, .int .i64 ((b : Int) + 1), .string ⟨#[105, 110, 102, 105, 110, 105, 116, 121]⟩] W (BeginsPost W true)))
    : Calls Tryz.prog 63 #[.string s] w (RetBelow w (.agg #[.int .u8 2, .bool false, .string ⟨#[]⟩, .int .i64 0, .int .i64 (((b : Int) + 1) + 8)])) := by
  have t2 : ((s[b].toNat : Int) == 45) = true := by rw [h1]; rfl
  clear h1
  have A0 := Lib.hid (CellsAt.new w [.int .u8 0, .bool false, .string ⟨#[]⟩, .int .i64 0, .int .i64 0] 98)
  have B0 := Lib.hid ((Below.refl w.heap.size w).alloc (Nat.le_refl _) (Obj.cells #[.int .u8 0, .bool false, .string ⟨#[]⟩, .int .i64 0, .int .i64 0] 98))
  go_enter Tryz.func63, Tryz.ntmps63
  go_upto_region 1 with fail
  generalize hX : w.alloc (Obj.cells #[.int .u8 0, .bool false, .string ⟨#[]⟩, .int .i64 0, .int .i64 0] 98) = x at *
  clear hX
  go_wp2_with fail
  refine (SC.out _).mono ?_
  rintro e1 w1 ⟨rfl, rfl⟩
  go_wp2_with fail
  refine (AN.out _).mono ?_
  rintro e1 w1 ⟨rfl, n1, rfl⟩
  have A1 := Lib.hid (A0.out.step (below_drewN x n1))
  have B1 := Lib.hid (bdrewB B0.out n1)
  generalize x.drewN n1 = x1 at *
  go_wp2_with fail
  refine (AI.out _).mono ?_
  rintro e1 w1 ⟨rfl, n2, rfl⟩
  have A2 := Lib.hid (A1.out.step (below_drewN x1 n2))
  have B2 := Lib.hid (bdrewB B1.out n2)
  generalize x1.drewN n2 = x2 at *
  go_upto_region 10 with fail
  have A3 := Lib.hid (A2.out.alloc (Obj.cells #[.int .u8 4, .bool false, .string ⟨#[]⟩, .int .i64 0, .int .i64 (((b : Int) + 1) + 3)] 98))
  have N3 := Lib.hid (CellsAt.new x2 [.int .u8 4, .bool false, .string ⟨#[]⟩, .int .i64 0, .int .i64 (((b : Int) + 1) + 3)] 98)
  have B3 := Lib.hid (B2.out.alloc B2.out.size (Obj.cells #[.int .u8 4, .bool false, .string ⟨#[]⟩, .int .i64 0, .int .i64 (((b : Int) + 1) + 3)] 98))
  have hl : w.heap.size < x2.heap.size := A2.out.lt
  generalize hX : x2.alloc (Obj.cells #[.int .u8 4, .bool false, .string ⟨#[]⟩, .int .i64 0, .int .i64 (((b : Int) + 1) + 3)] 98) = x3 at *
  clear hX
  have n0 := N3.out.cell 0 _ rfl
  have nf := N3.out.free 0
  have N4 := Lib.hid (N3.out.set 0 (.int .u8 2) (by simp))
  have A4 := Lib.hid (A3.out.other (show x2.heap.size ≠ w.heap.size by omega) 0 (.int .u8 2))
  have B4 := Lib.hid (B3.out.setCell (p := ⟨x2.heap.size, 0, none⟩) (by simp; omega) (.int .u8 2))
  go_upto_region 12 with fail
  generalize hX : x3.setCell ⟨x2.heap.size, 0, none⟩ (.int .u8 2) = x4 at *
  clear hX n0 nf
  go_wp2_with fail
  refine (AY.out _).mono ?_
  rintro e1 w1 ⟨rfl, n5, rfl⟩
  have A5 := Lib.hid (A4.out.step (below_drewN x4 n5))
  have N5 := Lib.hid (N4.out.step (below_drewN x4 n5))
  have B5 := Lib.hid (bdrewB B4.out n5)
  generalize x4.drewN n5 = x5 at *
  have n4 := N5.out.cell 4 _ rfl
  have nf := N5.out.free 4
  have N6 := Lib.hid (N5.out.set 4 (.int .i64 (((b : Int) + 1) + 8)) (by simp))
  have A6 := Lib.hid (A5.out.other (show x2.heap.size ≠ w.heap.size by omega) 4 (.int .i64 (((b : Int) + 1) + 8)))
  have B6 := Lib.hid (B5.out.setCell (p := ⟨x2.heap.size, 4, none⟩) (by simp; omega) (.int .i64 (((b : Int) + 1) + 8)))
  go_upto_region 14 with fail
  generalize hX : x5.setCell ⟨x2.heap.size, 4, none⟩ (.int .i64 (((b : Int) + 1) + 8)) = x6 at *
  clear hX n4 nf
  have m0 := N6.out.cell 0 _ rfl
  have m1 := N6.out.cell 1 _ rfl
  have m2 := N6.out.cell 2 _ rfl
  have m3 := N6.out.cell 3 _ rfl
  have m4 := N6.out.cell 4 _ rfl
  have a0 := A6.out.cell 0 _ rfl
  have f0 := A6.out.free 0
  have a1 := A6.out.cell 1 _ rfl
  have f1 := A6.out.free 1
  have a2 := A6.out.cell 2 _ rfl
  have f2 := A6.out.free 2
  have a3 := A6.out.cell 3 _ rfl
  have f3 := A6.out.free 3
  have a4 := A6.out.cell 4 _ rfl
  have f4 := A6.out.free 4
  go_wp2_with fail
  exact genR_end _ _ w _ _ _ _ _ rfl rfl A6.out B6.out

set_option maxHeartbeats 1600000 in
theorem genR_neg_none (s : ByteArray) (b : Nat) (w : World) (hs : s.size ≤ 140737488351232) (hb : b < s.size) (h1 : s[b] = 45)
    (SC : Hid (∀ W, Calls Tryz.prog 92 #[.string s] W (Same W (.int .i64 (b : Int)))))
    (AN : Hid (∀ W, Calls Tryz.prog 93 #[.string s, .int .i64 ((b : Int) + 1), .string ⟨#[110, 97, 110]⟩] W (BeginsPost W false)))
    (AI : Hid (∀ W, Calls Tryz.prog 93 #[.string s, .int .i64 ((b : Int) + 1), .string ⟨#[105, 110, 102]⟩] W (BeginsPost W false)))
    (PC : Hid (∀ W, Calls Tryz.prog 94 #[.string s, .int .i64 ((b : Int) + 1)] W (Same W (.tuple #[.string ⟨#[]⟩, .int .i64 0, .int .i64 (-1)]))))
    : Calls Tryz.prog 63 #[.string s] w (RetBelow w (.agg #[.int .u8 0, .bool false, .string ⟨#[]⟩, .int .i64 0, .int .i64 0])) := by
  have t2 : ((s[b].toNat : Int) == 45) = true := by rw [h1]; rfl
  clear h1
  have A0 := Lib.hid (CellsAt.new w [.int .u8 0, .bool false, .string ⟨#[]⟩, .int .i64 0, .int .i64 0] 98)
  have B0 := Lib.hid ((Below.refl w.heap.size w).alloc (Nat.le_refl _) (Obj.cells #[.int .u8 0, .bool false, .string ⟨#[]⟩, .int .i64 0, .int .i64 0] 98))
  go_enter Tryz.func63, Tryz.ntmps63
  go_upto_region 1 with fail
  generalize hX : w.alloc (Obj.cells #[.int .u8 0, .bool false, .string ⟨#[]⟩, .int .i64 0, .int .i64 0] 98) = x at *
  clear hX
  go_wp2_with fail
  refine (SC.out _).mono ?_
  rintro e1 w1 ⟨rfl, rfl⟩
  go_wp2_with fail
  refine (AN.out _).mono ?_
  rintro e1 w1 ⟨rfl, n1, rfl⟩
  have A1 := Lib.hid (A0.out.step (below_drewN x n1))
  have B1 := Lib.hid (bdrewB B0.out n1)
  generalize x.drewN n1 = x1 at *
  go_wp2_with fail
  refine (AI.out _).mono ?_
  rintro e1 w1 ⟨rfl, n2, rfl⟩
  have A2 := Lib.hid (A1.out.step (below_drewN x1 n2))
  have B2 := Lib.hid (bdrewB B1.out n2)
  generalize x1.drewN n2 = x2 at *
  go_wp2_with fail
  refine (PC.out _).mono ?_
  rintro e1 w1 ⟨rfl, rfl⟩
  have a0 := A2.out.cell 0 _ rfl
  have f0 := A2.out.free 0
  have a1 := A2.out.cell 1 _ rfl
  have f1 := A2.out.free 1
  have a2 := A2.out.cell 2 _ rfl
  have f2 := A2.out.free 2
  have a3 := A2.out.cell 3 _ rfl
  have f3 := A2.out.free 3
  have a4 := A2.out.cell 4 _ rfl
  have f4 := A2.out.free 4
  go_wp2_with fail
  exact genR_end _ _ w _ _ _ _ _ rfl rfl A2.out B2.out

set_option maxHeartbeats 1600000 in
theorem genR_neg_num (s : ByteArray) (b : Nat) (w : World) (hs : s.size ≤ 140737488351232) (hb : b < s.size) (h1 : s[b] = 45)
    (SC : Hid (∀ W, Calls Tryz.prog 92 #[.string s] W (Same W (.int .i64 (b : Int)))))
    (AN : Hid (∀ W, Calls Tryz.prog 93 #[.string s, .int .i64 ((b : Int) + 1), .string ⟨#[110, 97, 110]⟩] W (BeginsPost W false)))
    (AI : Hid (∀ W, Calls Tryz.prog 93 #[.string s, .int .i64 ((b : Int) + 1), .string ⟨#[105, 110, 102]⟩] W (BeginsPost W false)))
    (D nd : ByteArray) (pt en bh : Nat) (e np : Int) (nb : Bool) (hpt : pt ≤ 140737488351232) (he : -1099511627776 ≤ e ∧ e ≤ 1099511627776)
    (PC : Hid (∀ W, Calls Tryz.prog 94 #[.string s, .int .i64 ((b : Int) + 1)] W (Same W (.tuple #[.string D, .int .i64 pt, .int .i64 en]))))
    (EC : Hid (∀ W, Calls Tryz.prog 95 #[.string s, .int .i64 en] W (Same W (.tuple #[.int .i64 e, .int .i64 bh]))))
    (NC : Hid (∀ W, Calls Tryz.prog 90 #[.agg #[.bool true, .string D, .int .i64 (pt + e), .int .i64 0]] W (RetBelow W (.agg #[.bool nb, .string nd, .int .i64 np, .int .i64 0]))))
    : Calls Tryz.prog 63 #[.string s] w (RetBelow w (.agg #[.int .u8 3, .bool nb, .string nd, .int .i64 np, .int .i64 bh])) := by
  have t2 : ((s[b].toNat : Int) == 45) = true := by rw [h1]; rfl
  clear h1
  obtain ⟨he1, he2⟩ := he
  have A0 := Lib.hid (CellsAt.new w [.int .u8 0, .bool false, .string ⟨#[]⟩, .int .i64 0, .int .i64 0] 98)
  have B0 := Lib.hid ((Below.refl w.heap.size w).alloc (Nat.le_refl _) (Obj.cells #[.int .u8 0, .bool false, .string ⟨#[]⟩, .int .i64 0, .int .i64 0] 98))
  go_enter Tryz.func63, Tryz.ntmps63
  go_upto_region 1 with fail
  generalize hX : w.alloc (Obj.cells #[.int .u8 0, .bool false, .string ⟨#[]⟩, .int .i64 0, .int .i64 0] 98) = x at *
  clear hX
  go_wp2_with fail
  refine (SC.out _).mono ?_
  rintro e1 w1 ⟨rfl, rfl⟩
  go_wp2_with fail
  refine (AN.out _).mono ?_
  rintro e1 w1 ⟨rfl, n1, rfl⟩
  have A1 := Lib.hid (A0.out.step (below_drewN x n1))
  have B1 := Lib.hid (bdrewB B0.out n1)
  generalize x.drewN n1 = x1 at *
  go_wp2_with fail
  refine (AI.out _).mono ?_
  rintro e1 w1 ⟨rfl, n2, rfl⟩
  have A2 := Lib.hid (A1.out.step (below_drewN x1 n2))
  have B2 := Lib.hid (bdrewB B1.out n2)
  generalize x1.drewN n2 = x2 at *
  go_wp2_with fail
  refine (PC.out _).mono ?_
  rintro e1 w1 ⟨rfl, rfl⟩
  go_wp2_with fail
  refine (EC.out _).mono ?_
  rintro e1 w1 ⟨rfl, rfl⟩
  go_wp2_with fail
  refine (NC.out _).mono ?_
  rintro e1 w3 ⟨rfl, hb3⟩
  have A3 := Lib.hid ((A2.out.step hb3).alloc (Obj.cells #[.bool nb, .string nd, .int .i64 np, .int .i64 0] 94))
  have N3 := Lib.hid (CellsAt.new w3 [.bool nb, .string nd, .int .i64 np, .int .i64 0] 94)
  have B3 := Lib.hid ((B2.out.trans (hb3.mono B2.out.size)).alloc (Nat.le_trans B2.out.size hb3.size) (Obj.cells #[.bool nb, .string nd, .int .i64 np, .int .i64 0] 94))
  clear hb3
  go_upto_region 20 with fail
  generalize hX : w3.alloc (Obj.cells #[.bool nb, .string nd, .int .i64 np, .int .i64 0] 94) = x3 at *
  clear hX
  have m0 := N3.out.cell 0 _ rfl
  have m1 := N3.out.cell 1 _ rfl
  have m2 := N3.out.cell 2 _ rfl
  have a0 := A3.out.cell 0 _ rfl
  have f0 := A3.out.free 0
  have a1 := A3.out.cell 1 _ rfl
  have f1 := A3.out.free 1
  have a2 := A3.out.cell 2 _ rfl
  have f2 := A3.out.free 2
  have a3 := A3.out.cell 3 _ rfl
  have f3 := A3.out.free 3
  have a4 := A3.out.cell 4 _ rfl
  have f4 := A3.out.free 4
  go_wp2_with fail
  exact genR_end _ _ w _ _ _ _ _ rfl rfl A3.out B3.out

set_option maxHeartbeats 1600000 in
theorem genR_plus_nan (s : ByteArray) (b : Nat) (w : World) (hs : s.size ≤ 140737488351232) (hb : b < s.size) (h1 : s[b] = 43)
    (SC : Hid (∀ W, Calls Tryz.prog 92 #[.string s] W (Same W (.int .i64 (b : Int)))))
    (AN : Hid (∀ W, Calls Tryz.prog 93 #[.string s, .int .i64 ((b : Int) + 1), .string ⟨#[110, 97, 110]⟩] W (BeginsPost W true)))
    : Calls Tryz.prog 63 #[.string s] w (RetBelow w (.agg #[.int .u8 1, .bool false, .string ⟨#[]⟩, .int .i64 0, .int .i64 (((b : Int) + 1) + 3)])) := by
  have t2 : ((s[b].toNat : Int) == 43) = true := by rw [h1]; rfl
  have t3 : ((s[b].toNat : Int) == 45) = false := by rw [h1]; rfl
  clear h1
  have A0 := Lib.hid (CellsAt.new w [.int .u8 0, .bool false, .string ⟨#[]⟩, .int .i64 0, .int .i64 0] 98)
  have B0 := Lib.hid ((Below.refl w.heap.size w).alloc (Nat.le_refl _) (Obj.cells #[.int .u8 0, .bool false, .string ⟨#[]⟩, .int .i64 0, .int .i64 0] 98))
  go_enter Tryz.func63, Tryz.ntmps63
  go_upto_region 1 with fail
  generalize hX : w.alloc (Obj.cells #[.int .u8 0, .bool false, .string ⟨#[]⟩, .int .i64 0, .int .i64 0] 98) = x at *
  clear hX
  go_wp2_with fail
  refine (SC.out _).mono ?_
  rintro e1 w1 ⟨rfl, rfl⟩
  go_wp2_with fail
  refine (AN.out _).mono ?_
  rintro e1 w1 ⟨rfl, n1, rfl⟩
  have A1 := Lib.hid (A0.out.step (below_drewN x n1))
  have B1 := Lib.hid (bdrewB B0.out n1)
  generalize x.drewN n1 = x1 at *
  have a0 := A1.out.cell 0 _ rfl
  have f0 := A1.out.free 0
  have a1 := A1.out.cell 1 _ rfl
  have f1 := A1.out.free 1
  have a2 := A1.out.cell 2 _ rfl
  have f2 := A1.out.free 2
  have a3 := A1.out.cell 3 _ rfl
  have f3 := A1.out.free 3
  have a4 := A1.out.cell 4 _ rfl
  have f4 := A1.out.free 4
  go_wp2_with fail
  exact genR_end _ _ w _ _ _ _ _ rfl rfl A1.out B1.out

set_option maxHeartbeats 1600000 in
theorem genR_plus_inf (s : ByteArray) (b : Nat) (w : World) (hs : s.size ≤ 140737488351232) (hb : b < s.size) (h1 : s[b] = 43)
    (SC : Hid (∀ W, Calls Tryz.prog 92 #[.string s] W (Same W (.int .i64 (b : Int)))))
    (AN : Hid (∀ W, Calls Tryz.prog 93 #[.string s, .int .i64 ((b : Int) + 1), .string ⟨#[110, 97, 110]⟩] W (BeginsPost W false)))
    (AI : Hid (∀ W, Calls Tryz.prog 93 #[.string s, .int .i64 ((b : Int) + 1), .string ⟨#[105, 110, 102]⟩] W (BeginsPost W true)))
    (AY : Hid (∀ W, Calls Tryz.prog 93 #[.string s, .int .i64 ((b : Int) + 1), .string ⟨#[105, 110, 102, 105, 110, 105, 116, 121]⟩] W (BeginsPost W false)))
    : Calls Tryz.prog 63 #[.string s] w (RetBelow w (.agg #[.int .u8 4, .bool false, .string ⟨#[]⟩, .int .i64 0, .int .i64 (((b : Int) + 1) + 3)])) := by
  have t2 : ((s[b].toNat : Int) == 43) = true := by rw [h1]; rfl
  have t3 : ((s[b].toNat : Int) == 45) = false := by rw [h1]; rfl
  clear h1
  have A0 := Lib.hid (CellsAt.new w [.int .u8 0, .bool false, .string ⟨#[]⟩, .int .i64 0, .int .i64 0] 98)
  have B0 := Lib.hid ((Below.refl w.heap.size w).alloc (Nat.le_refl _) (Obj.cells #[.int .u8 0, .bool false, .string ⟨#[]⟩, .int .i64 0, .int .i64 0] 98))
  go_enter Tryz.func63, Tryz.ntmps63
  go_upto_region 1 with fail
  generalize hX : w.alloc (Obj.cells #[.int .u8 0, .bool false, .string ⟨#[]⟩, .int .i64 0, .int .i64 0] 98) = x at *
  clear hX
  go_wp2_with fail
  refine (SC.out _).mono ?_
  rintro e1 w1 ⟨rfl, rfl⟩
  go_wp2_with fail
  refine (AN.out _).mono ?_
  rintro e1 w1 ⟨rfl, n1, rfl⟩
  have A1 := Lib.hid (A0.out.step (below_drewN x n1))
  have B1 := Lib.hid (bdrewB B0.out n1)
  generalize x.drewN n1 = x1 at *
  go_wp2_with fail
  refine (AI.out _).mono ?_
  rintro e1 w1 ⟨rfl, n2, rfl⟩
  have A2 := Lib.hid (A1.out.step (below_drewN x1 n2))
  have B2 := Lib.hid (bdrewB B1.out n2)
  generalize x1.drewN n2 = x2 at *
  go_upto_region 10 with fail
  have A3 := Lib.hid (A2.out.alloc (Obj.cells #[.int .u8 4, .bool false, .string ⟨#[]⟩, .int .i64 0, .int .i64 (((b : Int) + 1) + 3)] 98))
  have N3 := Lib.hid (CellsAt.new x2 [.int .u8 4, .bool false, .string ⟨#[]⟩, .int .i64 0, .int .i64 (((b : Int) + 1) + 3)] 98)
  have B3 := Lib.hid (B2.out.alloc B2.out.size (Obj.cells #[.int .u8 4, .bool false, .string ⟨#[]⟩, .int .i64 0, .int .i64 (((b : Int) + 1) + 3)] 98))
  have hl : w.heap.size < x2.heap.size := A2.out.lt
  generalize hX : x2.alloc (Obj.cells #[.int .u8 4, .bool false, .string ⟨#[]⟩, .int .i64 0, .int .i64 (((b : Int) + 1) + 3)] 98) = x3 at *
  clear hX
  have N4 := N3
  have A4 := A3
  have B4 := B3
  clear N3 A3 B3
  generalize hX : x3 = x4 at *
  clear hX
  go_wp2_with fail
  refine (AY.out _).mono ?_
  rintro e1 w1 ⟨rfl, n5, rfl⟩
  have A5 := Lib.hid (A4.out.step (below_drewN x4 n5))
  have N5 := Lib.hid (N4.out.step (below_drewN x4 n5))
  have B5 := Lib.hid (bdrewB B4.out n5)
  generalize x4.drewN n5 = x5 at *
  have N6 := N5
  have A6 := A5
  have B6 := B5
  clear A5 B5
  have m0 := N6.out.cell 0 _ rfl
  have m1 := N6.out.cell 1 _ rfl
  have m2 := N6.out.cell 2 _ rfl
  have m3 := N6.out.cell 3 _ rfl
  have m4 := N6.out.cell 4 _ rfl
  have a0 := A6.out.cell 0 _ rfl
  have f0 := A6.out.free 0
  have a1 := A6.out.cell 1 _ rfl
  have f1 := A6.out.free 1
  have a2 := A6.out.cell 2 _ rfl
  have f2 := A6.out.free 2
  have a3 := A6.out.cell 3 _ rfl
  have f3 := A6.out.free 3
  have a4 := A6.out.cell 4 _ rfl
  have f4 := A6.out.free 4
  go_wp2_with fail
  exact genR_end _ _ w _ _ _ _ _ rfl rfl A6.out B6.out

set_option maxHeartbeats 1600000 in
theorem genR_plus_infinity (s : ByteArray) (b : Nat) (w : World) (hs : s.size ≤ 140737488351232) (hb : b < s.size) (h1 : s[b] = 43)
    (SC : Hid (∀ W, Calls Tryz.prog 92 #[.string s] W (Same W (.int .i64 (b : Int)))))
    (AN : Hid (∀ W, Calls Tryz.prog 93 #[.string s, .int .i64 ((b : Int) + 1), .string ⟨#[110, 97, 110]⟩] W (BeginsPost W false)))
    (AI : Hid (∀ W, Calls Tryz.prog 93 #[.string s, .int .i64 ((b : Int) + 1), .string ⟨#[105, 110, 102]⟩] W (BeginsPost W true)))
    (AY : Hid (∀ W, Calls Tryz.prog 93 #[.string s, .int .i64 ((b : Int) + 1), .string ⟨#[105, 110, 102, 105, 110, 105, 116, 121]⟩] W (BeginsPost W true)))
    : Calls Tryz.prog 63 #[.string s] w (RetBelow w (.agg #[.int .u8 4, .bool false, .string ⟨#[]⟩, .int .i64 0, .int .i64 (((b : Int) + 1) + 8)])) := by
  have t2 : ((s[b].toNat : Int) == 43) = true := by rw [h1]; rfl
  have t3 : ((s[b].toNat : Int) == 45) = false := by rw [h1]; rfl
  clear h1
  have A0 := Lib.hid (CellsAt.new w [.int .u8 0, .bool false, .string ⟨#[]⟩, .int .i64 0, .int .i64 0] 98)
  have B0 := Lib.hid ((Below.refl w.heap.size w).alloc (Nat.le_refl _) (Obj.cells #[.int .u8 0, .bool false, .string ⟨#[]⟩, .int .i64 0, .int .i64 0] 98))
  go_enter Tryz.func63, Tryz.ntmps63
  go_upto_region 1 with fail
  generalize hX : w.alloc (Obj.cells #[.int .u8 0, .bool false, .string ⟨#[]⟩, .int .i64 0, .int .i64 0] 98) = x at *
  clear hX
  go_wp2_with fail
  refine (SC.out _).mono ?_
  rintro e1 w1 ⟨rfl, rfl⟩
  go_wp2_with fail
  refine (AN.out _).mono ?_
  rintro e1 w1 ⟨rfl, n1, rfl⟩
  have A1 := Lib.hid (A0.out.step (below_drewN x n1))
  have B1 := Lib.hid (bdrewB B0.out n1)
  generalize x.drewN n1 = x1 at *
  go_wp2_with fail
  refine (AI.out _).mono ?_
  rintro e1 w1 ⟨rfl, n2, rfl⟩
  have A2 := Lib.hid (A1.out.step (below_drewN x1 n2))
  have B2 := Lib.hid (bdrewB B1.out n2)
  generalize x1.drewN n2 = x2 at *
  go_upto_region 10 with fail
  have A3 := Lib.hid (A2.out.alloc (Obj.cells #[.int .u8 4, .bool false, .string ⟨#[]⟩, .int .i64 0, .int .i64 (((b : Int) + 1) + 3)] 98))
  have N3 := Lib.hid (CellsAt.new x2 [.int .u8 4, .bool false, .string ⟨#[]⟩, .int .i64 0, .int .i64 (((b : Int) + 1) + 3)] 98)
  have B3 := Lib.hid (B2.out.alloc B2.out.size (Obj.cells #[.int .u8 4, .bool false, .string ⟨#[]⟩, .int .i64 0, .int .i64 (((b : Int) + 1) + 3)] 98))
  have hl : w.heap.size < x2.heap.size := A2.out.lt
  generalize hX : x2.alloc (Obj.cells #[.int .u8 4, .bool false, .string ⟨#[]⟩, .int .i64 0, .int .i64 (((b : Int) + 1) + 3)] 98) = x3 at *
  clear hX
  have N4 := N3
  have A4 := A3
  have B4 := B3
  clear N3 A3 B3
  generalize hX : x3 = x4 at *
  clear hX
  go_wp2_with fail
  refine (AY.out _).mono ?_
  rintro e1 w1 ⟨rfl, n5, rfl⟩
  have A5 := Lib.hid (A4.out.step (below_drewN x4 n5))
  have N5 := Lib.hid (N4.out.step (below_drewN x4 n5))
  have B5 := Lib.hid (bdrewB B4.out n5)
  generalize x4.drewN n5 = x5 at *
  have n4 := N5.out.cell 4 _ rfl
  have nf := N5.out.free 4
  have N6 := Lib.hid (N5.out.set 4 (.int .i64 (((b : Int) + 1) + 8)) (by simp))
  have A6 := Lib.hid (A5.out.other (show x2.heap.size ≠ w.heap.size by omega) 4 (.int .i64 (((b : Int) + 1) + 8)))
  have B6 := Lib.hid (B5.out.setCell (p := ⟨x2.heap.size, 4, none⟩) (by simp; omega) (.int .i64 (((b : Int) + 1) + 8)))
  go_upto_region 14 with fail
  generalize hX : x5.setCell ⟨x2.heap.size, 4, none⟩ (.int .i64 (((b : Int) + 1) + 8)) = x6 at *
  clear hX n4 nf
  have m0 := N6.out.cell 0 _ rfl
  have m1 := N6.out.cell 1 _ rfl
  have m2 := N6.out.cell 2 _ rfl
  have m3 := N6.out.cell 3 _ rfl
  have m4 := N6.out.cell 4 _ rfl
  have a0 := A6.out.cell 0 _ rfl
  have f0 := A6.out.free 0
  have a1 := A6.out.cell 1 _ rfl
  have f1 := A6.out.free 1
  have a2 := A6.out.cell 2 _ rfl
  have f2 := A6.out.free 2
  have a3 := A6.out.cell 3 _ rfl
  have f3 := A6.out.free 3
  have a4 := A6.out.cell 4 _ rfl
  have f4 := A6.out.free 4
  go_wp2_with fail
  exact genR_end _ _ w _ _ _ _ _ rfl rfl A6.out B6.out

set_option maxHeartbeats 1600000 in
theorem genR_plus_none (s : ByteArray) (b : Nat) (w : World) (hs : s.size ≤ 140737488351232) (hb : b < s.size) (h1 : s[b] = 43)
    (SC : Hid (∀ W, Calls Tryz.prog 92 #[.string s] W (Same W (.int .i64 (b : Int)))))
    (AN : Hid (∀ W, Calls Tryz.prog 93 #[.string s, .int .i64 ((b : Int) + 1), .string ⟨#[110, 97, 110]⟩] W (BeginsPost W false)))
    (AI : Hid (∀ W, Calls Tryz.prog 93 #[.string s, .int .i64 ((b : Int) + 1), .string ⟨#[105, 110, 102]⟩] W (BeginsPost W false)))
    (PC : Hid (∀ W, Calls Tryz.prog 94 #[.string s, .int .i64 ((b : Int) + 1)] W (Same W (.tuple #[.string ⟨#[]⟩, .int .i64 0, .int .i64 (-1)]))))
    : Calls Tryz.prog 63 #[.string s] w (RetBelow w (.agg #[.int .u8 0, .bool false, .string ⟨#[]⟩, .int .i64 0, .int .i64 0])) := by
  have t2 : ((s[b].toNat : Int) == 43) = true := by rw [h1]; rfl
  have t3 : ((s[b].toNat : Int) == 45) = false := by rw [h1]; rfl
  clear h1
  have A0 := Lib.hid (CellsAt.new w [.int .u8 0, .bool false, .string ⟨#[]⟩, .int .i64 0, .int .i64 0] 98)
  have B0 := Lib.hid ((Below.refl w.heap.size w).alloc (Nat.le_refl _) (Obj.cells #[.int .u8 0, .bool false, .string ⟨#[]⟩, .int .i64 0, .int .i64 0] 98))
  go_enter Tryz.func63, Tryz.ntmps63
  go_upto_region 1 with fail
  generalize hX : w.alloc (Obj.cells #[.int .u8 0, .bool false, .string ⟨#[]⟩, .int .i64 0, .int .i64 0] 98) = x at *
  clear hX
  go_wp2_with fail
  refine (SC.out _).mono ?_
  rintro e1 w1 ⟨rfl, rfl⟩
  go_wp2_with fail
  refine (AN.out _).mono ?_
  rintro e1 w1 ⟨rfl, n1, rfl⟩
  have A1 := Lib.hid (A0.out.step (below_drewN x n1))
  have B1 := Lib.hid (bdrewB B0.out n1)
  generalize x.drewN n1 = x1 at *
  go_wp2_with fail
  refine (AI.out _).mono ?_
  rintro e1 w1 ⟨rfl, n2, rfl⟩
  have A2 := Lib.hid (A1.out.step (below_drewN x1 n2))
  have B2 := Lib.hid (bdrewB B1.out n2)
  generalize x1.drewN n2 = x2 at *
  go_wp2_with fail
  refine (PC.out _).mono ?_
  rintro e1 w1 ⟨rfl, rfl⟩
  have a0 := A2.out.cell 0 _ rfl
  have f0 := A2.out.free 0
  have a1 := A2.out.cell 1 _ rfl
  have f1 := A2.out.free 1
  have a2 := A2.out.cell 2 _ rfl
  have f2 := A2.out.free 2
  have a3 := A2.out.cell 3 _ rfl
  have f3 := A2.out.free 3
  have a4 := A2.out.cell 4 _ rfl
  have f4 := A2.out.free 4
  go_wp2_with fail
  exact genR_end _ _ w _ _ _ _ _ rfl rfl A2.out B2.out

set_option maxHeartbeats 1600000 in
theorem genR_plus_num (s : ByteArray) (b : Nat) (w : World) (hs : s.size ≤ 140737488351232) (hb : b < s.size) (h1 : s[b] = 43)
    (SC : Hid (∀ W, Calls Tryz.prog 92 #[.string s] W (Same W (.int .i64 (b : Int)))))
    (AN : Hid (∀ W, Calls Tryz.prog 93 #[.string s, .int .i64 ((b : Int) + 1), .string ⟨#[110, 97, 110]⟩] W (BeginsPost W false)))
    (AI : Hid (∀ W, Calls Tryz.prog 93 #[.string s, .int .i64 ((b : Int) + 1), .string ⟨#[105, 110, 102]⟩] W (BeginsPost W false)))
    (D nd : ByteArray) (pt en bh : Nat) (e np : Int) (nb : Bool) (hpt : pt ≤ 140737488351232) (he : -1099511627776 ≤ e ∧ e ≤ 1099511627776)
    (PC : Hid (∀ W, Calls Tryz.prog 94 #[.string s, .int .i64 ((b : Int) + 1)] W (Same W (.tuple #[.string D, .int .i64 pt, .int .i64 en]))))
    (EC : Hid (∀ W, Calls Tryz.prog 95 #[.string s, .int .i64 en] W (Same W (.tuple #[.int .i64 e, .int .i64 bh]))))
    (NC : Hid (∀ W, Calls Tryz.prog 90 #[.agg #[.bool false, .string D, .int .i64 (pt + e), .int .i64 0]] W (RetBelow W (.agg #[.bool nb, .string nd, .int .i64 np, .int .i64 0]))))
    : Calls Tryz.prog 63 #[.string s] w (RetBelow w (.agg #[.int .u8 3, .bool nb, .string nd, .int .i64 np, .int .i64 bh])) := by
  have t2 : ((s[b].toNat : Int) == 43) = true := by rw [h1]; rfl
  have t3 : ((s[b].toNat : Int) == 45) = false := by rw [h1]; rfl
  clear h1
  obtain ⟨he1, he2⟩ := he
  have A0 := Lib.hid (CellsAt.new w [.int .u8 0, .bool false, .string ⟨#[]⟩, .int .i64 0, .int .i64 0] 98)
  have B0 := Lib.hid ((Below.refl w.heap.size w).alloc (Nat.le_refl _) (Obj.cells #[.int .u8 0, .bool false, .string ⟨#[]⟩, .int .i64 0, .int .i64 0] 98))
  go_enter Tryz.func63, Tryz.ntmps63
  go_upto_region 1 with fail
  generalize hX : w.alloc (Obj.cells #[.int .u8 0, .bool false, .string ⟨#[]⟩, .int .i64 0, .int .i64 0] 98) = x at *
  clear hX
  go_wp2_with fail
  refine (SC.out _).mono ?_
  rintro e1 w1 ⟨rfl, rfl⟩
  go_wp2_with fail
  refine (AN.out _).mono ?_
  rintro e1 w1 ⟨rfl, n1, rfl⟩
  have A1 := Lib.hid (A0.out.step (below_drewN x n1))
  have B1 := Lib.hid (bdrewB B0.out n1)
  generalize x.drewN n1 = x1 at *
  go_wp2_with fail
  refine (AI.out _).mono ?_
  rintro e1 w1 ⟨rfl, n2, rfl⟩
  have A2 := Lib.hid (A1.out.step (below_drewN x1 n2))
  have B2 := Lib.hid (bdrewB B1.out n2)
  generalize x1.drewN n2 = x2 at *
  go_wp2_with fail
  refine (PC.out _).mono ?_
  rintro e1 w1 ⟨rfl, rfl⟩
  go_wp2_with fail
  refine (EC.out _).mono ?_
  rintro e1 w1 ⟨rfl, rfl⟩
  go_wp2_with fail
  refine (NC.out _).mono ?_
  rintro e1 w3 ⟨rfl, hb3⟩
  have A3 := Lib.hid ((A2.out.step hb3).alloc (Obj.cells #[.bool nb, .string nd, .int .i64 np, .int .i64 0] 94))
  have N3 := Lib.hid (CellsAt.new w3 [.bool nb, .string nd, .int .i64 np, .int .i64 0] 94)
  have B3 := Lib.hid ((B2.out.trans (hb3.mono B2.out.size)).alloc (Nat.le_trans B2.out.size hb3.size) (Obj.cells #[.bool nb, .string nd, .int .i64 np, .int .i64 0] 94))
  clear hb3
  go_upto_region 20 with fail
  generalize hX : w3.alloc (Obj.cells #[.bool nb, .string nd, .int .i64 np, .int .i64 0] 94) = x3 at *
  clear hX
  have m0 := N3.out.cell 0 _ rfl
  have m1 := N3.out.cell 1 _ rfl
  have m2 := N3.out.cell 2 _ rfl
  have a0 := A3.out.cell 0 _ rfl
  have f0 := A3.out.free 0
  have a1 := A3.out.cell 1 _ rfl
  have f1 := A3.out.free 1
  have a2 := A3.out.cell 2 _ rfl
  have f2 := A3.out.free 2
  have a3 := A3.out.cell 3 _ rfl
  have f3 := A3.out.free 3
  have a4 := A3.out.cell 4 _ rfl
  have f4 := A3.out.free 4
  go_wp2_with fail
  exact genR_end _ _ w _ _ _ _ _ rfl rfl A3.out B3.out

set_option maxHeartbeats 1600000 in
theorem genR_bare_nan (s : ByteArray) (b : Nat) (w : World) (hs : s.size ≤ 140737488351232) (hb : b < s.size) (t2 : ((s[b].toNat : Int) == 45) = false) (t3 : ((s[b].toNat : Int) == 43) = false)
    (SC : Hid (∀ W, Calls Tryz.prog 92 #[.string s] W (Same W (.int .i64 (b : Int)))))
    (AN : Hid (∀ W, Calls Tryz.prog 93 #[.string s, .int .i64 (b : Int), .string ⟨#[110, 97, 110]⟩] W (BeginsPost W true)))
    : Calls Tryz.prog 63 #[.string s] w (RetBelow w (.agg #[.int .u8 1, .bool false, .string ⟨#[]⟩, .int .i64 0, .int .i64 ((b : Int) + 3)])) := by
  have A0 := Lib.hid (CellsAt.new w [.int .u8 0, .bool false, .string ⟨#[]⟩, .int .i64 0, .int .i64 0] 98)
  have B0 := Lib.hid ((Below.refl w.heap.size w).alloc (Nat.le_refl _) (Obj.cells #[.int .u8 0, .bool false, .string ⟨#[]⟩, .int .i64 0, .int .i64 0] 98))
  go_enter Tryz.func63, Tryz.ntmps63
  go_upto_region 1 with fail
  generalize hX : w.alloc (Obj.cells #[.int .u8 0, .bool false, .string ⟨#[]⟩, .int .i64 0, .int .i64 0] 98) = x at *
  clear hX
  go_wp2_with fail
  refine (SC.out _).mono ?_
  rintro e1 w1 ⟨rfl, rfl⟩
  go_wp2_with fail
  refine (AN.out _).mono ?_
  rintro e1 w1 ⟨rfl, n1, rfl⟩
  have A1 := Lib.hid (A0.out.step (below_drewN x n1))
  have B1 := Lib.hid (bdrewB B0.out n1)
  generalize x.drewN n1 = x1 at *
  have a0 := A1.out.cell 0 _ rfl
  have f0 := A1.out.free 0
  have a1 := A1.out.cell 1 _ rfl
  have f1 := A1.out.free 1
  have a2 := A1.out.cell 2 _ rfl
  have f2 := A1.out.free 2
  have a3 := A1.out.cell 3 _ rfl
  have f3 := A1.out.free 3
  have a4 := A1.out.cell 4 _ rfl
  have f4 := A1.out.free 4
  go_wp2_with fail
  exact genR_end _ _ w _ _ _ _ _ rfl rfl A1.out B1.out

set_option maxHeartbeats 1600000 in
theorem genR_bare_inf (s : ByteArray) (b : Nat) (w : World) (hs : s.size ≤ 140737488351232) (hb : b < s.size) (t2 : ((s[b].toNat : Int) == 45) = false) (t3 : ((s[b].toNat : Int) == 43) = false)
    (SC : Hid (∀ W, Calls Tryz.prog 92 #[.string s] W (Same W (.int .i64 (b : Int)))))
    (AN : Hid (∀ W, Calls Tryz.prog 93 #[.string s, .int .i64 (b : Int), .string ⟨#[110, 97, 110]⟩] W (BeginsPost W false)))
    (AI : Hid (∀ W, Calls Tryz.prog 93 #[.string s, .int .i64 (b : Int), .string ⟨#[105, 110, 102]⟩] W (BeginsPost W true)))
    (AY : Hid (∀ W, Calls Tryz.prog 93 #[.string s, .int .i64 (b : Int), .string ⟨#[105, 110, 102, 105, 110, 105, 116, 121]⟩] W (BeginsPost W false)))
    : Calls Tryz.prog 63 #[.string s] w (RetBelow w (.agg #[.int .u8 4, .bool false, .string ⟨#[]⟩, .int .i64 0, .int .i64 ((b : Int) + 3)])) := by
  have A0 := Lib.hid (CellsAt.new w [.int .u8 0, .bool false, .string ⟨#[]⟩, .int .i64 0, .int .i64 0] 98)
  have B0 := Lib.hid ((Below.refl w.heap.size w).alloc (Nat.le_refl _) (Obj.cells #[.int .u8 0, .bool false, .string ⟨#[]⟩, .int .i64 0, .int .i64 0] 98))
  go_enter Tryz.func63, Tryz.ntmps63
  go_upto_region 1 with fail
  generalize hX : w.alloc (Obj.cells #[.int .u8 0, .bool false, .string ⟨#[]⟩, .int .i64 0, .int .i64 0] 98) = x at *
  clear hX
  go_wp2_with fail
  refine (SC.out _).mono ?_
  rintro e1 w1 ⟨rfl, rfl⟩
  go_wp2_with fail
  refine (AN.out _).mono ?_
  rintro e1 w1 ⟨rfl, n1, rfl⟩
  have A1 := Lib.hid (A0.out.step (below_drewN x n1))
  have B1 := Lib.hid (bdrewB B0.out n1)
  generalize x.drewN n1 = x1 at *
  go_wp2_with fail
  refine (AI.out _).mono ?_
  rintro e1 w1 ⟨rfl, n2, rfl⟩
  have A2 := Lib.hid (A1.out.step (below_drewN x1 n2))
  have B2 := Lib.hid (bdrewB B1.out n2)
  generalize x1.drewN n2 = x2 at *
  go_upto_region 10 with fail
  have A3 := Lib.hid (A2.out.alloc (Obj.cells #[.int .u8 4, .bool false, .string ⟨#[]⟩, .int .i64 0, .int .i64 ((b : Int) + 3)] 98))
  have N3 := Lib.hid (CellsAt.new x2 [.int .u8 4, .bool false, .string ⟨#[]⟩, .int .i64 0, .int .i64 ((b : Int) + 3)] 98)
  have B3 := Lib.hid (B2.out.alloc B2.out.size (Obj.cells #[.int .u8 4, .bool false, .string ⟨#[]⟩, .int .i64 0, .int .i64 ((b : Int) + 3)] 98))
  have hl : w.heap.size < x2.heap.size := A2.out.lt
  generalize hX : x2.alloc (Obj.cells #[.int .u8 4, .bool false, .string ⟨#[]⟩, .int .i64 0, .int .i64 ((b : Int) + 3)] 98) = x3 at *
  clear hX
  have N4 := N3
  have A4 := A3
  have B4 := B3
  clear N3 A3 B3
  generalize hX : x3 = x4 at *
  clear hX
  go_wp2_with fail
  refine (AY.out _).mono ?_
  rintro e1 w1 ⟨rfl, n5, rfl⟩
  have A5 := Lib.hid (A4.out.step (below_drewN x4 n5))
  have N5 := Lib.hid (N4.out.step (below_drewN x4 n5))
  have B5 := Lib.hid (bdrewB B4.out n5)
  generalize x4.drewN n5 = x5 at *
  have N6 := N5
  have A6 := A5
  have B6 := B5
  clear A5 B5
  have m0 := N6.out.cell 0 _ rfl
  have m1 := N6.out.cell 1 _ rfl
  have m2 := N6.out.cell 2 _ rfl
  have m3 := N6.out.cell 3 _ rfl
  have m4 := N6.out.cell 4 _ rfl
  have a0 := A6.out.cell 0 _ rfl
  have f0 := A6.out.free 0
  have a1 := A6.out.cell 1 _ rfl
  have f1 := A6.out.free 1
  have a2 := A6.out.cell 2 _ rfl
  have f2 := A6.out.free 2
  have a3 := A6.out.cell 3 _ rfl
  have f3 := A6.out.free 3
  have a4 := A6.out.cell 4 _ rfl
  have f4 := A6.out.free 4
  go_wp2_with fail
  exact genR_end _ _ w _ _ _ _ _ rfl rfl A6.out B6.out

set_option maxHeartbeats 1600000 in
theorem genR_bare_infinity (s : ByteArray) (b : Nat) (w : World) (hs : s.size ≤ 140737488351232) (hb : b < s.size) (t2 : ((s[b].toNat : Int) == 45) = false) (t3 : ((s[b].toNat : Int) == 43) = false)
    (SC : Hid (∀ W, Calls Tryz.prog 92 #[.string s] W (Same W (.int .i64 (b : Int)))))
    (AN : Hid (∀ W, Calls Tryz.prog 93 #[.string s, .int .i64 (b : Int), .string ⟨#[110, 97, 110]⟩] W (BeginsPost W false)))
    (AI : Hid (∀ W, Calls Tryz.prog 93 #[.string s, .int .i64 (b : Int), .string ⟨#[105, 110, 102]⟩] W (BeginsPost W true)))
    (AY : Hid (∀ W, Calls Tryz.prog 93 #[.string s, .int .i64 (b : Int), .string ⟨#[105, 110, 102, 105, 110, 105, 116, 121]⟩] W (BeginsPost W true)))
    : Calls Tryz.prog 63 #[.string s] w (RetBelow w (.agg #[.int .u8 4, .bool false, .string ⟨#[]⟩, .int .i64 0, .int .i64 ((b : Int) + 8)])) := by
  have A0 := Lib.hid (CellsAt.new w [.int .u8 0, .bool false, .string ⟨#[]⟩, .int .i64 0, .int .i64 0] 98)
  have B0 := Lib.hid ((Below.refl w.heap.size w).alloc (Nat.le_refl _) (Obj.cells #[.int .u8 0, .bool false, .string ⟨#[]⟩, .int .i64 0, .int .i64 0] 98))
  go_enter Tryz.func63, Tryz.ntmps63
  go_upto_region 1 with fail
  generalize hX : w.alloc (Obj.cells #[.int .u8 0, .bool false, .string ⟨#[]⟩, .int .i64 0, .int .i64 0] 98) = x at *
  clear hX
  go_wp2_with fail
  refine (SC.out _).mono ?_
  rintro e1 w1 ⟨rfl, rfl⟩
  go_wp2_with fail
  refine (AN.out _).mono ?_
  rintro e1 w1 ⟨rfl, n1, rfl⟩
  have A1 := Lib.hid (A0.out.step (below_drewN x n1))
  have B1 := Lib.hid (bdrewB B0.out n1)
  generalize x.drewN n1 = x1 at *
  go_wp2_with fail
  refine (AI.out _).mono ?_
  rintro e1 w1 ⟨rfl, n2, rfl⟩
  have A2 := Lib.hid (A1.out.step (below_drewN x1 n2))
  have B2 := Lib.hid (bdrewB B1.out n2)
  generalize x1.drewN n2 = x2 at *
  go_upto_region 10 with fail
  have A3 := Lib.hid (A2.out.alloc (Obj.cells #[.int .u8 4, .bool false, .string ⟨#[]⟩, .int .i64 0, .int .i64 ((b : Int) + 3)] 98))
  have N3 := Lib.hid (CellsAt.new x2 [.int .u8 4, .bool false, .string ⟨#[]⟩, .int .i64 0, .int .i64 ((b : Int) + 3)] 98)
  have B3 := Lib.hid (B2.out.alloc B2.out.size (Obj.cells #[.int .u8 4, .bool false, .string ⟨#[]⟩, .int .i64 0, .int .i64 ((b : Int) + 3)] 98))
  have hl : w.heap.size < x2.heap.size := A2.out.lt
  generalize hX : x2.alloc (Obj.cells #[.int .u8 4, .bool false, .string ⟨#[]⟩, .int .i64 0, .int .i64 ((b : Int) + 3)] 98) = x3 at *
  clear hX
  have N4 := N3
  have A4 := A3
  have B4 := B3
  clear N3 A3 B3
  generalize hX : x3 = x4 at *
  clear hX
  go_wp2_with fail
  refine (AY.out _).mono ?_
  rintro e1 w1 ⟨rfl, n5, rfl⟩
  have A5 := Lib.hid (A4.out.step (below_drewN x4 n5))
  have N5 := Lib.hid (N4.out.step (below_drewN x4 n5))
  have B5 := Lib.hid (bdrewB B4.out n5)
  generalize x4.drewN n5 = x5 at *
  have n4 := N5.out.cell 4 _ rfl
  have nf := N5.out.free 4
  have N6 := Lib.hid (N5.out.set 4 (.int .i64 ((b : Int) + 8)) (by simp))
  have A6 := Lib.hid (A5.out.other (show x2.heap.size ≠ w.heap.size by omega) 4 (.int .i64 ((b : Int) + 8)))
  have B6 := Lib.hid (B5.out.setCell (p := ⟨x2.heap.size, 4, none⟩) (by simp; omega) (.int .i64 ((b : Int) + 8)))
  go_upto_region 14 with fail
  generalize hX : x5.setCell ⟨x2.heap.size, 4, none⟩ (.int .i64 ((b : Int) + 8)) = x6 at *
  clear hX n4 nf
  have m0 := N6.out.cell 0 _ rfl
  have m1 := N6.out.cell 1 _ rfl
  have m2 := N6.out.cell 2 _ rfl
  have m3 := N6.out.cell 3 _ rfl
  have m4 := N6.out.cell 4 _ rfl
  have a0 := A6.out.cell 0 _ rfl
  have f0 := A6.out.free 0
  have a1 := A6.out.cell 1 _ rfl
  have f1 := A6.out.free 1
  have a2 := A6.out.cell 2 _ rfl
  have f2 := A6.out.free 2
  have a3 := A6.out.cell 3 _ rfl
  have f3 := A6.out.free 3
  have a4 := A6.out.cell 4 _ rfl
  have f4 := A6.out.free 4
  go_wp2_with fail
  exact genR_end _ _ w _ _ _ _ _ rfl rfl A6.out B6.out

set_option maxHeartbeats 1600000 in
theorem genR_bare_none (s : ByteArray) (b : Nat) (w : World) (hs : s.size ≤ 140737488351232) (hb : b < s.size) (t2 : ((s[b].toNat : Int) == 45) = false) (t3 : ((s[b].toNat : Int) == 43) = false)
    (SC : Hid (∀ W, Calls Tryz.prog 92 #[.string s] W (Same W (.int .i64 (b : Int)))))
    (AN : Hid (∀ W, Calls Tryz.prog 93 #[.string s, .int .i64 (b : Int), .string ⟨#[110, 97, 110]⟩] W (BeginsPost W false)))
    (AI : Hid (∀ W, Calls Tryz.prog 93 #[.string s, .int .i64 (b : Int), .string ⟨#[105, 110, 102]⟩] W (BeginsPost W false)))
    (PC : Hid (∀ W, Calls Tryz.prog 94 #[.string s, .int .i64 (b : Int)] W (Same W (.tuple #[.string ⟨#[]⟩, .int .i64 0, .int .i64 (-1)]))))
    : Calls Tryz.prog 63 #[.string s] w (RetBelow w (.agg #[.int .u8 0, .bool false, .string ⟨#[]⟩, .int .i64 0, .int .i64 0])) := by
  have A0 := Lib.hid (CellsAt.new w [.int .u8 0, .bool false, .string ⟨#[]⟩, .int .i64 0, .int .i64 0] 98)
  have B0 := Lib.hid ((Below.refl w.heap.size w).alloc (Nat.le_refl _) (Obj.cells #[.int .u8 0, .bool false, .string ⟨#[]⟩, .int .i64 0, .int .i64 0] 98))
  go_enter Tryz.func63, Tryz.ntmps63
  go_upto_region 1 with fail
  generalize hX : w.alloc (Obj.cells #[.int .u8 0, .bool false, .string ⟨#[]⟩, .int .i64 0, .int .i64 0] 98) = x at *
  clear hX
  go_wp2_with fail
  refine (SC.out _).mono ?_
  rintro e1 w1 ⟨rfl, rfl⟩
  go_wp2_with fail
  refine (AN.out _).mono ?_
  rintro e1 w1 ⟨rfl, n1, rfl⟩
  have A1 := Lib.hid (A0.out.step (below_drewN x n1))
  have B1 := Lib.hid (bdrewB B0.out n1)
  generalize x.drewN n1 = x1 at *
  go_wp2_with fail
  refine (AI.out _).mono ?_
  rintro e1 w1 ⟨rfl, n2, rfl⟩
  have A2 := Lib.hid (A1.out.step (below_drewN x1 n2))
  have B2 := Lib.hid (bdrewB B1.out n2)
  generalize x1.drewN n2 = x2 at *
  go_wp2_with fail
  refine (PC.out _).mono ?_
  rintro e1 w1 ⟨rfl, rfl⟩
  have a0 := A2.out.cell 0 _ rfl
  have f0 := A2.out.free 0
  have a1 := A2.out.cell 1 _ rfl
  have f1 := A2.out.free 1
  have a2 := A2.out.cell 2 _ rfl
  have f2 := A2.out.free 2
  have a3 := A2.out.cell 3 _ rfl
  have f3 := A2.out.free 3
  have a4 := A2.out.cell 4 _ rfl
  have f4 := A2.out.free 4
  go_wp2_with fail
  exact genR_end _ _ w _ _ _ _ _ rfl rfl A2.out B2.out

set_option maxHeartbeats 1600000 in
theorem genR_bare_num (s : ByteArray) (b : Nat) (w : World) (hs : s.size ≤ 140737488351232) (hb : b < s.size) (t2 : ((s[b].toNat : Int) == 45) = false) (t3 : ((s[b].toNat : Int) == 43) = false)
    (SC : Hid (∀ W, Calls Tryz.prog 92 #[.string s] W (Same W (.int .i64 (b : Int)))))
    (AN : Hid (∀ W, Calls Tryz.prog 93 #[.string s, .int .i64 (b : Int), .string ⟨#[110, 97, 110]⟩] W (BeginsPost W false)))
    (AI : Hid (∀ W, Calls Tryz.prog 93 #[.string s, .int .i64 (b : Int), .string ⟨#[105, 110, 102]⟩] W (BeginsPost W false)))
    (D nd : ByteArray) (pt en bh : Nat) (e np : Int) (nb : Bool) (hpt : pt ≤ 140737488351232) (he : -1099511627776 ≤ e ∧ e ≤ 1099511627776)
    (PC : Hid (∀ W, Calls Tryz.prog 94 #[.string s, .int .i64 (b : Int)] W (Same W (.tuple #[.string D, .int .i64 pt, .int .i64 en]))))
    (EC : Hid (∀ W, Calls Tryz.prog 95 #[.string s, .int .i64 en] W (Same W (.tuple #[.int .i64 e, .int .i64 bh]))))
    (NC : Hid (∀ W, Calls Tryz.prog 90 #[.agg #[.bool false, .string D, .int .i64 (pt + e), .int .i64 0]] W (RetBelow W (.agg #[.bool nb, .string nd, .int .i64 np, .int .i64 0]))))
    : Calls Tryz.prog 63 #[.string s] w (RetBelow w (.agg #[.int .u8 3, .bool nb, .string nd, .int .i64 np, .int .i64 bh])) := by
  obtain ⟨he1, he2⟩ := he
  have A0 := Lib.hid (CellsAt.new w [.int .u8 0, .bool false, .string ⟨#[]⟩, .int .i64 0, .int .i64 0] 98)
  have B0 := Lib.hid ((Below.refl w.heap.size w).alloc (Nat.le_refl _) (Obj.cells #[.int .u8 0, .bool false, .string ⟨#[]⟩, .int .i64 0, .int .i64 0] 98))
  go_enter Tryz.func63, Tryz.ntmps63
  go_upto_region 1 with fail
  generalize hX : w.alloc (Obj.cells #[.int .u8 0, .bool false, .string ⟨#[]⟩, .int .i64 0, .int .i64 0] 98) = x at *
  clear hX
  go_wp2_with fail
  refine (SC.out _).mono ?_
  rintro e1 w1 ⟨rfl, rfl⟩
  go_wp2_with fail
  refine (AN.out _).mono ?_
  rintro e1 w1 ⟨rfl, n1, rfl⟩
  have A1 := Lib.hid (A0.out.step (below_drewN x n1))
  have B1 := Lib.hid (bdrewB B0.out n1)
  generalize x.drewN n1 = x1 at *
  go_wp2_with fail
  refine (AI.out _).mono ?_
  rintro e1 w1 ⟨rfl, n2, rfl⟩
  have A2 := Lib.hid (A1.out.step (below_drewN x1 n2))
  have B2 := Lib.hid (bdrewB B1.out n2)
  generalize x1.drewN n2 = x2 at *
  go_wp2_with fail
  refine (PC.out _).mono ?_
  rintro e1 w1 ⟨rfl, rfl⟩
  go_wp2_with fail
  refine (EC.out _).mono ?_
  rintro e1 w1 ⟨rfl, rfl⟩
  go_wp2_with fail
  refine (NC.out _).mono ?_
  rintro e1 w3 ⟨rfl, hb3⟩
  have A3 := Lib.hid ((A2.out.step hb3).alloc (Obj.cells #[.bool nb, .string nd, .int .i64 np, .int .i64 0] 94))
  have N3 := Lib.hid (CellsAt.new w3 [.bool nb, .string nd, .int .i64 np, .int .i64 0] 94)
  have B3 := Lib.hid ((B2.out.trans (hb3.mono B2.out.size)).alloc (Nat.le_trans B2.out.size hb3.size) (Obj.cells #[.bool nb, .string nd, .int .i64 np, .int .i64 0] 94))
  clear hb3
  go_upto_region 20 with fail
  generalize hX : w3.alloc (Obj.cells #[.bool nb, .string nd, .int .i64 np, .int .i64 0] 94) = x3 at *
  clear hX
  have m0 := N3.out.cell 0 _ rfl
  have m1 := N3.out.cell 1 _ rfl
  have m2 := N3.out.cell 2 _ rfl
  have a0 := A3.out.cell 0 _ rfl
  have f0 := A3.out.free 0
  have a1 := A3.out.cell 1 _ rfl
  have f1 := A3.out.free 1
  have a2 := A3.out.cell 2 _ rfl
  have f2 := A3.out.free 2
  have a3 := A3.out.cell 3 _ rfl
  have f3 := A3.out.free 3
  have a4 := A3.out.cell 4 _ rfl
  have f4 := A3.out.free 4
  go_wp2_with fail
  exact genR_end _ _ w _ _ _ _ _ rfl rfl A3.out B3.out

set_option maxHeartbeats 1600000 in
theorem genR_end_none (s : ByteArray) (b : Nat) (w : World) (hs : s.size ≤ 140737488351232) (hb : ¬ b < s.size) (hb2 : b ≤ s.size)
    (SC : Hid (∀ W, Calls Tryz.prog 92 #[.string s] W (Same W (.int .i64 (b : Int)))))
    (AN : Hid (∀ W, Calls Tryz.prog 93 #[.string s, .int .i64 (b : Int), .string ⟨#[110, 97, 110]⟩] W (BeginsPost W false)))
    (AI : Hid (∀ W, Calls Tryz.prog 93 #[.string s, .int .i64 (b : Int), .string ⟨#[105, 110, 102]⟩] W (BeginsPost W false)))
    (PC : Hid (∀ W, Calls Tryz.prog 94 #[.string s, .int .i64 (b : Int)] W (Same W (.tuple #[.string ⟨#[]⟩, .int .i64 0, .int .i64 (-1)]))))
    : Calls Tryz.prog 63 #[.string s] w (RetBelow w (.agg #[.int .u8 0, .bool false, .string ⟨#[]⟩, .int .i64 0, .int .i64 0])) := by
  have A0 := Lib.hid (CellsAt.new w [.int .u8 0, .bool false, .string ⟨#[]⟩, .int .i64 0, .int .i64 0] 98)
  have B0 := Lib.hid ((Below.refl w.heap.size w).alloc (Nat.le_refl _) (Obj.cells #[.int .u8 0, .bool false, .string ⟨#[]⟩, .int .i64 0, .int .i64 0] 98))
  go_enter Tryz.func63, Tryz.ntmps63
  go_upto_region 1 with fail
  generalize hX : w.alloc (Obj.cells #[.int .u8 0, .bool false, .string ⟨#[]⟩, .int .i64 0, .int .i64 0] 98) = x at *
  clear hX
  go_wp2_with fail
  refine (SC.out _).mono ?_
  rintro e1 w1 ⟨rfl, rfl⟩
  go_wp2_with fail
  refine (AN.out _).mono ?_
  rintro e1 w1 ⟨rfl, n1, rfl⟩
  have A1 := Lib.hid (A0.out.step (below_drewN x n1))
  have B1 := Lib.hid (bdrewB B0.out n1)
  generalize x.drewN n1 = x1 at *
  go_wp2_with fail
  refine (AI.out _).mono ?_
  rintro e1 w1 ⟨rfl, n2, rfl⟩
  have A2 := Lib.hid (A1.out.step (below_drewN x1 n2))
  have B2 := Lib.hid (bdrewB B1.out n2)
  generalize x1.drewN n2 = x2 at *
  go_wp2_with fail
  refine (PC.out _).mono ?_
  rintro e1 w1 ⟨rfl, rfl⟩
  have a0 := A2.out.cell 0 _ rfl
  have f0 := A2.out.free 0
  have a1 := A2.out.cell 1 _ rfl
  have f1 := A2.out.free 1
  have a2 := A2.out.cell 2 _ rfl
  have f2 := A2.out.free 2
  have a3 := A2.out.cell 3 _ rfl
  have f3 := A2.out.free 3
  have a4 := A2.out.cell 4 _ rfl
  have f4 := A2.out.free 4
  go_wp2_with fail
  exact genR_end _ _ w _ _ _ _ _ rfl rfl A2.out B2.out

end

section


theorem trimL_cons (x : UInt8) (l : List UInt8) : trimL (x :: l) = if x = 48 then trimL l else x :: l := by
  rw [trimL_eq, trimL_eq]
  by_cases h : x = 48
  · rw [if_pos h, List.dropWhile_cons_of_pos (by simpa using h)]
  · rw [if_neg h, List.dropWhile_cons_of_neg (by simpa using h)]
theorem trimL_nil : trimL [] = [] := rfl
theorem trim_comm : ∀ l : List UInt8, trimR (trimL l) = trimL (trimR l)
  | [] => rfl
  | x :: l => by
    rw [trimL_cons, trimR_cons]
    by_cases h : x = 48
    · rw [if_pos h, trim_comm l]
      by_cases k : trimR l = []
      · rw [if_pos ⟨k, h⟩, k]
      · rw [if_neg (fun z => k z.1), trimL_cons, if_pos h]
    · rw [if_neg h, if_neg (fun z => h z.2), trimL_cons, if_neg h, trimR_cons, if_neg (fun z => h z.2)]
theorem trimR_app : ∀ (a b : List UInt8), trimR (a ++ b) = if trimR b = [] then trimR a else a ++ trimR b
  | [], b => by
    rw [trimR_nil, List.nil_append]
    split
    · assumption
    · rfl
  | x :: a, b => by
    rw [List.cons_append, trimR_cons, trimR_app a b]
    by_cases k : trimR b = []
    · simp only [if_pos k]; rw [trimR_cons]
    · simp only [if_neg k]
      rw [if_neg (fun z => k (List.append_eq_nil_iff.1 z.1).2)]
      rfl
theorem trimL_app : ∀ (a b : List UInt8), trimL (a ++ b) = if trimL a = [] then trimL b else trimL a ++ b
  | [], b => by rw [trimL_nil, if_pos rfl]; rfl
  | x :: a, b => by
    rw [List.cons_append, trimL_cons, trimL_cons]
    by_cases h : x = 48
    · simp only [if_pos h]; exact trimL_app a b
    · simp only [if_neg h]
      rw [if_neg (by simp)]
      rfl
theorem len_trimL (l : List UInt8) : (trimL l).length + spanN isZero l = l.length := by
  rw [← trimL_span, List.length_drop]
  have := spanN_le isZero l
  omega
theorem spanZ_app : ∀ (a b : List UInt8), spanN isZero (a ++ b) = if trimL a = [] then a.length + spanN isZero b else spanN isZero a
  | a, b => by
    have h1 := len_trimL (a ++ b)
    rw [trimL_app] at h1
    have h2 := len_trimL a
    have h3 := len_trimL b
    rw [List.length_append] at h1
    by_cases h : trimL a = []
    · rw [if_pos h] at h1 ⊢
      omega
    · rw [if_neg h, List.length_append] at h1
      rw [if_neg h]
      omega
theorem num_digits (c : Nat) (neg : Bool) (W F : List UInt8) (e : Int) (sz : Nat) : numD ⟨c, neg, W, F, e, sz⟩ = trimR (trimL (W ++ F)) := by
  unfold numD numW numF
  simp only
  rw [trimL_app]
  by_cases h : trimL W = []
  · simp only [h, if_true]
    rw [trim_comm F]
    split <;> rfl
  · simp only [if_neg h]
    rw [trimR_app]
    by_cases k : trimR F = []
    · rw [if_pos k, if_pos k, k, List.append_nil]
    · rw [if_neg k, if_neg k]
theorem num_exp (c : Nat) (neg : Bool) (W F : List UInt8) (e : Int) (sz : Nat) (hne : trimR (trimL (W ++ F)) ≠ []) : numE ⟨c, neg, W, F, e, sz⟩ = (W.length + e) - spanN isZero (W ++ F) := by
  unfold numE
  simp only
  rw [spanZ_app]
  have h1 := len_trimL W
  by_cases h : trimL W = []
  · rw [if_pos h, if_pos h]
    rw [trimL_app, if_pos h, trim_comm] at hne
    have h2 := len_trimL (trimR F)
    obtain ⟨j, hj⟩ := trimR_split F
    have h3 := spanZ_app (trimR F) (List.replicate j 48)
    rw [← hj, if_neg hne] at h3
    omega
  · rw [if_neg h, if_neg h]
    omega
theorem word_nan {l : List UInt8} (neg : Bool) (h : begW wNan l = true) : wordS l neg = (1, 3) := by
  cases l with
  | nil => cases h
  | cons x l =>
    have hx : (x ||| 32 == 110) = true := by
      have : ((x ||| 32 == 110) && begW [97, 110] l) = true := h
      exact (Bool.and_eq_true _ _ ▸ this).1
    have h1 : begB (x :: l) wInfinity = false := by
      show ((x ||| 32 == 105) && begW [110, 102, 105, 110, 105, 116, 121] l) = false
      rw [eq_of_beq hx]; rfl
    have h2 : begB (x :: l) wInf = false := by
      show ((x ||| 32 == 105) && begW [110, 102] l) = false
      rw [eq_of_beq hx]; rfl
    unfold wordS
    rw [h1, h2, show begB (x :: l) wNan = true from h]
    rfl
theorem inf_of {l : List UInt8} (h : begW wInfinity l = true) : begW wInf l = true := by
  match l, h with
  | x :: y :: z :: r, h =>
    have h' : ((x ||| 32 == 105) && ((y ||| 32 == 110) && ((z ||| 32 == 102) && begW [105, 110, 105, 116, 121] r))) = true := h
    simp only [Bool.and_eq_true] at h'
    show ((x ||| 32 == 105) && ((y ||| 32 == 110) && ((z ||| 32 == 102) && true))) = true
    rw [h'.1, h'.2.1, h'.2.2.1]; rfl
  | [], h => cases h
  | [x], h =>
    have h' : ((x ||| 32 == 105) && false) = true := h
    simp at h'
  | [x, y], h =>
    have h' : ((x ||| 32 == 105) && ((y ||| 32 == 110) && false)) = true := h
    simp at h'
theorem word_inf {l : List UInt8} (neg : Bool) (h1 : begW wInf l = true) (h2 : begW wInfinity l = false) : wordS l neg = (if neg then 2 else 4, 3) := by
  unfold wordS
  rw [show begB l wInfinity = false from h2, show begB l wInf = true from h1]
  rfl
theorem word_infinity {l : List UInt8} (neg : Bool) (h2 : begW wInfinity l = true) : wordS l neg = (if neg then 2 else 4, 8) := by
  unfold wordS
  rw [show begB l wInfinity = true from h2]
  rfl
theorem word_no {l : List UInt8} (neg : Bool) (h0 : begW wNan l = false) (h1 : begW wInf l = false) : wordS l neg = (0, 0) := by
  have h2 : begW wInfinity l = false := by
    cases h : begW wInfinity l with
    | false => rfl
    | true => rw [inf_of h] at h1; cases h1
  unfold wordS
  rw [show begB l wInfinity = false from h2, show begB l wInf = false from h1, show begB l wNan = false from h0]
  rfl
theorem genV_word (c sz : Nat) : genV ⟨c, false, [], [], 0, sz⟩ = .agg #[.int .u8 c, .bool false, .string ⟨#[]⟩, .int .i64 0, .int .i64 sz] := by
  unfold genV
  rw [if_pos (by rw [num_digits]; rfl)]
theorem genV_num (neg : Bool) (W F : List UInt8) (e : Int) (sz : Nat) :
    genV ⟨3, neg, W, F, e, sz⟩ = if trimR (trimL (W ++ F)) = [] then .agg #[.int .u8 3, .bool false, .string ⟨#[]⟩, .int .i64 0, .int .i64 sz]
      else .agg #[.int .u8 3, .bool neg, .string (bs (trimR (trimL (W ++ F)))), .int .i64 ((W.length + e) - spanN isZero (W ++ F)), .int .i64 sz] := by
  unfold genV
  rw [num_digits]
  by_cases h : trimR (trimL (W ++ F)) = []
  · rw [if_pos h, if_pos h]; rfl
  · rw [if_neg h, if_neg h, num_exp _ _ _ _ _ _ h]; rfl
theorem expS_rng (l : List UInt8) : -1099511627776 ≤ (expS l).1 ∧ (expS l).1 ≤ 1099511627776 := by
  unfold expS
  have hs : ∀ r, satS 0 r ≤ 1099511627776 := fun r => by rw [satS_min]; omega
  split
  · split
    · exact ⟨by show (-1099511627776 : Int) ≤ 0; omega, by show (0 : Int) ≤ _; omega⟩
    · split
      · have := hs ((l.drop (1 + expSg l)).takeWhile isDig); exact ⟨by show (-1099511627776 : Int) ≤ - (_ : Int); omega, by show - (_ : Int) ≤ _; omega⟩
      · have := hs ((l.drop (1 + expSg l)).takeWhile isDig); exact ⟨by show (-1099511627776 : Int) ≤ (_ : Int); omega, by show (_ : Int) ≤ _; omega⟩
  · exact ⟨by show (-1099511627776 : Int) ≤ 0; omega, by show (0 : Int) ≤ _; omega⟩
theorem scan_true (l : List UInt8) (b sg : Nat) (hb : b = spanN isBlank l) (hsg : sg = signN (l.drop b) true) (neg : Bool) (hn : neg = (atB (l.drop b) 0 == 45)) :
    scanS l true = if 0 < (wordS (l.drop (b + sg)) neg).2 then ⟨(wordS (l.drop (b + sg)) neg).1, false, [], [], 0, b + sg + (wordS (l.drop (b + sg)) neg).2⟩ else numberS (l.drop (b + sg)) true neg (b + sg) := by
  subst hb hsg hn
  unfold scanS
  simp only [Bool.true_and, decide_eq_true_eq, List.drop_drop]
theorem number_true (l : List UInt8) (i : Nat) (neg : Bool) : numberS (l.drop i) true neg i = if plW (l.drop i) ++ plF (l.drop i) = [] then Hd.none
    else ⟨3, neg, plW (l.drop i), plF (l.drop i), (expS (l.drop (i + plN (l.drop i)))).1, i + plN (l.drop i) + (expS (l.drop (i + plN (l.drop i)))).2⟩ := by
  have e1 : ((l.drop i).dropWhile isDig).drop (fracN ((l.drop i).dropWhile isDig)) = l.drop (i + plN (l.drop i)) := by
    rw [dw_at, List.drop_drop]
    congr 1
    unfold plN
    rw [dw_at]
    omega
  unfold numberS
  rw [e1]
  have e4 : ((l.drop i).takeWhile isDig = [] ∧ fracS ((l.drop i).dropWhile isDig) = []) ↔ plW (l.drop i) ++ plF (l.drop i) = [] := by
    unfold plW plF
    rw [List.append_eq_nil_iff]
  by_cases h : plW (l.drop i) ++ plF (l.drop i) = []
  · rw [if_pos (e4.2 h), if_pos h]
  · rw [if_neg (fun k => h (e4.1 k)), if_neg h]
    show (⟨3, neg, _, _, _, i + spanN isDig (l.drop i) + fracN ((l.drop i).dropWhile isDig) + _⟩ : Hd) = _
    unfold plN
    rw [Nat.add_assoc i]
    rfl
theorem pl_lens (l : List UInt8) (i : Nat) (hi : i ≤ l.length) : (plW (l.drop i)).length + (plF (l.drop i)).length ≤ l.length ∧ i + plN (l.drop i) ≤ l.length := by
  have h1 := (fracJ ((l.drop i).dropWhile isDig))
  have h2 := congrArg List.length (List.takeWhile_append_dropWhile (p := isDig) (l := l.drop i))
  rw [List.length_append, List.length_drop] at h2
  unfold plW plF plN
  unfold spanN
  omega
theorem sign_at (s : ByteArray) (b : Nat) : signN (s.data.toList.drop b) true = if atB s.data.toList b == 45 || atB s.data.toList b == 43 then 1 else 0 := by
  unfold signN
  rw [atB_drop]
  simp

theorem generalR_ok (s : ByteArray) (w : World) (hs : s.size ≤ 140737488351232) : Calls Tryz.prog 63 #[.string s] w (RetBelow w (genV (scanS s.data.toList true))) := by
  have hm : s.size ≤ maxLen := by unfold maxLen; omega
  have el := Lib.size_eq s
  have SC := Lib.hid (fun W : World => start_ok s W hm)
  obtain ⟨b, hb⟩ : ∃ b, b = spanN isBlank s.data.toList := ⟨_, rfl⟩
  rw [← hb] at SC
  have hbs : b ≤ s.size := by rw [hb, el]; exact spanN_le _ _
  have AT : ∀ i, i ≤ s.size → ∀ (t : ByteArray), t.size ≤ 1000 → smallW t.data.toList = true → ∀ W, Calls Tryz.prog 93 #[.string s, .int .i64 i, .string t] W (BeginsPost W (begW t.data.toList (s.data.toList.drop i))) := fun i hi t ht hsm W => by
    have := atR_ok s t i W hs hi ht
    rw [begR_W _ _ hsm] at this
    exact this
  have eS := fun sg neg h1 h2 => scan_true s.data.toList b sg hb h1 neg h2

  by_cases hlt : b < s.size
  · have g := get_atB s b hlt
    by_cases h45 : s[b] = 45
    · have eAt : atB s.data.toList b = 45 := g.trans h45
      have eS2 := eS 1 true (by rw [sign_at, eAt]; rfl) (by rw [atB_drop, Nat.add_zero, eAt]; rfl)
      skip
      have AN := Lib.hid (AT (b + 1) (by omega) ⟨#[110, 97, 110]⟩ (by decide) (by decide))
      have AI := Lib.hid (AT (b + 1) (by omega) ⟨#[105, 110, 102]⟩ (by decide) (by decide))
      have AY := Lib.hid (AT (b + 1) (by omega) ⟨#[105, 110, 102, 105, 110, 105, 116, 121]⟩ (by decide) (by decide))
      have PC := Lib.hid (fun W : World => plain_ok s (b + 1) W hs (by omega))
      have pll := pl_lens s.data.toList (b + 1) (by omega)
      rw [show (((b + 1 : Nat)) : Int) = (b : Int) + 1 from by omega] at AN AI AY PC
      rw [eS2]
      cases hn : begW wNan (s.data.toList.drop (b + 1)) with
      | true =>
        rw [show begW (⟨#[110, 97, 110]⟩ : ByteArray).data.toList (s.data.toList.drop (b + 1)) = true from hn] at AN
        rw [word_nan _ hn]
        show Calls Tryz.prog 63 _ w (RetBelow w (genV ⟨1, false, [], [], 0, (b + 1) + 3⟩))
        rw [genV_word]
        have := genR_neg_nan s b w hs hlt h45 SC AN
        rw [show (((b + 1) + 3 : Nat) : Int) = ((b : Int) + 1) + 3 from by omega]
        exact this
      | false =>
        rw [show begW (⟨#[110, 97, 110]⟩ : ByteArray).data.toList (s.data.toList.drop (b + 1)) = false from hn] at AN
        cases hi : begW wInf (s.data.toList.drop (b + 1)) with
        | true =>
          rw [show begW (⟨#[105, 110, 102]⟩ : ByteArray).data.toList (s.data.toList.drop (b + 1)) = true from hi] at AI
          cases hy : begW wInfinity (s.data.toList.drop (b + 1)) with
          | true =>
            rw [show begW (⟨#[105, 110, 102, 105, 110, 105, 116, 121]⟩ : ByteArray).data.toList (s.data.toList.drop (b + 1)) = true from hy] at AY
            rw [word_infinity _ hy]
            show Calls Tryz.prog 63 _ w (RetBelow w (genV ⟨2, false, [], [], 0, (b + 1) + 8⟩))
            rw [genV_word]
            have := genR_neg_infinity s b w hs hlt h45 SC AN AI AY
            rw [show (((b + 1) + 8 : Nat) : Int) = ((b : Int) + 1) + 8 from by omega]
            exact this
          | false =>
            rw [show begW (⟨#[105, 110, 102, 105, 110, 105, 116, 121]⟩ : ByteArray).data.toList (s.data.toList.drop (b + 1)) = false from hy] at AY
            rw [word_inf _ hi hy]
            show Calls Tryz.prog 63 _ w (RetBelow w (genV ⟨2, false, [], [], 0, (b + 1) + 3⟩))
            rw [genV_word]
            have := genR_neg_inf s b w hs hlt h45 SC AN AI AY
            rw [show (((b + 1) + 3 : Nat) : Int) = ((b : Int) + 1) + 3 from by omega]
            exact this
        | false =>
          rw [show begW (⟨#[105, 110, 102]⟩ : ByteArray).data.toList (s.data.toList.drop (b + 1)) = false from hi] at AI
          rw [word_no _ hn hi]
          show Calls Tryz.prog 63 _ w (RetBelow w (genV (numberS (s.data.toList.drop (b + 1)) true true (b + 1))))
          rw [number_true]
          unfold plainV at PC
          by_cases hz : plW (s.data.toList.drop (b + 1)) ++ plF (s.data.toList.drop (b + 1)) = []
          · rw [if_pos hz] at PC ⊢
            have e0 : genV Hd.none = .agg #[.int .u8 0, .bool false, .string ⟨#[]⟩, .int .i64 0, .int .i64 0] := genV_word 0 0
            rw [e0]
            exact genR_neg_none s b w hs hlt h45 SC AN AI PC
          · rw [if_neg hz] at PC ⊢
            have EC := Lib.hid (fun W : World => expR_ok s ((b + 1) + plN (s.data.toList.drop (b + 1))) W hs (by omega))
            have er := expS_rng (s.data.toList.drop ((b + 1) + plN (s.data.toList.drop (b + 1))))
            have lD : (plW (s.data.toList.drop (b + 1)) ++ plF (s.data.toList.drop (b + 1))).length ≤ 140737488351232 := by rw [List.length_append]; omega
            unfold expV at EC
            generalize plN (s.data.toList.drop (b + 1)) = N at *
            generalize (expS (s.data.toList.drop ((b + 1) + N))).1 = ex at *
            generalize (expS (s.data.toList.drop ((b + 1) + N))).2 = en at *
            have NC := Lib.hid (fun W : World => norm_ok true (plW (s.data.toList.drop (b + 1)) ++ plF (s.data.toList.drop (b + 1))) ((plW (s.data.toList.drop (b + 1))).length + ex) 0 W (by omega) lD)
            unfold normV numV at NC
            rw [genV_num]
            by_cases hd : trimR (trimL (plW (s.data.toList.drop (b + 1)) ++ plF (s.data.toList.drop (b + 1)))) = []
            · rw [if_pos hd] at NC ⊢
              exact genR_neg_num s b w hs hlt h45 SC AN AI _ _ _ _ _ _ _ _ (by omega) er PC EC NC
            · rw [if_neg hd] at NC ⊢
              exact genR_neg_num s b w hs hlt h45 SC AN AI _ _ _ _ _ _ _ _ (by omega) er PC EC NC
    · have t45 : ((s[b].toNat : Int) == 45) = false := (byte_is _ 45 (by omega)).trans (by simpa using h45)
      by_cases h43 : s[b] = 43
      · have eAt : atB s.data.toList b = 43 := g.trans h43
        have eS2 := eS 1 false (by rw [sign_at, eAt]; rfl) (by rw [atB_drop, Nat.add_zero, eAt]; rfl)
        skip
        have AN := Lib.hid (AT (b + 1) (by omega) ⟨#[110, 97, 110]⟩ (by decide) (by decide))
        have AI := Lib.hid (AT (b + 1) (by omega) ⟨#[105, 110, 102]⟩ (by decide) (by decide))
        have AY := Lib.hid (AT (b + 1) (by omega) ⟨#[105, 110, 102, 105, 110, 105, 116, 121]⟩ (by decide) (by decide))
        have PC := Lib.hid (fun W : World => plain_ok s (b + 1) W hs (by omega))
        have pll := pl_lens s.data.toList (b + 1) (by omega)
        rw [show (((b + 1 : Nat)) : Int) = (b : Int) + 1 from by omega] at AN AI AY PC
        rw [eS2]
        cases hn : begW wNan (s.data.toList.drop (b + 1)) with
        | true =>
          rw [show begW (⟨#[110, 97, 110]⟩ : ByteArray).data.toList (s.data.toList.drop (b + 1)) = true from hn] at AN
          rw [word_nan _ hn]
          show Calls Tryz.prog 63 _ w (RetBelow w (genV ⟨1, false, [], [], 0, (b + 1) + 3⟩))
          rw [genV_word]
          have := genR_plus_nan s b w hs hlt h43 SC AN
          rw [show (((b + 1) + 3 : Nat) : Int) = ((b : Int) + 1) + 3 from by omega]
          exact this
        | false =>
          rw [show begW (⟨#[110, 97, 110]⟩ : ByteArray).data.toList (s.data.toList.drop (b + 1)) = false from hn] at AN
          cases hi : begW wInf (s.data.toList.drop (b + 1)) with
          | true =>
            rw [show begW (⟨#[105, 110, 102]⟩ : ByteArray).data.toList (s.data.toList.drop (b + 1)) = true from hi] at AI
            cases hy : begW wInfinity (s.data.toList.drop (b + 1)) with
            | true =>
              rw [show begW (⟨#[105, 110, 102, 105, 110, 105, 116, 121]⟩ : ByteArray).data.toList (s.data.toList.drop (b + 1)) = true from hy] at AY
              rw [word_infinity _ hy]
              show Calls Tryz.prog 63 _ w (RetBelow w (genV ⟨4, false, [], [], 0, (b + 1) + 8⟩))
              rw [genV_word]
              have := genR_plus_infinity s b w hs hlt h43 SC AN AI AY
              rw [show (((b + 1) + 8 : Nat) : Int) = ((b : Int) + 1) + 8 from by omega]
              exact this
            | false =>
              rw [show begW (⟨#[105, 110, 102, 105, 110, 105, 116, 121]⟩ : ByteArray).data.toList (s.data.toList.drop (b + 1)) = false from hy] at AY
              rw [word_inf _ hi hy]
              show Calls Tryz.prog 63 _ w (RetBelow w (genV ⟨4, false, [], [], 0, (b + 1) + 3⟩))
              rw [genV_word]
              have := genR_plus_inf s b w hs hlt h43 SC AN AI AY
              rw [show (((b + 1) + 3 : Nat) : Int) = ((b : Int) + 1) + 3 from by omega]
              exact this
          | false =>
            rw [show begW (⟨#[105, 110, 102]⟩ : ByteArray).data.toList (s.data.toList.drop (b + 1)) = false from hi] at AI
            rw [word_no _ hn hi]
            show Calls Tryz.prog 63 _ w (RetBelow w (genV (numberS (s.data.toList.drop (b + 1)) true false (b + 1))))
            rw [number_true]
            unfold plainV at PC
            by_cases hz : plW (s.data.toList.drop (b + 1)) ++ plF (s.data.toList.drop (b + 1)) = []
            · rw [if_pos hz] at PC ⊢
              have e0 : genV Hd.none = .agg #[.int .u8 0, .bool false, .string ⟨#[]⟩, .int .i64 0, .int .i64 0] := genV_word 0 0
              rw [e0]
              exact genR_plus_none s b w hs hlt h43 SC AN AI PC
            · rw [if_neg hz] at PC ⊢
              have EC := Lib.hid (fun W : World => expR_ok s ((b + 1) + plN (s.data.toList.drop (b + 1))) W hs (by omega))
              have er := expS_rng (s.data.toList.drop ((b + 1) + plN (s.data.toList.drop (b + 1))))
              have lD : (plW (s.data.toList.drop (b + 1)) ++ plF (s.data.toList.drop (b + 1))).length ≤ 140737488351232 := by rw [List.length_append]; omega
              unfold expV at EC
              generalize plN (s.data.toList.drop (b + 1)) = N at *
              generalize (expS (s.data.toList.drop ((b + 1) + N))).1 = ex at *
              generalize (expS (s.data.toList.drop ((b + 1) + N))).2 = en at *
              have NC := Lib.hid (fun W : World => norm_ok false (plW (s.data.toList.drop (b + 1)) ++ plF (s.data.toList.drop (b + 1))) ((plW (s.data.toList.drop (b + 1))).length + ex) 0 W (by omega) lD)
              unfold normV numV at NC
              rw [genV_num]
              by_cases hd : trimR (trimL (plW (s.data.toList.drop (b + 1)) ++ plF (s.data.toList.drop (b + 1)))) = []
              · rw [if_pos hd] at NC ⊢
                exact genR_plus_num s b w hs hlt h43 SC AN AI _ _ _ _ _ _ _ _ (by omega) er PC EC NC
              · rw [if_neg hd] at NC ⊢
                exact genR_plus_num s b w hs hlt h43 SC AN AI _ _ _ _ _ _ _ _ (by omega) er PC EC NC
      · have t43 : ((s[b].toNat : Int) == 43) = false := (byte_is _ 43 (by omega)).trans (by simpa using h43)
        have eAt : atB s.data.toList b = s[b] := g
        have n45 : (s[b] == 45) = false := by simpa using h45
        have n43 : (s[b] == 43) = false := by simpa using h43
        have eS2 := eS 0 false (by rw [sign_at, eAt, n45, n43]; rfl) (by rw [atB_drop, Nat.add_zero, eAt, n45])
        rw [Nat.add_zero] at eS2
        have AN := Lib.hid (AT b (by omega) ⟨#[110, 97, 110]⟩ (by decide) (by decide))
        have AI := Lib.hid (AT b (by omega) ⟨#[105, 110, 102]⟩ (by decide) (by decide))
        have AY := Lib.hid (AT b (by omega) ⟨#[105, 110, 102, 105, 110, 105, 116, 121]⟩ (by decide) (by decide))
        have PC := Lib.hid (fun W : World => plain_ok s b W hs (by omega))
        have pll := pl_lens s.data.toList b (by omega)
        skip
        rw [eS2]
        cases hn : begW wNan (s.data.toList.drop b) with
        | true =>
          rw [show begW (⟨#[110, 97, 110]⟩ : ByteArray).data.toList (s.data.toList.drop b) = true from hn] at AN
          rw [word_nan _ hn]
          show Calls Tryz.prog 63 _ w (RetBelow w (genV ⟨1, false, [], [], 0, b + 3⟩))
          rw [genV_word]
          have := genR_bare_nan s b w hs hlt t45 t43 SC AN
          rw [show ((b + 3 : Nat) : Int) = (b : Int) + 3 from by omega]
          exact this
        | false =>
          rw [show begW (⟨#[110, 97, 110]⟩ : ByteArray).data.toList (s.data.toList.drop b) = false from hn] at AN
          cases hi : begW wInf (s.data.toList.drop b) with
          | true =>
            rw [show begW (⟨#[105, 110, 102]⟩ : ByteArray).data.toList (s.data.toList.drop b) = true from hi] at AI
            cases hy : begW wInfinity (s.data.toList.drop b) with
            | true =>
              rw [show begW (⟨#[105, 110, 102, 105, 110, 105, 116, 121]⟩ : ByteArray).data.toList (s.data.toList.drop b) = true from hy] at AY
              rw [word_infinity _ hy]
              show Calls Tryz.prog 63 _ w (RetBelow w (genV ⟨4, false, [], [], 0, b + 8⟩))
              rw [genV_word]
              have := genR_bare_infinity s b w hs hlt t45 t43 SC AN AI AY
              rw [show ((b + 8 : Nat) : Int) = (b : Int) + 8 from by omega]
              exact this
            | false =>
              rw [show begW (⟨#[105, 110, 102, 105, 110, 105, 116, 121]⟩ : ByteArray).data.toList (s.data.toList.drop b) = false from hy] at AY
              rw [word_inf _ hi hy]
              show Calls Tryz.prog 63 _ w (RetBelow w (genV ⟨4, false, [], [], 0, b + 3⟩))
              rw [genV_word]
              have := genR_bare_inf s b w hs hlt t45 t43 SC AN AI AY
              rw [show ((b + 3 : Nat) : Int) = (b : Int) + 3 from by omega]
              exact this
          | false =>
            rw [show begW (⟨#[105, 110, 102]⟩ : ByteArray).data.toList (s.data.toList.drop b) = false from hi] at AI
            rw [word_no _ hn hi]
            show Calls Tryz.prog 63 _ w (RetBelow w (genV (numberS (s.data.toList.drop b) true false b)))
            rw [number_true]
            unfold plainV at PC
            by_cases hz : plW (s.data.toList.drop b) ++ plF (s.data.toList.drop b) = []
            · rw [if_pos hz] at PC ⊢
              have e0 : genV Hd.none = .agg #[.int .u8 0, .bool false, .string ⟨#[]⟩, .int .i64 0, .int .i64 0] := genV_word 0 0
              rw [e0]
              exact genR_bare_none s b w hs hlt t45 t43 SC AN AI PC
            · rw [if_neg hz] at PC ⊢
              have EC := Lib.hid (fun W : World => expR_ok s (b + plN (s.data.toList.drop b)) W hs (by omega))
              have er := expS_rng (s.data.toList.drop (b + plN (s.data.toList.drop b)))
              have lD : (plW (s.data.toList.drop b) ++ plF (s.data.toList.drop b)).length ≤ 140737488351232 := by rw [List.length_append]; omega
              unfold expV at EC
              generalize plN (s.data.toList.drop b) = N at *
              generalize (expS (s.data.toList.drop (b + N))).1 = ex at *
              generalize (expS (s.data.toList.drop (b + N))).2 = en at *
              have NC := Lib.hid (fun W : World => norm_ok false (plW (s.data.toList.drop b) ++ plF (s.data.toList.drop b)) ((plW (s.data.toList.drop b)).length + ex) 0 W (by omega) lD)
              unfold normV numV at NC
              rw [genV_num]
              by_cases hd : trimR (trimL (plW (s.data.toList.drop b) ++ plF (s.data.toList.drop b))) = []
              · rw [if_pos hd] at NC ⊢
                exact genR_bare_num s b w hs hlt t45 t43 SC AN AI _ _ _ _ _ _ _ _ (by omega) er PC EC NC
              · rw [if_neg hd] at NC ⊢
                exact genR_bare_num s b w hs hlt t45 t43 SC AN AI _ _ _ _ _ _ _ _ (by omega) er PC EC NC
  · have hbe : b = s.size := by omega
    have hnil : s.data.toList.drop b = [] := List.drop_eq_nil_of_le (by omega)
    have e1 : scanS s.data.toList true = Hd.none := by
      have := eS 0 false (by rw [hnil]; rfl) (by rw [hnil]; rfl)
      rw [Nat.add_zero, hnil] at this
      exact this
    rw [e1]
    have e0 : genV Hd.none = .agg #[.int .u8 0, .bool false, .string ⟨#[]⟩, .int .i64 0, .int .i64 0] := genV_word 0 0
    rw [e0]
    have AN := Lib.hid (AT b (by omega) ⟨#[110, 97, 110]⟩ (by decide) (by decide))
    have AI := Lib.hid (AT b (by omega) ⟨#[105, 110, 102]⟩ (by decide) (by decide))
    rw [hnil] at AN AI
    have PC := Lib.hid (fun W : World => plain_ok s b W hs (by omega))
    have eP : plainV s.data.toList b = .tuple #[.string ⟨#[]⟩, .int .i64 0, .int .i64 (-1)] := by
      unfold plainV
      rw [hnil]
      rfl
    rw [eP] at PC
    exact genR_end_none s b w hs hlt hbs SC AN AI PC

end
end Go.Proofs.YtgpcmlbmmcnkjaaGreatDoor.Num
