/- A body that was written says its entry. No program. -/
import Derived.Test.YtlbekgcfafofdaaDoorEn
namespace Go.Proofs.YtlbekgcfafofdaaDoor
section
open Go.RowKit

/-- A piece. -/
def seg (l : List UInt8) (a n : Nat) : List UInt8 := (l.drop a).take n
theorem seg_mid (A B C : List UInt8) {a n : Nat} (ha : A.length = a) (hb : B.length = n) : seg (A ++ (B ++ C)) a n = B := by
  unfold seg
  subst ha hb
  rw [List.drop_left, List.take_left]
theorem seg_len {l : List UInt8} {a n : Nat} (h : a + n ≤ l.length) : (seg l a n).length = n := by
  unfold seg
  rw [List.length_take, List.length_drop]
  omega
/-- An int out of 64 bits. -/
def iw (x : Nat) : Int := wrap64 (x : Int)
theorem iw_small {x : Nat} (h : x ≤ 9223372036854775807) : iw x = x := by unfold iw wrap64; omega
theorem iw_is (x : Nat) : -9223372036854775808 ≤ iw x ∧ iw x ≤ 9223372036854775807 := by unfold iw wrap64; omega
theorem iw_nonneg {x : Nat} (h : x < 18446744073709551616) (h0 : 0 ≤ iw x) : iw x = x ∧ (iw x).toNat = x := by
  have : iw x = x := by unfold iw wrap64 at *; omega
  exact ⟨this, by omega⟩
/-- Numbers of four bytes each. -/
def chunks : Nat → List UInt8 → List Int
  | 0, _ => []
  | n + 1, b => (valB (b.take 4) : Int) :: chunks n (b.drop 4)
theorem chunks_len : ∀ n b, (chunks n b).length = n
  | 0, _ => rfl
  | n + 1, b => by rw [chunks, List.length_cons, chunks_len n]
theorem chunks_snoc : ∀ n b, chunks (n + 1) b = chunks n b ++ [(valB ((b.drop (4 * n)).take 4) : Int)]
  | 0, b => by simp [chunks]
  | n + 1, b => by
    rw [chunks, chunks_snoc n (b.drop 4), List.drop_drop, chunks, List.cons_append]
    rw [show 4 + 4 * n = 4 * (n + 1) by omega]
theorem valB_lt4 {l : List UInt8} (h : l.length ≤ 4) : valB l < 4294967296 := by
  have h1 := valB_lt l
  have h2 : 256 ^ l.length ≤ 256 ^ 4 := Nat.pow_le_pow_right (by omega) h
  omega
theorem chunks_is : ∀ n b, ∀ z ∈ chunks n b, 0 ≤ z ∧ z ≤ 4294967295
  | 0, _, z, hz => by cases hz
  | n + 1, b, z, hz => by
    rw [chunks] at hz
    rcases List.mem_cons.1 hz with rfl | hz
    · have := valB_lt4 (l := b.take 4) (by rw [List.length_take]; omega)
      omega
    · exact chunks_is n _ z hz
theorem bodyIn_chunks : ∀ n b, b.length = 4 * n → bodyIn (chunks n b) = b
  | 0, b, h => by
    have : b = [] := List.eq_nil_of_length_eq_zero (by omega)
    subst this; rfl
  | n + 1, b, h => by
    rw [chunks, bodyIn, bodyIn_chunks n (b.drop 4) (by rw [List.length_drop]; omega)]
    have h4 : (b.take 4).length = 4 := by rw [List.length_take]; omega
    have := be_val (b.take 4)
    rw [h4] at this
    rw [show ((valB (b.take 4) : Int)).toNat = valB (b.take 4) by omega, this, List.take_append_drop]
theorem chunks_bodyIn : ∀ (l : List Int) (t : List UInt8), (∀ z ∈ l, 0 ≤ z ∧ z ≤ 4294967295) → chunks l.length (bodyIn l ++ t) = l
  | [], _, _ => rfl
  | x :: l, t, h => by
    have hx := h x (by simp)
    have e1 : (be 4 x.toNat ++ bodyIn l ++ t).take 4 = be 4 x.toNat := by
      rw [List.append_assoc]
      exact List.take_left' (be_len 4 _)
    have e2 : (be 4 x.toNat ++ bodyIn l ++ t).drop 4 = bodyIn l ++ t := by
      rw [List.append_assoc]
      exact List.drop_left' (be_len 4 _)
    rw [List.length_cons, chunks, bodyIn, e1, e2, chunks_bodyIn l t fun z hz => h z (by simp [hz]), val_be_lt (by omega)]
    congr 1
    omega
theorem be_seg {l : List UInt8} {k : Nat} (h : l.length = k) : be k (valB l) = l := by subst h; exact be_val l

/-- What the program finds in a body: an entry, and whether there was enough and nothing was left. -/
def parX (b : List UInt8) : Ent :=
  let k := valB (b.take 1)
  let n := valB (seg b 1 1)
  if k = 1 then ⟨1, valB (seg b 1 8), [], 0, 0, 0, 0, []⟩
  else if k = 2 then ⟨2, 0, seg b 2 n, 0, 0, 0, 0, []⟩
  else if k = 3 then ⟨3, 0, seg b 2 n, iw (valB (seg b (2 + n) 4)), iw (valB (seg b (6 + n) 8)), iw (valB (seg b (14 + n) 8)), valB (seg b (22 + n) 4), []⟩
  else if k = 5 then ⟨5, 0, seg b 2 n, iw (valB (seg b (2 + n) 4)), iw (valB (seg b (6 + n) 8)), 0, valB (seg b (14 + n) 4), chunks (valB (seg b (18 + n) 1)) (b.drop (19 + n))⟩
  else ⟨k, 0, [], 0, 0, 0, 0, []⟩
/-- How long a body must be. -/
def parN (b : List UInt8) : Nat :=
  let k := valB (b.take 1)
  let n := valB (seg b 1 1)
  if k = 1 then 9 else if k = 2 then 2 + n else if k = 3 then 26 + n else if k = 5 then 19 + n + 4 * valB (seg b (18 + n) 1) else 1
theorem cons_take {b : List UInt8} (h : 1 ≤ b.length) : b.take 1 = [UInt8.ofNat (valB (b.take 1))] := by
  have h1 : (b.take 1).length = 1 := by rw [List.length_take]; omega
  have := be_seg h1
  rw [be_one] at this
  exact this.symm
theorem cut3 (b : List UInt8) (a n : Nat) : b.drop a = seg b a n ++ b.drop (a + n) := by
  unfold seg
  rw [← List.drop_drop, List.take_append_drop]
/-- A body of the right length says its entry. -/
theorem par_body {b : List UInt8} (h1 : 1 ≤ b.length) (hl : b.length = parN b) (M : May (parX b)) : bodyE (parX b) = b := by
  have hb : b = [UInt8.ofNat (valB (b.take 1))] ++ b.drop 1 := (List.take_append_drop 1 b).symm.trans (congrArg (· ++ b.drop 1) (cons_take h1))
  have hk := valB_lt (b.take 1)
  have hk1 : (b.take 1).length = 1 := by rw [List.length_take]; omega
  rw [hk1] at hk
  unfold parX parN at *
  simp only at *
  by_cases k1 : valB (b.take 1) = 1
  · simp only [k1, if_pos] at *
    conv => rhs; rw [hb, cut3 b 1 8]
    have e9 : b.drop (1 + 8) = [] := List.drop_of_length_le (by omega)
    rw [e9, List.append_nil]
    simp only [bodyE, if_pos]
    rw [be_seg (seg_len (by omega))]
    rfl
  · by_cases k2 : valB (b.take 1) = 2
    · simp only [k2, if_pos, if_neg (show ¬ (2 : Nat) = 1 by omega)] at *
      have hn : valB (seg b 1 1) < 256 := by have := valB_lt (seg b 1 1); rw [seg_len (by omega)] at this; omega
      generalize hN : valB (seg b 1 1) = n at *
      have en : be 1 n = seg b 1 1 := by rw [← hN]; exact be_seg (seg_len (by omega))
      conv => rhs; rw [hb, cut3 b 1 1, cut3 b (1 + 1) n]
      have e9 : b.drop (1 + 1 + n) = [] := List.drop_of_length_le (by omega)
      rw [e9, List.append_nil]
      simp only [bodyE, if_pos, if_neg (show ¬ (2 : Nat) = 1 by omega)]
      rw [seg_len (by omega), en, List.append_assoc]
      rfl
    · by_cases k3 : valB (b.take 1) = 3
      · simp only [k3, if_pos, if_neg (show ¬ (3 : Nat) = 1 by omega), if_neg (show ¬ (3 : Nat) = 2 by omega)] at *
        generalize hN : valB (seg b 1 1) = n at *
        have en : be 1 n = seg b 1 1 := by rw [← hN]; exact be_seg (seg_len (by omega))
        have hr : rng ⟨3, 0, seg b 2 n, iw (valB (seg b (2 + n) 4)), iw (valB (seg b (6 + n) 8)), iw (valB (seg b (14 + n) 8)), valB (seg b (22 + n) 4), []⟩ := by
          cases M with
          | job h => cases h
          | make h => cases h
          | run _ _ _ h _ => exact h
          | bare h => rcases h with h | h <;> cases h
          | merge h => cases h
        obtain ⟨⟨r1, _⟩, ⟨r2, _⟩, ⟨r3, _⟩⟩ := hr
        simp only at r1 r2 r3
        have l1 : (seg b (2 + n) 4).length = 4 := seg_len (by omega)
        have l2 : (seg b (6 + n) 8).length = 8 := seg_len (by omega)
        have l3 : (seg b (14 + n) 8).length = 8 := seg_len (by omega)
        have l4 : (seg b (22 + n) 4).length = 4 := seg_len (by omega)
        have v1 := valB_lt (seg b (2 + n) 4)
        have v2 := valB_lt (seg b (6 + n) 8)
        have v3 := valB_lt (seg b (14 + n) 8)
        rw [l1] at v1
        rw [l2] at v2
        rw [l3] at v3
        have i1 := (iw_nonneg (by omega) r1).2
        have i2 := (iw_nonneg (by omega) r2).2
        have i3 := (iw_nonneg (by omega) r3).2
        conv => rhs; rw [hb, cut3 b 1 1, cut3 b (1 + 1) n, cut3 b (1 + 1 + n) 4, cut3 b (1 + 1 + n + 4) 8, cut3 b (1 + 1 + n + 4 + 8) 8, cut3 b (1 + 1 + n + 4 + 8 + 8) 4]
        have e9 : b.drop (1 + 1 + n + 4 + 8 + 8 + 4) = [] := List.drop_of_length_le (by omega)
        rw [e9, List.append_nil]
        simp only [bodyE, if_pos, if_neg (show ¬ (3 : Nat) = 1 by omega), if_neg (show ¬ (3 : Nat) = 2 by omega)]
        rw [seg_len (show 2 + n ≤ b.length by omega), en, i1, i2, i3, be_seg l1, be_seg l2, be_seg l3, be_seg l4]
        rw [show 1 + 1 + n = 2 + n by omega, show 2 + n + 4 = 6 + n by omega, show 6 + n + 8 = 14 + n by omega, show 14 + n + 8 = 22 + n by omega]
        simp only [List.append_assoc]
        rfl
      · by_cases k5 : valB (b.take 1) = 5
        · simp only [k5, if_pos, if_neg (show ¬ (5 : Nat) = 1 by omega), if_neg (show ¬ (5 : Nat) = 2 by omega), if_neg (show ¬ (5 : Nat) = 3 by omega)] at *
          generalize hN : valB (seg b 1 1) = n at *
          have en : be 1 n = seg b 1 1 := by rw [← hN]; exact be_seg (seg_len (by omega))
          have hl19 : 19 + n ≤ b.length := by omega
          have lc : (seg b (18 + n) 1).length = 1 := seg_len (by omega)
          generalize hC : valB (seg b (18 + n) 1) = c at *
          have ec : be 1 c = seg b (18 + n) 1 := by rw [← hC]; exact be_seg lc
          have hr : rng ⟨5, 0, seg b 2 n, iw (valB (seg b (2 + n) 4)), iw (valB (seg b (6 + n) 8)), 0, valB (seg b (14 + n) 4), chunks c (b.drop (19 + n))⟩ := by
            cases M with
            | job h => cases h
            | make h => cases h
            | run h => cases h
            | bare h => rcases h with h | h <;> cases h
            | merge _ _ _ h => exact h
          obtain ⟨⟨r1, _⟩, ⟨r2, _⟩, _⟩ := hr
          simp only at r1 r2
          have l1 : (seg b (2 + n) 4).length = 4 := seg_len (by omega)
          have l2 : (seg b (6 + n) 8).length = 8 := seg_len (by omega)
          have l4 : (seg b (14 + n) 4).length = 4 := seg_len (by omega)
          have v1 := valB_lt (seg b (2 + n) 4)
          have v2 := valB_lt (seg b (6 + n) 8)
          rw [l1] at v1
          rw [l2] at v2
          have i1 := (iw_nonneg (by omega) r1).2
          have i2 := (iw_nonneg (by omega) r2).2
          conv => rhs; rw [hb, cut3 b 1 1, cut3 b (1 + 1) n, cut3 b (1 + 1 + n) 4, cut3 b (1 + 1 + n + 4) 8, cut3 b (1 + 1 + n + 4 + 8) 4, cut3 b (1 + 1 + n + 4 + 8 + 4) 1]
          simp only [bodyE, if_pos, if_neg (show ¬ (5 : Nat) = 1 by omega), if_neg (show ¬ (5 : Nat) = 2 by omega), if_neg (show ¬ (5 : Nat) = 3 by omega)]
          rw [seg_len (show 2 + n ≤ b.length by omega), en, i1, i2, be_seg l1, be_seg l2, be_seg l4, chunks_len, ec, bodyIn_chunks c _ (by rw [List.length_drop]; omega)]
          rw [show 1 + 1 + n = 2 + n by omega, show 2 + n + 4 = 6 + n by omega, show 6 + n + 8 = 14 + n by omega, show 14 + n + 4 = 18 + n by omega, show 18 + n + 1 = 19 + n by omega]
          simp only [List.append_assoc]
          rfl
        · simp only [if_neg k1, if_neg k2, if_neg k3, if_neg k5] at *
          conv => rhs; rw [hb]
          have e9 : b.drop 1 = [] := List.drop_of_length_le (by omega)
          rw [e9, List.append_nil]
          simp only [bodyE, if_neg k1, if_neg k2, if_neg k3, if_neg k5]
end
section
theorem seg_at (A B C : List UInt8) (l : List UInt8) {a n : Nat} (hl : l = A ++ (B ++ C)) (ha : A.length = a) (hb : B.length = n) : seg l a n = B := by
  subst hl; exact seg_mid A B C ha hb
theorem drop_at (A B : List UInt8) (l : List UInt8) {a : Nat} (hl : l = A ++ B) (ha : A.length = a) : l.drop a = B := by
  subst hl; exact List.drop_left' ha
theorem runs_all : ∀ (l : List Int) (x : Int), runsUp x l = true → ∀ y ∈ l, x < y ∧ y ≤ 131071
  | [], _, _, y, hy => by cases hy
  | z :: l, x, h, y, hy => by
    simp only [runsUp, Bool.and_eq_true, decide_eq_true_eq] at h
    obtain ⟨⟨h1, h2⟩, h3⟩ := h
    rcases List.mem_cons.1 hy with rfl | hy
    · exact ⟨h1, h2⟩
    · have := runs_all l z h3 y hy
      omega
theorem val_one {n : Nat} (h : n < 256) : valB (be 1 n) = n := val_be_lt (by simpa using h)
theorem par_of {e : Ent} (hpr : e.pr < 18446744073709551616) (hsu : e.su < 4294967296) (M : May e) (t : List UInt8) : parX (bodyE e ++ t) = e ∧ parN (bodyE e ++ t) = (bodyE e).length := by
  obtain ⟨k, pr, nm, ru, re, li, su, inn⟩ := e
  simp only at hpr hsu
  have one : ∀ (c : UInt8) (l : List UInt8), valB ((c :: l).take 1) = c.toNat := fun c l => by simp [valB]
  cases M with
  | job h1 h2 h3 h4 h5 h6 h7 =>
    simp only at h1 h2 h3 h4 h5 h6 h7
    subst h1 h2 h3 h4 h5 h6 h7
    have hb : bodyE ⟨1, pr, [], 0, 0, 0, 0, []⟩ = 1 :: be 8 pr := rfl
    rw [hb]
    have k1 : valB ((1 :: be 8 pr ++ t).take 1) = 1 := one 1 _
    have s1 : seg (1 :: be 8 pr ++ t) 1 8 = be 8 pr := seg_at [1] (be 8 pr) t _ rfl rfl (be_len 8 pr)
    refine ⟨?_, ?_⟩
    · unfold parX
      simp only [k1, if_pos, s1]
      rw [val_be_lt (by omega)]
    · unfold parN
      simp only [k1, if_pos, List.length_cons, be_len]
  | make h1 h2 h3 h4 h5 h6 h7 h8 =>
    simp only at h1 h2 h3 h4 h5 h6 h7 h8
    subst h1 h2 h4 h5 h6 h7 h8
    have hc := clean_len h3
    have hb : bodyE ⟨2, 0, nm, 0, 0, 0, 0, []⟩ = [2] ++ be 1 nm.length ++ nm := rfl
    rw [hb]
    have k1 : valB (([2] ++ be 1 nm.length ++ nm ++ t).take 1) = 2 := by rw [List.append_assoc, List.append_assoc]; exact one 2 _
    have s1 : seg ([2] ++ be 1 nm.length ++ nm ++ t) 1 1 = be 1 nm.length := seg_at [2] (be 1 nm.length) (nm ++ t) _ (by simp) rfl (be_len _ _)
    have s2 : seg ([2] ++ be 1 nm.length ++ nm ++ t) 2 nm.length = nm := seg_at ([2] ++ be 1 nm.length) nm t _ (by simp) (by simp [be_len]) rfl
    have v1 : valB (be 1 nm.length) = nm.length := val_one (by omega)
    refine ⟨?_, ?_⟩
    · unfold parX
      simp only [k1, if_pos, if_neg (show ¬ (2 : Nat) = 1 by omega), s1, v1, s2]
    · unfold parN
      simp only [k1, if_pos, if_neg (show ¬ (2 : Nat) = 1 by omega), s1, v1]
      simp [be_len]; omega
  | run h1 h2 h3 h4 h5 =>
    simp only at h1 h2 h3 h5
    subst h1 h2 h5
    obtain ⟨⟨a1, a2⟩, ⟨b1, b2⟩, ⟨c1, c2⟩⟩ := h4
    simp only at a1 a2 b1 b2 c1 c2
    have hc := clean_len h3
    have hb : bodyE ⟨3, 0, nm, ru, re, li, su, []⟩ = [3] ++ be 1 nm.length ++ nm ++ be 4 ru.toNat ++ be 8 re.toNat ++ be 8 li.toNat ++ be 4 su := rfl
    rw [hb]
    generalize hl : [3] ++ be 1 nm.length ++ nm ++ be 4 ru.toNat ++ be 8 re.toNat ++ be 8 li.toNat ++ be 4 su ++ t = l
    have k1 : valB (l.take 1) = 3 := by
      rw [← hl]
      simp only [List.append_assoc]
      exact one 3 _
    have s1 : seg l 1 1 = be 1 nm.length := seg_at [3] _ (nm ++ (be 4 ru.toNat ++ (be 8 re.toNat ++ (be 8 li.toNat ++ (be 4 su ++ t))))) _ (by rw [← hl]; simp) rfl (be_len _ _)
    have s2 : seg l 2 nm.length = nm := seg_at ([3] ++ be 1 nm.length) _ (be 4 ru.toNat ++ (be 8 re.toNat ++ (be 8 li.toNat ++ (be 4 su ++ t)))) _ (by rw [← hl]; simp) (by simp [be_len]) rfl
    have s3 : seg l (2 + nm.length) 4 = be 4 ru.toNat := seg_at ([3] ++ be 1 nm.length ++ nm) _ (be 8 re.toNat ++ (be 8 li.toNat ++ (be 4 su ++ t))) _ (by rw [← hl]; simp) (by simp [be_len]; omega) (be_len _ _)
    have s4 : seg l (6 + nm.length) 8 = be 8 re.toNat := seg_at ([3] ++ be 1 nm.length ++ nm ++ be 4 ru.toNat) _ (be 8 li.toNat ++ (be 4 su ++ t)) _ (by rw [← hl]; simp) (by simp [be_len]; omega) (be_len _ _)
    have s5 : seg l (14 + nm.length) 8 = be 8 li.toNat := seg_at ([3] ++ be 1 nm.length ++ nm ++ be 4 ru.toNat ++ be 8 re.toNat) _ (be 4 su ++ t) _ (by rw [← hl]; simp) (by simp [be_len]; omega) (be_len _ _)
    have s6 : seg l (22 + nm.length) 4 = be 4 su := seg_at ([3] ++ be 1 nm.length ++ nm ++ be 4 ru.toNat ++ be 8 re.toNat ++ be 8 li.toNat) _ t _ (by rw [← hl]; simp) (by simp [be_len]; omega) (be_len _ _)
    have v1 : valB (be 1 nm.length) = nm.length := val_one (by omega)
    have v3 : valB (be 4 ru.toNat) = ru.toNat := val_be_lt (by omega)
    have v4 : valB (be 8 re.toNat) = re.toNat := val_be_lt (by omega)
    have v5 : valB (be 8 li.toNat) = li.toNat := val_be_lt (by omega)
    have v6 : valB (be 4 su) = su := val_be_lt (by omega)
    refine ⟨?_, ?_⟩
    · unfold parX
      simp only [k1, if_pos, if_neg (show ¬ (3 : Nat) = 1 by omega), if_neg (show ¬ (3 : Nat) = 2 by omega), s1, v1, s2, s3, s4, s5, s6, v3, v4, v5, v6]
      rw [iw_small (by omega), iw_small (by omega), iw_small (by omega), show (ru.toNat : Int) = ru by omega, show (re.toNat : Int) = re by omega, show (li.toNat : Int) = li by omega]
    · unfold parN
      simp only [k1, if_pos, if_neg (show ¬ (3 : Nat) = 1 by omega), if_neg (show ¬ (3 : Nat) = 2 by omega), s1, v1]
      simp [be_len]; omega
  | bare h1 h2 h3 h4 h5 h6 h7 h8 =>
    simp only at h1 h2 h3 h4 h5 h6 h7 h8
    subst h2 h3 h4 h5 h6 h7 h8
    rcases h1 with rfl | rfl
    · have k1 : valB ((bodyE ⟨4, 0, [], 0, 0, 0, 0, []⟩ ++ t).take 1) = 4 := one 4 t
      refine ⟨?_, ?_⟩
      · unfold parX
        simp only [k1, if_neg (show ¬ (4 : Nat) = 1 by omega), if_neg (show ¬ (4 : Nat) = 2 by omega), if_neg (show ¬ (4 : Nat) = 3 by omega), if_neg (show ¬ (4 : Nat) = 5 by omega)]
      · unfold parN
        simp only [k1, if_neg (show ¬ (4 : Nat) = 1 by omega), if_neg (show ¬ (4 : Nat) = 2 by omega), if_neg (show ¬ (4 : Nat) = 3 by omega), if_neg (show ¬ (4 : Nat) = 5 by omega)]
        rfl
    · have k1 : valB ((bodyE ⟨6, 0, [], 0, 0, 0, 0, []⟩ ++ t).take 1) = 6 := one 6 t
      refine ⟨?_, ?_⟩
      · unfold parX
        simp only [k1, if_neg (show ¬ (6 : Nat) = 1 by omega), if_neg (show ¬ (6 : Nat) = 2 by omega), if_neg (show ¬ (6 : Nat) = 3 by omega), if_neg (show ¬ (6 : Nat) = 5 by omega)]
      · unfold parN
        simp only [k1, if_neg (show ¬ (6 : Nat) = 1 by omega), if_neg (show ¬ (6 : Nat) = 2 by omega), if_neg (show ¬ (6 : Nat) = 3 by omega), if_neg (show ¬ (6 : Nat) = 5 by omega)]
        rfl
  | merge h1 h2 h3 h4 h5 h6 h7 h8 =>
    simp only at h1 h2 h3 h5 h6 h7 h8
    subst h1 h2 h5
    obtain ⟨⟨a1, a2⟩, ⟨b1, b2⟩, _⟩ := h4
    simp only at a1 a2 b1 b2
    have hc := clean_len h3
    have hin : ∀ z ∈ inn, 0 ≤ z ∧ z ≤ 4294967295 := fun z hz => by have := runs_all inn (-1) h8 z hz; omega
    have hb : bodyE ⟨5, 0, nm, ru, re, 0, su, inn⟩ = [5] ++ be 1 nm.length ++ nm ++ be 4 ru.toNat ++ be 8 re.toNat ++ be 4 su ++ be 1 inn.length ++ bodyIn inn := rfl
    rw [hb]
    generalize hl : [5] ++ be 1 nm.length ++ nm ++ be 4 ru.toNat ++ be 8 re.toNat ++ be 4 su ++ be 1 inn.length ++ bodyIn inn ++ t = l
    have k1 : valB (l.take 1) = 5 := by
      rw [← hl]
      simp only [List.append_assoc]
      exact one 5 _
    have s1 : seg l 1 1 = be 1 nm.length := seg_at [5] _ (nm ++ (be 4 ru.toNat ++ (be 8 re.toNat ++ (be 4 su ++ (be 1 inn.length ++ (bodyIn inn ++ t)))))) _ (by rw [← hl]; simp) rfl (be_len _ _)
    have s2 : seg l 2 nm.length = nm := seg_at ([5] ++ be 1 nm.length) _ (be 4 ru.toNat ++ (be 8 re.toNat ++ (be 4 su ++ (be 1 inn.length ++ (bodyIn inn ++ t))))) _ (by rw [← hl]; simp) (by simp [be_len]) rfl
    have s3 : seg l (2 + nm.length) 4 = be 4 ru.toNat := seg_at ([5] ++ be 1 nm.length ++ nm) _ (be 8 re.toNat ++ (be 4 su ++ (be 1 inn.length ++ (bodyIn inn ++ t)))) _ (by rw [← hl]; simp) (by simp [be_len]; omega) (be_len _ _)
    have s4 : seg l (6 + nm.length) 8 = be 8 re.toNat := seg_at ([5] ++ be 1 nm.length ++ nm ++ be 4 ru.toNat) _ (be 4 su ++ (be 1 inn.length ++ (bodyIn inn ++ t))) _ (by rw [← hl]; simp) (by simp [be_len]; omega) (be_len _ _)
    have s5 : seg l (14 + nm.length) 4 = be 4 su := seg_at ([5] ++ be 1 nm.length ++ nm ++ be 4 ru.toNat ++ be 8 re.toNat) _ (be 1 inn.length ++ (bodyIn inn ++ t)) _ (by rw [← hl]; simp) (by simp [be_len]; omega) (be_len _ _)
    have s6 : seg l (18 + nm.length) 1 = be 1 inn.length := seg_at ([5] ++ be 1 nm.length ++ nm ++ be 4 ru.toNat ++ be 8 re.toNat ++ be 4 su) _ (bodyIn inn ++ t) _ (by rw [← hl]; simp) (by simp [be_len]; omega) (be_len _ _)
    have s7 : l.drop (19 + nm.length) = bodyIn inn ++ t := drop_at ([5] ++ be 1 nm.length ++ nm ++ be 4 ru.toNat ++ be 8 re.toNat ++ be 4 su ++ be 1 inn.length) _ _ (by rw [← hl]; simp) (by simp [be_len]; omega)
    have v1 : valB (be 1 nm.length) = nm.length := val_one (by omega)
    have v3 : valB (be 4 ru.toNat) = ru.toNat := val_be_lt (by omega)
    have v4 : valB (be 8 re.toNat) = re.toNat := val_be_lt (by omega)
    have v5 : valB (be 4 su) = su := val_be_lt (by omega)
    have v6 : valB (be 1 inn.length) = inn.length := val_one (by omega)
    refine ⟨?_, ?_⟩
    · unfold parX
      simp only [k1, if_pos, if_neg (show ¬ (5 : Nat) = 1 by omega), if_neg (show ¬ (5 : Nat) = 2 by omega), if_neg (show ¬ (5 : Nat) = 3 by omega), s1, v1, s2, s3, s4, s5, s6, s7, v3, v4, v5, v6]
      rw [iw_small (by omega), iw_small (by omega), show (ru.toNat : Int) = ru by omega, show (re.toNat : Int) = re by omega, chunks_bodyIn inn t hin]
    · unfold parN
      simp only [k1, if_pos, if_neg (show ¬ (5 : Nat) = 1 by omega), if_neg (show ¬ (5 : Nat) = 2 by omega), if_neg (show ¬ (5 : Nat) = 3 by omega), s1, v1, s6, v6]
      simp [be_len, bodyIn_len]; omega
/-- Whether a body is that of an entry that may be. -/
def okE (b : List UInt8) : Bool := decide (b.length = parN b) && mayP (parX b)
theorem okE_body {b : List UInt8} (h : okE b = true) : May (parX b) ∧ bodyE (parX b) = b := by
  simp only [okE, Bool.and_eq_true, decide_eq_true_eq] at h
  have M := (may_iff _).1 h.2
  refine ⟨M, par_body ?_ h.1 M⟩
  rcases Nat.eq_zero_or_pos b.length with h0 | h0
  · have : b = [] := List.eq_nil_of_length_eq_zero h0
    subst this
    exfalso
    revert M
    intro M
    cases M with
    | job h => cases h
    | make h => cases h
    | run h => cases h
    | bare h => rcases h with h | h <;> cases h
    | merge h => cases h
  · exact h0
theorem okE_of {e : Ent} (hpr : e.pr < 18446744073709551616) (hsu : e.su < 4294967296) (M : May e) : okE (bodyE e) = true ∧ parX (bodyE e) = e := by
  obtain ⟨h1, h2⟩ := par_of hpr hsu M []
  rw [List.append_nil] at h1 h2
  refine ⟨?_, h1⟩
  simp only [okE, Bool.and_eq_true, decide_eq_true_eq]
  exact ⟨h2.symm, by rw [h1]; exact (may_iff _).2 M⟩
/-- As the document judges: by what the bytes with zeros behind them say. -/
def okD (b z : List UInt8) : Bool := mayP (parX (b ++ z)) && decide (bodyE (parX (b ++ z)) = b)
theorem valB_lt8' {l : List UInt8} (h : l.length ≤ 8) : valB l < 18446744073709551616 := by
  have h1 := valB_lt l
  have h2 : 256 ^ l.length ≤ 256 ^ 8 := Nat.pow_le_pow_right (by omega) h
  omega
theorem seg_le (l : List UInt8) (a n : Nat) : (seg l a n).length ≤ n := by unfold seg; rw [List.length_take]; omega
theorem par_is (b : List UInt8) (hb : b.length ≤ 140737488355328) : EntIs (parX b) := by
  have z : (-9223372036854775808 : Int) ≤ 0 ∧ (0 : Int) ≤ 9223372036854775807 := by omega
  have e1 : ∀ a, valB (seg b a 4) < 4294967296 := fun a => valB_lt4 (seg_le _ _ _)
  have e8 : ∀ a, valB (seg b a 8) < 18446744073709551616 := fun a => valB_lt8' (seg_le _ _ _)
  have k0 : valB (b.take 1) < 256 := by
    have h1 := valB_lt (b.take 1)
    have h2 : 256 ^ (b.take 1).length ≤ 256 ^ 1 := Nat.pow_le_pow_right (by omega) (by rw [List.length_take]; omega)
    omega
  have ns : ∀ n, (seg b 2 n).length ≤ 140737488355328 := fun n => by unfold seg; rw [List.length_take, List.length_drop]; omega
  unfold parX
  simp only
  split
  · exact ⟨by show 1 < 256; omega, e8 1, by simp, z, z, z, by show 0 < 4294967296; omega, by simp, by simp⟩
  · split
    · exact ⟨by show 2 < 256; omega, by show 0 < 18446744073709551616; omega, ns _, z, z, z, by show 0 < 4294967296; omega, by simp, by simp⟩
    · split
      · exact ⟨by show 3 < 256; omega, by show 0 < 18446744073709551616; omega, ns _, iw_is _, iw_is _, iw_is _, e1 _, by simp, by simp⟩
      · split
        · refine ⟨by show 5 < 256; omega, by show 0 < 18446744073709551616; omega, ns _, iw_is _, iw_is _, z, e1 _, ?_, fun x hx => ?_⟩
          · show (chunks _ _).length ≤ _
            rw [chunks_len]
            have h1 := valB_lt (seg b (18 + valB (seg b 1 1)) 1)
            have h2 : 256 ^ (seg b (18 + valB (seg b 1 1)) 1).length ≤ 256 ^ 1 := Nat.pow_le_pow_right (by omega) (seg_le _ _ _)
            omega
          · have := chunks_is _ _ x hx
            omega
        · exact ⟨k0, by show 0 < 18446744073709551616; omega, by simp, z, z, z, by show 0 < 4294967296; omega, by simp, by simp⟩
theorem okD_okE (b z : List UInt8) (hb : b.length ≤ 140737488351232) (hz : z.length ≤ 4096) : okD b z = okE b ∧ (okE b = true → parX (b ++ z) = parX b) := by
  have key : okE b = true → parX (b ++ z) = parX b := fun h => by
    obtain ⟨M, e⟩ := okE_body h
    have I := par_is b (by omega)
    have := (par_of I.pr I.su M z).1
    rw [e] at this
    exact this
  refine ⟨?_, key⟩
  rw [Bool.eq_iff_iff]
  constructor
  · intro h
    simp only [okD, Bool.and_eq_true, decide_eq_true_eq] at h
    have I := par_is (b ++ z) (by rw [List.length_append]; omega)
    have := (okE_of I.pr I.su ((may_iff _).1 h.1)).1
    rw [h.2] at this
    exact this
  · intro h
    obtain ⟨M, e⟩ := okE_body h
    simp only [okD, Bool.and_eq_true, decide_eq_true_eq]
    rw [key h]
    exact ⟨(may_iff _).2 M, e⟩
end
end Go.Proofs.YtlbekgcfafofdaaDoor
