/- Entries and their bytes. No program. -/
import Derived.Test.YtlbekgcfafofdaaDoorHs
namespace Go.Proofs.YtlbekgcfafofdaaDoor

/-- A number's bytes, the highest first. -/
def be : Nat → Nat → List UInt8
  | 0, _ => []
  | k + 1, n => be k (n / 256) ++ [UInt8.ofNat n]
theorem be_len : ∀ k n, (be k n).length = k
  | 0, _ => rfl
  | k + 1, n => by rw [be, List.length_append, be_len k]; rfl
/-- What bytes say. -/
def valB (l : List UInt8) : Nat := l.foldl (fun n x => n * 256 + x.toNat) 0
theorem valB_nil : valB [] = 0 := rfl
theorem valB_snoc (l : List UInt8) (x : UInt8) : valB (l ++ [x]) = valB l * 256 + x.toNat := by unfold valB; rw [List.foldl_append]; rfl
theorem valB_take (l : List UInt8) (k : Nat) (h : k < l.length) : valB (l.take (k + 1)) = valB (l.take k) * 256 + l[k].toNat := by
  rw [List.take_succ_eq_append_getElem h, valB_snoc]
theorem rev_ind {P : List UInt8 → Prop} (h0 : P []) (h1 : ∀ l x, P l → P (l ++ [x])) : ∀ l, P l := by
  intro l
  have : ∀ r : List UInt8, P r.reverse := by
    intro r
    induction r with
    | nil => exact h0
    | cons x r ih => rw [List.reverse_cons]; exact h1 _ _ ih
  have h := this l.reverse
  rwa [List.reverse_reverse] at h
theorem valB_lt (l : List UInt8) : valB l < 256 ^ l.length := by
  refine rev_ind (P := fun l => valB l < 256 ^ l.length) (by decide) (fun l x ih => ?_) l
  have hx := x.toNat_lt
  rw [valB_snoc, List.length_append, List.length_singleton, Nat.pow_succ]
  omega
theorem be_val (l : List UInt8) : be l.length (valB l) = l := by
  refine rev_ind (P := fun l => be l.length (valB l) = l) rfl (fun l x ih => ?_) l
  have hx := x.toNat_lt
  rw [valB_snoc, List.length_append, List.length_singleton, be]
  have e1 : (valB l * 256 + x.toNat) / 256 = valB l := by omega
  have e2 : UInt8.ofNat (valB l * 256 + x.toNat) = x := by
    apply UInt8.toNat_inj.1
    simp
  rw [e1, e2, ih]
theorem val_be : ∀ k n, valB (be k n) = n % 256 ^ k
  | 0, n => by simp [be, valB_nil, Nat.mod_one]
  | k + 1, n => by
    have e : (UInt8.ofNat n).toNat = n % 256 := by simp
    rw [be, valB_snoc, val_be k, e]
    rw [Nat.pow_succ, Nat.mul_comm (256 ^ k) 256, Nat.mod_mul]
    omega
theorem val_be_lt {k n : Nat} (h : n < 256 ^ k) : valB (be k n) = n := by rw [val_be, Nat.mod_eq_of_lt h]
theorem be_inj {k m n : Nat} (hm : m < 256 ^ k) (hn : n < 256 ^ k) (h : be k m = be k n) : m = n := by
  have := congrArg valB h
  rwa [val_be_lt hm, val_be_lt hn] at this
theorem be_one (n : Nat) : be 1 n = [UInt8.ofNat n] := rfl
/-- From the front. -/
theorem be_cons : ∀ k n, be (k + 1) n = UInt8.ofNat (n / 256 ^ k) :: be k n
  | 0, n => by simp [be]
  | k + 1, n => by
    rw [be, be_cons k (n / 256), be, List.cons_append, Nat.div_div_eq_div_mul, Nat.pow_succ, Nat.mul_comm (256 ^ k) 256]

/-- An entry. -/
structure Ent where
  k : Nat
  pr : Nat
  nm : List UInt8
  ru : Int
  re : Int
  li : Int
  su : Nat
  inn : List Int
def Ent.zero : Ent := ⟨0, 0, [], 0, 0, 0, 0, []⟩
/-- What can stand in memory. -/
structure EntIs (e : Ent) : Prop where
  k : e.k < 256
  pr : e.pr < 18446744073709551616
  nm : e.nm.length ≤ 140737488355328
  ru : -9223372036854775808 ≤ e.ru ∧ e.ru ≤ 9223372036854775807
  re : -9223372036854775808 ≤ e.re ∧ e.re ≤ 9223372036854775807
  li : -9223372036854775808 ≤ e.li ∧ e.li ≤ 9223372036854775807
  su : e.su < 4294967296
  ii : e.inn.length ≤ 17592186044416
  inn : ∀ z ∈ e.inn, -9223372036854775808 ≤ z ∧ z ≤ 9223372036854775807
theorem EntIs.zero : EntIs Ent.zero := by constructor <;> simp [Ent.zero]
def usesN (k : Nat) : Nat := usesL.getD k 0
def bitN (b : Bool) (m : Nat) : Nat := if b then m else 0
/-- The fields that are not empty. -/
def filN (e : Ent) : Nat := bitN (decide (e.pr ≠ 0)) 1 + bitN (decide (e.nm ≠ [])) 2 + bitN (decide (e.ru ≠ 0)) 4 + bitN (decide (e.re ≠ 0)) 8 + bitN (decide (e.li ≠ 0)) 16 + bitN (decide (e.su ≠ 0)) 32 + bitN (decide (0 < e.inn.length)) 64
def hasN (s f : Nat) : Bool := decide (s &&& f = f)
def isKind (k : Nat) : Bool := decide (1 ≤ k) && decide (k ≤ 6)
def clean (s : List UInt8) : Bool := decide (1 ≤ s.length) && (decide (s.length ≤ 64) && !s.contains 0)
def upTo (n : Int) (m : Int) : Bool := decide (0 ≤ n) && decide (n ≤ m)
def runsUp : Int → List Int → Bool
  | _, [] => true
  | last, x :: l => (decide (last < x) && decide (x ≤ 131071)) && runsUp x l
/-- May there be such an entry? As the program asks. -/
def mayP (e : Ent) : Bool :=
  isKind e.k && ((hasN (usesN e.k) (filN e) && hasN (filN e) (usesN e.k &&& 66)) &&
    ((decide (e.nm = []) || clean e.nm) && (upTo e.ru 131071 && (upTo e.re 1099511627776 && (upTo e.li 1099511627776 && (decide (e.inn.length ≤ 64) && runsUp (-1) e.inn))))))
def rng (e : Ent) : Prop := (0 ≤ e.ru ∧ e.ru ≤ 131071) ∧ (0 ≤ e.re ∧ e.re ≤ 1099511627776) ∧ (0 ≤ e.li ∧ e.li ≤ 1099511627776)
/-- May there be such an entry? By kinds. -/
inductive May (e : Ent) : Prop
  | job : e.k = 1 → e.nm = [] → e.ru = 0 → e.re = 0 → e.li = 0 → e.su = 0 → e.inn = [] → May e
  | make : e.k = 2 → e.pr = 0 → clean e.nm = true → e.ru = 0 → e.re = 0 → e.li = 0 → e.su = 0 → e.inn = [] → May e
  | run : e.k = 3 → e.pr = 0 → clean e.nm = true → rng e → e.inn = [] → May e
  | bare : e.k = 4 ∨ e.k = 6 → e.pr = 0 → e.nm = [] → e.ru = 0 → e.re = 0 → e.li = 0 → e.su = 0 → e.inn = [] → May e
  | merge : e.k = 5 → e.pr = 0 → clean e.nm = true → rng e → e.li = 0 → 1 ≤ e.inn.length → e.inn.length ≤ 64 → runsUp (-1) e.inn = true → May e
theorem clean_ne {s : List UInt8} (h : clean s = true) : s ≠ [] := by rintro rfl; cases h
theorem key_may (k : Nat) (k1 : 1 ≤ k) (k2 : k ≤ 6) (b0 b1 b2 b3 b4 b5 b6 : Bool) (h1 : hasN (usesN k) (bitN b0 1 + bitN b1 2 + bitN b2 4 + bitN b3 8 + bitN b4 16 + bitN b5 32 + bitN b6 64) = true) (h2 : hasN (bitN b0 1 + bitN b1 2 + bitN b2 4 + bitN b3 8 + bitN b4 16 + bitN b5 32 + bitN b6 64) (usesN k &&& 66) = true) :
    (k = 1 → b1 = false ∧ b2 = false ∧ b3 = false ∧ b4 = false ∧ b5 = false ∧ b6 = false) ∧
    (k = 2 → b0 = false ∧ b1 = true ∧ b2 = false ∧ b3 = false ∧ b4 = false ∧ b5 = false ∧ b6 = false) ∧
    (k = 3 → b0 = false ∧ b1 = true ∧ b6 = false) ∧
    (k = 4 → b0 = false ∧ b1 = false ∧ b2 = false ∧ b3 = false ∧ b4 = false ∧ b5 = false ∧ b6 = false) ∧
    (k = 5 → b0 = false ∧ b1 = true ∧ b4 = false ∧ b6 = true) ∧
    (k = 6 → b0 = false ∧ b1 = false ∧ b2 = false ∧ b3 = false ∧ b4 = false ∧ b5 = false ∧ b6 = false) := by
  have hk : k = 1 ∨ k = 2 ∨ k = 3 ∨ k = 4 ∨ k = 5 ∨ k = 6 := by omega
  revert h1 h2
  rcases hk with rfl | rfl | rfl | rfl | rfl | rfl <;> cases b0 <;> cases b1 <;> cases b2 <;> cases b3 <;> cases b4 <;> cases b5 <;> cases b6 <;>
    first
    | exact fun h _ => absurd h (by decide +kernel)
    | exact fun _ h => absurd h (by decide +kernel)
    | (intro _ _; simp)
theorem may_iff (e : Ent) : mayP e = true ↔ May e := by
  obtain ⟨k, pr, nm, ru, re, li, su, inn⟩ := e
  have hclean : clean [] = false := rfl
  have cl : clean nm = true → nm ≠ [] := clean_ne
  constructor
  · intro h
    simp only [mayP, Bool.and_eq_true, Bool.or_eq_true, decide_eq_true_eq, upTo, isKind] at h
    obtain ⟨⟨k1, k2⟩, ⟨h1, h2⟩, h3, ⟨a1, a2⟩, ⟨b1, b2⟩, ⟨c1, c2⟩, d1, d2⟩ := h
    have K := key_may k k1 k2 _ _ _ _ _ _ _ h1 h2
    simp only [decide_eq_false_iff_not, decide_eq_true_eq, Decidable.not_not, Nat.not_lt, Nat.le_zero, List.length_eq_zero_iff, ne_eq] at K
    obtain ⟨K1, K2, K3, K4, K5, K6⟩ := K
    have hk : k = 1 ∨ k = 2 ∨ k = 3 ∨ k = 4 ∨ k = 5 ∨ k = 6 := by omega
    rcases hk with rfl | rfl | rfl | rfl | rfl | rfl
    · obtain ⟨q1, q2, q3, q4, q5, q6⟩ := K1 rfl
      exact .job rfl q1 q2 q3 q4 q5 q6
    · obtain ⟨q0, q1, q2, q3, q4, q5, q6⟩ := K2 rfl
      exact .make rfl q0 (h3.resolve_left q1) q2 q3 q4 q5 q6
    · obtain ⟨q0, q1, q6⟩ := K3 rfl
      exact .run rfl q0 (h3.resolve_left q1) ⟨⟨a1, a2⟩, ⟨b1, b2⟩, ⟨c1, c2⟩⟩ q6
    · obtain ⟨q0, q1, q2, q3, q4, q5, q6⟩ := K4 rfl
      exact .bare (.inl rfl) q0 q1 q2 q3 q4 q5 q6
    · obtain ⟨q0, q1, q4, q6⟩ := K5 rfl
      exact .merge rfl q0 (h3.resolve_left q1) ⟨⟨a1, a2⟩, ⟨b1, b2⟩, ⟨c1, c2⟩⟩ q4 q6 d1 d2
    · obtain ⟨q0, q1, q2, q3, q4, q5, q6⟩ := K6 rfl
      exact .bare (.inr rfl) q0 q1 q2 q3 q4 q5 q6
  · intro h
    have u0 : upTo 0 131071 = true := rfl
    have u1 : upTo 0 1099511627776 = true := rfl
    have r0 : runsUp (-1) [] = true := rfl
    cases h with
    | job h1 h2 h3 h4 h5 h6 h7 =>
      simp only at h1 h2 h3 h4 h5 h6 h7
      subst h1 h2 h3 h4 h5 h6 h7
      by_cases hp : pr = 0 <;> simp [mayP, isKind, u0, u1, r0, filN, bitN, hp, usesN, usesL, hasN]
    | make h1 h2 h3 h4 h5 h6 h7 h8 =>
      simp only at h1 h2 h3 h4 h5 h6 h7 h8
      subst h1 h2 h4 h5 h6 h7 h8
      simp [mayP, isKind, u0, u1, r0, filN, bitN, cl h3, h3, usesN, usesL, hasN]
    | run h1 h2 h3 h4 h5 =>
      simp only at h1 h2 h3 h5
      subst h1 h2 h5
      have c3 := cl h3
      obtain ⟨⟨a1, a2⟩, ⟨b1, b2⟩, ⟨c1, c2⟩⟩ := h4
      simp only at a1 a2 b1 b2 c1 c2
      by_cases e1 : ru = 0 <;> by_cases e2 : re = 0 <;> by_cases e3 : li = 0 <;> by_cases e4 : su = 0 <;>
        simp [mayP, isKind, r0, filN, bitN, c3, h3, usesN, usesL, hasN, upTo, e1, e2, e3, e4, a1, a2, b1, b2, c1, c2]
    | bare h1 h2 h3 h4 h5 h6 h7 h8 =>
      simp only at h1 h2 h3 h4 h5 h6 h7 h8
      subst h2 h3 h4 h5 h6 h7 h8
      rcases h1 with rfl | rfl <;> simp [mayP, isKind, u0, u1, r0, filN, bitN, usesN, usesL, hasN]
    | merge h1 h2 h3 h4 h5 h6 h7 h8 =>
      simp only at h1 h2 h3 h5 h6 h7 h8
      subst h1 h2 h5
      have c3 := cl h3
      have hl : inn ≠ [] := by rintro rfl; simp at h6
      obtain ⟨⟨a1, a2⟩, ⟨b1, b2⟩, ⟨c1, c2⟩⟩ := h4
      simp only at a1 a2 b1 b2 c1 c2
      by_cases e1 : ru = 0 <;> by_cases e2 : re = 0 <;> by_cases e4 : su = 0 <;>
        simp [mayP, isKind, filN, bitN, c3, h3, usesN, usesL, hasN, upTo, e1, e2, e4, a1, a2, b1, b2, h7, h8, Nat.lt_of_lt_of_le Nat.zero_lt_one h6]
def bodyIn : List Int → List UInt8
  | [] => []
  | x :: l => be 4 x.toNat ++ bodyIn l
theorem bodyIn_app (a b : List Int) : bodyIn (a ++ b) = bodyIn a ++ bodyIn b := by
  induction a with
  | nil => rfl
  | cons x a ih => rw [List.cons_append, bodyIn, bodyIn, ih, List.append_assoc]
theorem bodyIn_len : ∀ l, (bodyIn l).length = 4 * l.length
  | [] => rfl
  | x :: l => by rw [bodyIn, List.length_append, be_len, bodyIn_len l, List.length_cons]; omega
/-- A body. -/
def bodyE (e : Ent) : List UInt8 :=
  if e.k = 1 then [1] ++ be 8 e.pr
  else if e.k = 2 then [2] ++ be 1 e.nm.length ++ e.nm
  else if e.k = 3 then [3] ++ be 1 e.nm.length ++ e.nm ++ be 4 e.ru.toNat ++ be 8 e.re.toNat ++ be 8 e.li.toNat ++ be 4 e.su
  else if e.k = 5 then [5] ++ be 1 e.nm.length ++ e.nm ++ be 4 e.ru.toNat ++ be 8 e.re.toNat ++ be 4 e.su ++ be 1 e.inn.length ++ bodyIn e.inn
  else [UInt8.ofNat e.k]
theorem clean_len {s : List UInt8} (h : clean s = true) : 1 ≤ s.length ∧ s.length ≤ 64 := by
  simp only [clean, Bool.and_eq_true, decide_eq_true_eq] at h
  exact ⟨h.1, h.2.1⟩
theorem body_len {e : Ent} (h : May e) : (bodyE e).length ≤ 400 := by
  unfold bodyE
  cases h with
  | job h1 => rw [if_pos h1]; simp [be_len]
  | make h1 h2 h3 => rw [if_neg (by omega), if_pos h1]; have := clean_len h3; simp [be_len]; omega
  | run h1 h2 h3 => rw [if_neg (by omega), if_neg (by omega), if_pos h1]; have := clean_len h3; simp [be_len]; omega
  | bare h1 => rw [if_neg (by omega), if_neg (by omega), if_neg (by omega), if_neg (by omega)]; simp
  | merge h1 h2 h3 h4 h5 h6 h7 => rw [if_neg (by omega), if_neg (by omega), if_neg (by omega), if_pos h1]; have := clean_len h3; simp [be_len, bodyIn_len]; omega
/-- A head, and what is framed by it. -/
def hd7 (n L : Nat) : List UInt8 := [229] ++ be 4 n ++ be 2 L
def headE (n L : Nat) : List UInt8 := hd7 n L ++ be 4 (sumN (hd7 n L))
def frameE (n : Nat) (b : List UInt8) : List UInt8 := headE n b.length ++ b ++ be 4 (sumN b)
theorem headE_len (n L : Nat) : (headE n L).length = 11 := by simp [headE, hd7, be_len]
theorem frameE_len (n : Nat) (b : List UInt8) : (frameE n b).length = b.length + 15 := by simp [frameE, headE_len, be_len]; omega
theorem sumN_lt (l : List UInt8) : sumN l < 2 ^ 32 := sumMoreN_lt (by decide) l
end Go.Proofs.YtlbekgcfafofdaaDoor
