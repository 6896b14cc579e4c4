/- A key's text is read as the key; what is read is a key that may be. No walk. -/
import Derived.Test.YtbgbmojoldkcfaaDoorKtM
namespace Go.Proofs.YtbgbmojoldkcfaaDoor

theorem dotAt_drop (l : List UInt8) (k : Nat) (c : UInt8) : dotAt l k c = ((l.drop k).head? == some c) := by
  unfold dotAt
  by_cases h : k < l.length
  · rw [List.drop_eq_getElem_cons h, List.getD_eq_getElem?_getD, List.getElem?_eq_getElem h]
    simp [h]
  · rw [List.drop_eq_nil_of_le (by omega)]
    simp [h]
theorem drop_more {l : List UInt8} {a : Nat} {x r : List UInt8} (h : l.drop a = x ++ r) : l.drop (a + x.length) = r := by
  rw [← List.drop_drop, h, List.drop_left]
theorem dgT_len (n : Nat) : (dgT n).length ≠ 0 := by
  have := dgT_ne n
  cases h : dgT n with
  | nil => exact absurd h this
  | cons x l => simp
/-- A byte at a place behind which a place's text goes on. -/
def chT (c none : Nat) : List UInt8 := if c = none then [] else 46 :: dgT c
theorem place_text {l : List UInt8} {a none f c : Nat} {ms r : List UInt8} (hl : l.drop a = dgT f ++ (chT c none ++ (ms ++ r))) (hf : f ≤ maxF) (hf1 : 1 ≤ f) (hc : c ≤ maxF) (hn : none ≤ c)
    (hms : ltS (ms ++ r) = ms) (hno : noDg (ms ++ r)) (hdot : (ms ++ r).head? ≠ some 46) : ∃ e, placeS l a none = .good f c ms e ∧ l.drop e = r ∧ e = a + (dgT f).length + (chT c none).length + ms.length := by
  have h1 := drop_more hl
  have hn1 : noDg (chT c none ++ (ms ++ r)) := by
    unfold chT
    split
    · exact hno
    · intro x hx
      obtain rfl : (46 : UInt8) = x := by simpa using hx
      decide
  unfold placeS
  rw [hl, valS_dg maxF f hf _ hn1]
  simp only
  rw [if_neg (by have := dgT_len f; omega), dotAt_drop, h1]
  by_cases hcn : c = none
  · have e0 : chT c none = [] := by unfold chT; rw [if_pos hcn]
    rw [e0, List.nil_append] at h1 ⊢
    have : ((ms ++ r).head? == some 46) = false := by rw [beq_eq_false_iff_ne]; exact hdot
    rw [this]
    simp only [Bool.false_eq_true, if_false]
    unfold placeEnd
    rw [h1, hms]
    refine ⟨_, by rw [hcn], drop_more h1, by simp⟩
  · have e0 : chT c none = 46 :: dgT c := by unfold chT; rw [if_neg hcn]
    rw [e0] at h1 ⊢
    have h2 : l.drop (a + (dgT f).length + 1) = dgT c ++ (ms ++ r) := drop_more (x := [46]) h1
    have h3 := drop_more h2
    rw [List.cons_append, List.head?_cons]
    simp only [BEq.rfl, if_true]
    rw [h2, valS_dg maxF c hc _ hno]
    simp only
    rw [if_neg (by have := dgT_len c; omega)]
    unfold placeEnd
    rw [h3, hms]
    refine ⟨_, rfl, drop_more h3, ?_⟩
    simp only [List.length_cons]; omega
/-- The text of a key. -/
def endT (ef ec : Int) (b : Bool) : List UInt8 := if ef = 0 then [] else 44 :: (dgT ef.toNat ++ ((if ec = 0 then [] else 46 :: dgT ec.toNat) ++ (if b then [98] else [])))
def keyT (f c ef ec : Int) (m : Nat) (b : Bool) : List UInt8 := dgT f.toNat ++ ((if c = 1 then [] else 46 :: dgT c.toNat) ++ (letS m ++ endT ef ec b))
structure Holds (f c ef ec : Int) (m : Nat) (b : Bool) : Prop where
  f1 : 1 ≤ f
  f2 : f ≤ 2147483647
  c1 : 1 ≤ c
  c2 : c ≤ 2147483647
  e1 : 0 ≤ ef
  e2 : ef ≤ 2147483647
  d1 : 0 ≤ ec
  d2 : ec ≤ 2147483647
  two : ef ≠ 0 ∨ (ec = 0 ∧ b = false)
  m1 : m < 1024
  tog : togS m = true
theorem key_hold {f c ef ec : Int} {m : Nat} {b : Bool} (h : Holds f c ef ec m b) : keyS (keyT f c ef ec m b) = (⟨f.toNat, c.toNat, ef.toNat, ec.toNat, m, b⟩, 0, 0) := by
  obtain ⟨f1, f2, c1, c2, e1, e2, d1, d2, two, m1, tog⟩ := h
  have hm : orS 0 (letS m) = m := letS_or ⟨m, m1⟩
  have hch : ∀ (x : Int) (k : Nat), 0 ≤ x → (if x = (k : Int) then ([] : List UInt8) else 46 :: dgT x.toNat) = chT x.toNat k := by
    intro x k hx
    unfold chT
    by_cases he : x = (k : Int)
    · rw [if_pos he, if_pos (by omega)]
    · rw [if_neg he, if_neg (by omega)]
  generalize hl : keyT f c ef ec m b = l
  have hl0 : l.drop 0 = dgT f.toNat ++ (chT c.toNat 1 ++ (letS m ++ endT ef ec b)) := by rw [List.drop_zero, ← hl, ← hch c 1 (by omega)]; rfl
  have hend : ∀ x, (endT ef ec b).head? = some x → x = 44 := by
    intro x hx
    unfold endT at hx
    split at hx
    · cases hx
    · simpa using hx.symm
  obtain ⟨e, hp, hd, he⟩ := place_text hl0 (by show f.toNat ≤ 2147483647; omega) (by omega) (by show c.toNat ≤ 2147483647; omega) (by omega) (letS_lt m _ fun x hx => by rw [hend x hx]; decide) (letS_no m _ fun x hx => by rw [hend x hx]; decide) (by
    intro hx
    cases hL : letS m with
    | nil => rw [hL] at hx; exact absurd (hend 46 hx) (by decide)
    | cons y q =>
      rw [hL] at hx
      have hy : y = 46 := by simpa using hx
      have := (List.mem_filter.1 (show y ∈ letS m by rw [hL]; exact List.mem_cons_self ..)).1
      rw [hy] at this
      exact absurd this (by decide))
  unfold keyS
  rw [hp, keyOne, keyRest, dotAt_drop, hd]
  by_cases h0 : ef = 0
  · have e0 : endT ef ec b = [] := by unfold endT; rw [if_pos h0]
    rcases two with h2 | ⟨h2, h3⟩
    · exact absurd h0 h2
    · rw [e0] at hd ⊢
      have hlen : ¬ e < l.length := by
        have := List.length_drop (i := e) (l := l)
        rw [hd] at this
        simp at this; omega
      rw [show (([] : List UInt8).head? == some 44) = false from rfl]
      simp only [Bool.false_eq_true, if_false]
      rw [keyEnd, if_neg hlen]
      simp only [hm]
      rw [if_pos tog, h0, h2, h3]
      rfl
  · have e0 : endT ef ec b = 44 :: (dgT ef.toNat ++ (chT ec.toNat 0 ++ ((if b then [98] else []) ++ []))) := by
      unfold endT; rw [if_neg h0, ← hch ec 0 d1, List.append_nil]; rfl
    rw [e0] at hd ⊢
    have hd2 : l.drop (e + 1) = dgT ef.toNat ++ (chT ec.toNat 0 ++ ((if b then [98] else []) ++ [])) := drop_more (x := [44]) hd
    obtain ⟨e2', hp2, hd3, _⟩ := place_text hd2 (by show ef.toNat ≤ 2147483647; omega) (by omega) (by show ec.toNat ≤ 2147483647; omega) (by omega) (by cases b <;> decide) (by intro x hx; cases b <;> simp at hx; subst hx; decide) (by cases b <;> decide)
    have hlen : ¬ e2' < l.length := by
      have := List.length_drop (i := e2') (l := l)
      rw [hd3] at this
      simp at this; omega
    rw [List.head?_cons, if_pos (by rfl), hp2, keyTwo, keyEnd, if_neg hlen]
    have hb1 : orB (orS 0 (letS m)) (if b then [98] else []) = m := by rw [hm]; cases b <;> rfl
    have hb2 : hasB (if b then [98] else []) = b := by cases b <;> rfl
    simp only [hb1, hb2]
    rw [if_pos tog]
theorem orB_ltN : ∀ (l : List UInt8) (m : Nat), m < 1024 → orB m l < 1024
  | [], m, h => h
  | c :: r, m, h => by
    unfold orB
    split
    · exact orB_ltN r m h
    · exact orB_ltN r _ (Nat.or_lt_two_pow (n := 10) h (bitS_lt c))
theorem place_inv {l : List UInt8} {a none f c : Nat} {ms : List UInt8} {e : Nat} (hn : none ≤ 1) (h : placeS l a none = .good f c ms e) : 1 ≤ f ∧ f ≤ maxF ∧ none ≤ c ∧ c ≤ maxF := by
  have b1 := valS_le maxF (l.drop a) 0 (by omega)
  unfold placeS at h
  split at h
  · cases h
  · rename_i h0
    split at h
    · split at h
      · cases h
      · rename_i h1
        have b2 := valS_le maxF (l.drop (a + (valS maxF 0 (l.drop a)).2 + 1)) 0 (by omega)
        unfold placeEnd at h
        injection h with e1 e2 _ _
        subst e1 e2
        omega
    · unfold placeEnd at h
      injection h with e1 e2 _ _
      subst e1 e2
      have : maxF = 2147483647 := rfl
      omega
/-- What is read without an error may be. -/
theorem key_inv (l : List UInt8) (k : KeyR) (p : Nat) (h : keyS l = (k, p, 0)) : Holds k.f k.c k.ef k.ec k.m k.b := by
  have fin : ∀ (x : KeyR) (e : Nat), keyEnd l x e = (k, p, 0) → x = k ∧ togS k.m = true := by
    intro x e he
    unfold keyEnd at he
    split at he
    · injection he with _ h2; injection h2 with _ h3; cases h3
    · split at he
      · rename_i ht
        injection he with h1 _
        subst h1
        exact ⟨rfl, ht⟩
      · injection he with _ h2; injection h2 with _ h3; cases h3
  unfold keyS at h
  cases hp : placeS l 0 1 with
  | bad a => rw [hp, keyOne] at h; injection h with _ h2; injection h2 with _ h3; cases h3
  | good f c ms a =>
    rw [hp, keyOne, keyRest] at h
    obtain ⟨p1, p2, p3, p4⟩ := place_inv (by omega) hp
    have hm := orS_lt ms 0 (by omega)
    split at h
    · cases hq : placeS l (a + 1) 0 with
      | bad a' => rw [hq, keyTwo] at h; injection h with _ h2; injection h2 with _ h3; cases h3
      | good ef ec ms' a' =>
        rw [hq, keyTwo] at h
        obtain ⟨q1, q2, q3, q4⟩ := place_inv (by omega) hq
        obtain ⟨rfl, ht⟩ := fin _ _ h
        have : maxF = 2147483647 := rfl
        exact ⟨by simp only; omega, by simp only; omega, by simp only; omega, by simp only; omega, by simp only; omega, by simp only; omega, by simp only; omega, by simp only; omega, Or.inl (by simp only; omega), orB_ltN ms' _ hm, ht⟩
    · obtain ⟨rfl, ht⟩ := fin _ _ h
      have : maxF = 2147483647 := rfl
      exact ⟨by simp only; omega, by simp only; omega, by simp only; omega, by simp only; omega, by simp only; omega, by simp only; omega, by simp only; omega, by simp only; omega, Or.inr ⟨by simp only; omega, rfl⟩, hm, ht⟩
end Go.Proofs.YtbgbmojoldkcfaaDoor
