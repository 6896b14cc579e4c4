/- What Transform gives, as a function of a line; that its order is Compare's, and how long it is. No walk. -/
import Derived.Test.YtnpnccjeapejdaaGreatDoorNumEEmbLaw
import Derived.Test.YtnpnccjeapejdaaGreatDoorTa
namespace Go.Proofs.YtnpnccjeapejdaaGreatDoor.Num
theorem dw_head (p : UInt8 → Bool) : ∀ (l : List UInt8) (x : UInt8) (r : List UInt8), l.dropWhile p = x :: r → p x = false
  | [], _, _, h => by simp at h
  | a :: l, x, r, h => by
    rw [List.dropWhile_cons] at h
    by_cases c : p a = true
    · rw [if_pos c] at h
      exact dw_head p l x r h
    · rw [if_neg c] at h
      injection h with h1 h2
      subst h1
      simpa using c
theorem nums_len (d : List UInt8) : (numsE d).length ≤ 9 + d.length ∧ (d = [] → (numsE d).length = 1) := by
  unfold numsE
  refine ⟨?_, fun h => by rw [if_pos h]; rfl⟩
  split
  · simp; omega
  · have := trimL_le d
    simp [beN_len]; omega
theorem pair_size (l : List UInt8) : (pairE l).length = (plainOf l).length + 1 + (numsE (digsOf l)).length := by
  unfold pairE
  simp
  omega
theorem pair8 (l : List UInt8) (h : 1 ≤ (plainOf l).length) : (pairE l).length + 8 * (restOf l).length ≤ 8 * l.length := by
  have h1 := parts_len l
  have h2 := pair_size l
  obtain ⟨h3, h4⟩ := nums_len (digsOf l)
  by_cases e : digsOf l = []
  · have h5 := h4 e
    have h6 : (digsOf l).length = 0 := by rw [e]; rfl
    omega
  · have h6 := List.length_pos_iff.2 e
    omega
theorem pair8a (l : List UInt8) (h : l ≠ []) : (pairE l).length + 8 * (restOf l).length ≤ 8 * l.length + 3 := by
  have h0 := restOf_lt h
  have h1 := parts_len l
  have h2 := pair_size l
  obtain ⟨h3, h4⟩ := nums_len (digsOf l)
  by_cases e : digsOf l = []
  · have h5 := h4 e
    have h6 : (digsOf l).length = 0 := by rw [e]; rfl
    omega
  · have h6 := List.length_pos_iff.2 e
    omega
theorem rest_plain (l : List UInt8) (h : restOf l ≠ []) : 1 ≤ (plainOf (restOf l)).length := by
  obtain ⟨x, r, e⟩ := List.exists_cons_of_ne_nil h
  have d := dw_head isDig (l.dropWhile notDig) x r (by unfold restOf at e; exact e)
  rw [e]
  have n : notDig x = true := by simp [notDig, d]
  unfold plainOf
  rw [List.takeWhile_cons, if_pos n]
  simp
theorem verL8 (n : Nat) : ∀ l : List UInt8, l.length ≤ n → (l ≠ [] → 1 ≤ (plainOf l).length) → (verL l).length ≤ 8 * l.length + 2 := by
  induction n with
  | zero =>
    intro l h _
    have : l = [] := List.eq_nil_of_length_eq_zero (by omega)
    subst this; simp [verL_nil]
  | succ n ih =>
    intro l h hp
    by_cases e : l = []
    · subst e; simp [verL_nil]
    · have a := pair8 l (hp e)
      have b := restOf_lt e
      have c := ih (restOf l) (by omega) (rest_plain l)
      rw [verL_cons e, List.length_append]
      omega
theorem verL8a (l : List UInt8) : (verL l).length ≤ 8 * l.length + 5 := by
  by_cases e : l = []
  · subst e; simp [verL_nil]
  · have a := pair8a l e
    have c := verL8 _ (restOf l) (Nat.le_refl _) (rest_plain l)
    rw [verL_cons e, List.length_append]
    omega
theorem embS_len8 (kind : Nat) (s : ByteArray) (hs : s.size ≤ 10000000) : (embS kind s.data.toList).length ≤ 8 * s.size + 128 ∧ 0 < (embS kind s.data.toList).length := by
  have hl : s.data.toList.length = s.size := by rw [← Lib.size_eq]
  have f := valS_full kind s hs
  have f1 := f.whole
  have f2 := f.frac
  have v1 := verL8a s.data.toList
  have e1 := esc_len s.data.toList
  have sz : (sizeE (kind == 64) (valS kind s.data.toList)).length ≤ 2 * s.size + 20 := by
    unfold sizeE Val.digits
    split <;> (simp [beN_len]; omega)
  unfold embS
  split
  · unfold valE
    split
    · simp; omega
    · split
      · simp; omega
      · simp
  · split
    · simp
    · split
      · show (verL s.data.toList).length ≤ _ ∧ 0 < (verL s.data.toList).length
        refine ⟨by omega, ?_⟩
        by_cases e : s.data.toList = []
        · rw [e, verL_nil]; decide
        · rw [verL_cons e, List.length_append, pair_size]; omega
      · unfold escS
        rw [List.length_append]
        simp only [List.length_cons, List.length_nil]
        omega
end Go.Proofs.YtnpnccjeapejdaaGreatDoor.Num
namespace Go.Proofs.YtnpnccjeapejdaaGreatDoor
open Num (IsCmp thenC Sep)
/-- The image of what stands in a key's place. -/
def imB (m : Nat) (x : List UInt8) : List UInt8 :=
  if m &&& 496 = 0 ∨ m &&& 496 = 256 then Num.embS (m &&& 496) (filtS (letsS m) (foldS m) x) else Num.embS (m &&& 496) x
def imK (m : Nat) (x : List UInt8) : List UInt8 := if m &&& 512 = 0 then imB m x else (imB m x).map (255 - ·)
theorem bsz (l : List UInt8) (h : l.length ≤ 10000000) : (bs l).size ≤ 10000000 := by rw [bs_size]; exact h
theorem sep_emb (kind : Nat) (x y : List UInt8) (hx : x.length ≤ 10000000) (hy : y.length ≤ 10000000) : Sep (Num.cmpS kind x y) (Num.embS kind x) (Num.embS kind y) := by
  have := Num.sep_embS kind (bs x) (bs y) (bsz x hx) (bsz y hy)
  rw [bs_list, bs_list] at this
  exact this
theorem cmpS_0 (x y : List UInt8) : Num.cmpS 0 x y = Lib.compareBytes x y := by
  rw [Num.compareBytes_cmpL]
  unfold Num.cmpS
  simp
theorem imB_sep (m : Nat) (x y : List UInt8) (hx : x.length ≤ 10000000) (hy : y.length ≤ 10000000) : Sep (zB m x y) (imB m x) (imB m y) := by
  have fx := Nat.le_trans (filt_len (letsS m) (foldS m) x) hx
  have fy := Nat.le_trans (filt_len (letsS m) (foldS m) y) hy
  unfold zB imB
  by_cases h0 : m &&& 496 = 0
  · rw [if_pos h0, if_pos (Or.inl h0), if_pos (Or.inl h0), h0, ← cmpS_0]
    exact sep_emb 0 _ _ fx fy
  · by_cases h1 : m &&& 496 = 256
    · rw [if_neg h0, if_pos h1, if_pos (Or.inr h1), if_pos (Or.inr h1), h1]
      exact sep_emb 256 _ _ fx fy
    · rw [if_neg h0, if_neg h1, if_neg (by omega), if_neg (by omega)]
      exact sep_emb _ _ _ hx hy
theorem imK_sep (m : Nat) (x y : List UInt8) (hx : x.length ≤ 10000000) (hy : y.length ≤ 10000000) : Sep (zK m x y) (imK m x) (imK m y) := by
  unfold zK imK
  by_cases h : m &&& 512 = 0
  · rw [if_pos h, if_pos h, if_pos h]
    exact imB_sep m x y hx hy
  · rw [if_neg h, if_neg h, if_neg h, (zB_is m).anti x y]
    exact (imB_sep m x y hx hy).turn
theorem thenC_assoc (a b c : Int) : thenC (thenC a b) c = thenC a (thenC b c) := by
  unfold thenC
  by_cases h : a = 0
  · simp [h]
  · simp [h]
theorem firstN_then (z : Nat → Int) (n i : Nat) : firstN z (n + 1) i = thenC (z i) (firstN z n (i + 1)) := by
  rw [firstN]
  unfold thenC
  by_cases h : z i = 0
  · rw [if_pos h, if_neg (by simpa using h)]
  · rw [if_neg h, if_pos h]
theorem firstN_last (z : Nat → Int) : ∀ n i : Nat, firstN z (n + 1) i = thenC (firstN z n i) (z (i + n))
  | 0, i => by
    rw [firstN_then]
    simp only [firstN, Nat.add_zero]
    unfold thenC
    by_cases h : z i = 0 <;> simp [h]
  | n + 1, i => by
    rw [firstN_then, firstN_last z n (i + 1), ← thenC_assoc, ← firstN_then, show i + 1 + n = i + (n + 1) by omega]
/-- The images of a line's first n keys, one behind the other. -/
def prT (oo : Option UInt8) (L : List KeyL) (s : ByteArray) : Nat → List UInt8
  | 0 => []
  | n + 1 => prT oo L s n ++ imK (mL L n) (cutL s oo L n).data.toList
theorem cut_le (s : ByteArray) (oo : Option UInt8) (L : List KeyL) (i : Nat) : (cutL s oo L i).data.toList.length ≤ s.data.toList.length := by
  unfold cutL
  rw [ByteArray.data_extract]
  simp
  omega
theorem prT_sep (oo : Option UInt8) (L : List KeyL) (a b : ByteArray) (ha : a.data.toList.length ≤ 10000000) (hb : b.data.toList.length ≤ 10000000) :
    ∀ n, Sep (firstN (fun i => zK (mL L i) (cutL a oo L i).data.toList (cutL b oo L i).data.toList) n 0) (prT oo L a n) (prT oo L b n)
  | 0 => Sep.nil
  | n + 1 => by
    rw [firstN_last, Nat.zero_add]
    exact (prT_sep oo L a b ha hb n).app (imK_sep _ _ _ (Nat.le_trans (cut_le a oo L n) ha) (Nat.le_trans (cut_le b oo L n) hb))
/-- What Transform gives. -/
def laT (b1 b2 : Bool) (s : ByteArray) : List UInt8 := if b1 then (if b2 then (Num.embS 0 s.data.toList).map (255 - ·) else Num.embS 0 s.data.toList) else []
def trT (b1 b2 : Bool) (oo : Option UInt8) (L : List KeyL) (s : ByteArray) : List UInt8 := prT oo L s L.length ++ laT b1 b2 s
theorem trT_sep (b1 b2 : Bool) (oo : Option UInt8) (L : List KeyL) (a b : ByteArray) (ha : a.data.toList.length ≤ 10000000) (hb : b.data.toList.length ≤ 10000000) : Sep (cpS b1 b2 oo L a b) (trT b1 b2 oo L a) (trT b1 b2 oo L b) := by
  have e : cpS b1 b2 oo L a b = thenC (kyS oo L a b) (if b1 then (if b2 then - Lib.compareBytes a.data.toList b.data.toList else Lib.compareBytes a.data.toList b.data.toList) else 0) := by
    have n := cb_neg a.data.toList b.data.toList
    unfold cpS cmpV thenC
    by_cases h : kyS oo L a b = 0
    · rw [h]; cases b1 <;> cases b2 <;> simp [n]
    · simp [h]
  rw [e]
  have s0 := sep_emb 0 a.data.toList b.data.toList ha hb
  rw [cmpS_0] at s0
  refine (prT_sep oo L a b ha hb L.length).app ?_
  unfold laT
  cases b1 with
  | false => exact Sep.nil
  | true =>
    cases b2 with
    | false => exact s0
    | true => exact s0.turn
theorem trT_cb (b1 b2 : Bool) (oo : Option UInt8) (L : List KeyL) (a b : ByteArray) (ha : a.data.toList.length ≤ 10000000) (hb : b.data.toList.length ≤ 10000000) : Lib.compareBytes (trT b1 b2 oo L a) (trT b1 b2 oo L b) = cpS b1 b2 oo L a b := by
  rw [Num.compareBytes_cmpL]
  exact (trT_sep b1 b2 oo L a b ha hb).cmp
end Go.Proofs.YtnpnccjeapejdaaGreatDoor
