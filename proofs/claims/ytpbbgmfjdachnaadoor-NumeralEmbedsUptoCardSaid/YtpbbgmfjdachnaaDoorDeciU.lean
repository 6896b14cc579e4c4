/- Numbers with a letter, and numbers with an exponent: the plain mathematics. -/
import Derived.Test.YtpbbgmfjdachnaaDoorDeciS
namespace Go.Proofs.YtpbbgmfjdachnaaDoor

theorem cmpI_neg (a b : Int) : cmpI (-a) (-b) = cmpI b a := by
  unfold cmpI
  by_cases c1 : a < b
  · rw [if_neg (by omega), if_pos (by omega), if_neg (by omega), if_pos (by omega)]
  · by_cases c2 : b < a
    · rw [if_pos (by omega), if_pos (by omega)]
    · rw [if_neg (by omega), if_neg (by omega), if_neg (by omega), if_neg (by omega)]
theorem cmpI_shift (a b c : Int) : cmpI (a + c) (b + c) = cmpI a b := by
  unfold cmpI
  by_cases c1 : a < b
  · rw [if_pos (by omega), if_pos c1]
  · rw [if_neg (by omega), if_neg c1]
    by_cases c2 : b < a
    · rw [if_pos (by omega), if_pos c2]
    · rw [if_neg (by omega), if_neg c2]
theorem valW_pos {a : Int} (ha : 0 < a) (r : Nat) (e : Int) : valW a r e = ⟨96, r, (dgs a.natAbs).length + e, trimR (dgs a.natAbs), []⟩ := by
  unfold valW
  rw [if_neg (show ¬ a = 0 by omega), if_neg (show ¬ a < 0 by omega)]
theorem valW_neg {a : Int} (ha : 0 < a) (r : Nat) (e : Int) : valW (-a) r e = ⟨64, r, (dgs a.natAbs).length + e, trimR (dgs a.natAbs), []⟩ := by
  unfold valW
  rw [if_neg (show ¬ -a = 0 by omega), if_pos (show -a < 0 by omega), Int.natAbs_neg]
theorem size_key {a b : Int} (ha : 0 < a) (hb : 0 < b) : thenC (cmpI ((dgs a.natAbs).length + 0) ((dgs b.natAbs).length + 0)) (cmpL (trimR (dgs a.natAbs) ++ []) (trimR (dgs b.natAbs) ++ [])) = cmpI a b := by
  have k := size_cmp (a := a.natAbs) (b := b.natAbs) 0
  have e : cmpI ((0 : Nat) : Int) ((0 : Nat) : Int) = 0 := rfl
  unfold cmpSize Val.digits at k
  rw [e, thenC_zero] at k
  refine k.trans ?_
  have e1 : (a.natAbs : Int) = a := by omega
  have e2 : (b.natAbs : Int) = b := by omega
  rw [e1, e2]
/-- Two numbers above 0, with letters. -/
theorem valW_up {a b : Int} (ha : 0 < a) (hb : 0 < b) (i j : Nat) : cmpVal (valW a i 0) (valW b j 0) = thenC (cmpI i j) (cmpI a b) := by
  rw [valW_pos ha, valW_pos hb, ← size_key ha hb]
  rfl
theorem valW_down {a b : Int} (ha : 0 < a) (hb : 0 < b) (i j : Nat) : cmpVal (valW (-a) i 0) (valW (-b) j 0) = thenC (cmpI j i) (cmpI b a) := by
  rw [valW_neg ha, valW_neg hb, ← size_key hb ha]
  rfl
theorem valW_cross {a b : Int} (ha : 0 < a) (hb : 0 < b) (i j : Nat) : cmpVal (valW (-a) i 0) (valW b j 0) = -1 := by
  rw [valW_neg ha, valW_pos hb]
  rfl
theorem valW_zero {b : Int} (hb : 0 < b) (i j : Nat) : cmpVal (valW 0 i 0) (valW b j 0) = -1 := by
  rw [valW_pos hb]
  rfl

def markL (i : Nat) : List UInt8 := if i = 0 then [] else [([75, 77, 71, 84, 80, 69, 90, 89, 82, 81] : List UInt8).getD (i - 1) 0]
theorem mark_ok {i : Nat} (hi : i ≤ 10) : isDig (atB (markL i) 0) = false ∧ (atB (markL i) 0 == 46) = false ∧ rankOf (atB (markL i) 0) = i := by
  have : i = 0 ∨ i = 1 ∨ i = 2 ∨ i = 3 ∨ i = 4 ∨ i = 5 ∨ i = 6 ∨ i = 7 ∨ i = 8 ∨ i = 9 ∨ i = 10 := by omega
  rcases this with rfl | rfl | rfl | rfl | rfl | rfl | rfl | rfl | rfl | rfl | rfl <;> decide
theorem unit_val {i : Nat} (hi : i ≤ 10) (a : Int) (z : Nat) : valS 64 (writ a z ++ markL i) = valW a i 0 := by
  obtain ⟨m1, m2, m3⟩ := mark_ok hi
  have := val_zdg 64 [] (by simp) a z (markL i) m1 m2
  rw [List.nil_append, if_pos rfl, if_neg (by decide), m3] at this
  exact this
theorem unit_scan {i : Nat} (hi : i ≤ 10) (a : Int) (z : Nat) : scanS (writ a z ++ markL i) false = ⟨3, decide (a < 0), zdg z a.natAbs, [], 0, (writ a z).length⟩ := by
  obtain ⟨m1, m2, m3⟩ := mark_ok hi
  have e3 : fracS (markL i) = [] := by unfold fracS; rw [m2]; rfl
  have e4 : fracN (markL i) = 0 := by unfold fracN; rw [m2]; rfl
  have := scan_digs [] (by simp) (decide (a < 0)) (zdg z a.natAbs) (zdg_dig z a.natAbs) (zdg_ne z a.natAbs) (markL i) m1 false
  rw [List.nil_append, e3, e4] at this
  rw [writ_sg, List.append_assoc, this]
  simp
theorem writ_minus {a : Int} (ha : 0 < a) (z : Nat) : writ (-a) z = 45 :: writ a z := by
  unfold writ
  rw [if_pos (by omega), if_neg (by omega), Int.natAbs_neg]; rfl
theorem units_of {a b : Int} (ha : 0 < a) (hb : 0 < b) {i j : Nat} (hi : i ≤ 10) (hj : j ≤ 10) :
    cmpS 64 (writ a 0 ++ markL i) (writ b 0 ++ markL j) = thenC (cmpI i j) (cmpI a b) ∧
    cmpS 64 (45 :: (writ a 0 ++ markL i)) (45 :: (writ b 0 ++ markL j)) = thenC (cmpI j i) (cmpI b a) ∧
    cmpS 64 (45 :: (writ a 0 ++ markL i)) (writ b 0 ++ markL j) = -1 ∧
    cmpS 64 [48, 81] (writ a 0 ++ markL i) = -1 := by
  have k : ∀ x y, cmpS 64 x y = cmpVal (valS 64 x) (valS 64 y) := fun x y => by unfold cmpS; rw [if_pos (by simp)]
  have n : ∀ {a : Int} {i : Nat}, 0 < a → i ≤ 10 → valS 64 (45 :: (writ a 0 ++ markL i)) = valW (-a) i 0 := fun {a i} ha hi => by
    have := unit_val hi (-a) 0
    rw [writ_minus ha] at this
    exact this
  rw [k, k, k, k, unit_val hi a 0, unit_val hj b 0, n ha hi, n hb hj]
  refine ⟨valW_up ha hb i j, valW_down ha hb i j, valW_cross ha hb i j, ?_⟩
  have z : valS 64 [48, 81] = valW 0 10 0 := unit_val (i := 10) (by omega) 0 0
  rw [z]
  exact valW_zero ha 10 i

/-- An exponent as text. -/
theorem satS_app (l : List UInt8) : ∀ (e : Nat) (r : List UInt8), satS e (l ++ r) = satS (satS e l) r := by
  induction l with
  | nil => intro e r; rfl
  | cons c l ih => intro e r; exact ih _ r
theorem satS_zeros : ∀ z (r : List UInt8), satS 0 (List.replicate z 48 ++ r) = satS 0 r
  | 0, r => by simp
  | z + 1, r => by
    have e : min (10 * 0 + ((48 : UInt8).toNat - 48)) 1099511627776 = 0 := rfl
    rw [List.replicate_succ, List.cons_append]
    show satS (min (10 * 0 + ((48 : UInt8).toNat - 48)) 1099511627776) (List.replicate z 48 ++ r) = _
    rw [e]
    exact satS_zeros z r
theorem satS_dgs (m : Nat) : m ≤ 1099511627776 → satS 0 (dgs m) = m := by
  induction m using Nat.strongRecOn with
  | ind m ih =>
    intro h
    by_cases e : m = 0
    · subst e; rw [dgs_zero]; rfl
    · rw [dgs_pos e, satS_app, ih (m / 10) (by omega) (by omega)]
      show min (10 * (m / 10) + ((48 + UInt8.ofNat (m % 10) : UInt8).toNat - 48)) 1099511627776 = m
      rw [dchar]
      omega
theorem satS_zdg (z m : Nat) (h : m ≤ 1099511627776) : satS 0 (zdg z m) = m := by
  unfold zdg
  rw [satS_zeros]
  unfold dg
  split
  · rename_i e; subst e; rfl
  · exact satS_dgs m h
/-- e or E, perhaps a sign, and digits. -/
theorem exp_writ (c : UInt8) (hc : c = 101 ∨ c = 69) (e : Int) (z : Nat) (he : -1099511627776 ≤ e ∧ e ≤ 1099511627776) : expS (c :: writ e z) = (e, 1 + (writ e z).length) := by
  obtain ⟨d, r, hd, hdig⟩ := zdg_cons z e.natAbs
  obtain ⟨_, _, d45, d43, _⟩ := dig_word hdig
  have h0 : (atB (c :: writ e z) 0 == 101 || atB (c :: writ e z) 0 == 69) = true := by
    show (c == 101 || c == 69) = true
    rcases hc with rfl | rfl <;> rfl
  have hw : (zdg z e.natAbs).takeWhile isDig = zdg z e.natAbs := by
    have := tw_app (b := []) (zdg_dig z e.natAbs) (Or.inr rfl)
    rwa [List.append_nil] at this
  have hl : spanN isDig (zdg z e.natAbs) = (zdg z e.natAbs).length := by unfold spanN; rw [hw]
  have hpos : (zdg z e.natAbs).length ≠ 0 := by
    have := List.length_pos_iff.2 (zdg_ne z e.natAbs); omega
  unfold expS
  rw [h0, if_pos rfl]
  by_cases hn : e < 0
  · have e1 : writ e z = 45 :: zdg z e.natAbs := by rw [writ_zdg, if_pos hn]; rfl
    have e2 : expSg (c :: 45 :: zdg z e.natAbs) = 1 := rfl
    have e3 : (c :: 45 :: zdg z e.natAbs).drop (1 + 1) = zdg z e.natAbs := rfl
    rw [e1, e2, e3, hl, if_neg hpos, hw, satS_zdg _ _ (by omega)]
    have e4 : (atB (c :: 45 :: zdg z e.natAbs) 1 == 45) = true := rfl
    rw [e4, if_pos rfl]
    simp
    omega
  · have e1 : writ e z = zdg z e.natAbs := by rw [writ_zdg, if_neg hn]; rfl
    have h45 : (atB (c :: zdg z e.natAbs) 1 == 45) = false := by rw [hd]; exact d45
    have h43 : (atB (c :: zdg z e.natAbs) 1 == 43) = false := by rw [hd]; exact d43
    have e2 : expSg (c :: zdg z e.natAbs) = 0 := by unfold expSg; rw [h45, h43]; rfl
    have e3 : (c :: zdg z e.natAbs).drop (1 + 0) = zdg z e.natAbs := rfl
    rw [e1, e2, e3, hl, if_neg hpos, hw, satS_zdg _ _ (by omega), h45]
    simp
    omega
theorem exp_plus (c : UInt8) (hc : c = 101 ∨ c = 69) (e : Nat) (z : Nat) (he : e ≤ 1099511627776) : expS (c :: 43 :: zdg z e) = ((e : Int), 2 + (zdg z e).length) := by
  have h0 : (atB (c :: 43 :: zdg z e) 0 == 101 || atB (c :: 43 :: zdg z e) 0 == 69) = true := by
    show (c == 101 || c == 69) = true
    rcases hc with rfl | rfl <;> rfl
  have hw : (zdg z e).takeWhile isDig = zdg z e := by
    have := tw_app (b := []) (zdg_dig z e) (Or.inr rfl)
    rwa [List.append_nil] at this
  have hl : spanN isDig (zdg z e) = (zdg z e).length := by unfold spanN; rw [hw]
  have hpos : (zdg z e).length ≠ 0 := by
    have := List.length_pos_iff.2 (zdg_ne z e); omega
  unfold expS
  rw [h0, if_pos rfl]
  have e2 : expSg (c :: 43 :: zdg z e) = 1 := rfl
  have e3 : (c :: 43 :: zdg z e).drop (1 + 1) = zdg z e := rfl
  have e4 : (atB (c :: 43 :: zdg z e) 1 == 45) = false := rfl
  rw [e2, e3, hl, if_neg hpos, hw, satS_zdg _ _ he, e4]
  simp

/-- A number above 0 with an exponent, and it with so many zeros behind. -/
theorem exp_val (n : Int) (e : Int) (z : Nat) (he : -1099511627776 ≤ e ∧ e ≤ 1099511627776) : valS 32 (writ n 0 ++ 101 :: writ e z) = valW n 0 e := by
  have := val_zdg 32 [] (by simp) n 0 (101 :: writ e z) rfl rfl
  rw [List.nil_append, if_neg (by decide), if_pos rfl, exp_writ 101 (Or.inl rfl) e z he] at this
  exact this
theorem plus_val (n : Int) (e : Nat) (he : e ≤ 1099511627776) : valS 32 (writ n 0 ++ 69 :: 43 :: zdg 0 e) = valW n 0 e := by
  have := val_zdg 32 [] (by simp) n 0 (69 :: 43 :: zdg 0 e) rfl rfl
  rw [List.nil_append, if_neg (by decide), if_pos rfl, exp_plus 69 (Or.inr rfl) e 0 he] at this
  exact this
theorem trimR_zeros (l : List UInt8) : ∀ e, trimR (l ++ List.replicate e 48) = trimR l := by
  intro e
  rw [trimR_eq, trimR_eq, List.reverse_append, List.reverse_replicate, dropZeros]
theorem zeros_val (n : Nat) (hn : n ≠ 0) (e : Nat) : valS 32 (dgs n ++ List.replicate e 48) = valW n 0 e := by
  have hD : ∀ x ∈ dgs n ++ List.replicate e 48, isDig x = true := by
    intro x hx
    rcases List.mem_append.1 hx with h | h
    · exact dgs_dig n x h
    · have := (List.mem_replicate.1 h).2
      subst this; rfl
  have hne : dgs n ≠ [] := fun h => hn (dgs_nil.1 h)
  have := val_digs 32 [] (by simp) false (dgs n ++ List.replicate e 48) hD (by simp [hne]) [] rfl rfl
  rw [List.nil_append, if_neg (by decide), if_pos rfl, List.append_nil] at this
  have e0 : (expS []).1 = 0 := rfl
  rw [e0] at this
  refine Eq.trans this ?_
  obtain ⟨c, r, hc, h48⟩ := dgs_head n hn
  have ht : trimL (dgs n ++ List.replicate e 48) = dgs n ++ List.replicate e 48 := by
    rw [trimL_eq, hc]
    have e48 : (c == 48) = false := by simpa using h48
    simp [e48]
  unfold valD valW
  rw [ht, if_neg (by simp [hne]), if_neg (show ¬ (n : Int) = 0 by omega), trimR_zeros, if_neg (show ¬ (n : Int) < 0 by omega)]
  simp
theorem valW_exp {n : Int} (hn : 0 < n) (e f : Int) : cmpVal (valW n 0 e) (valW n 0 f) = cmpI e f ∧ cmpVal (valW (-n) 0 e) (valW (-n) 0 f) = cmpI f e := by
  have k : ∀ (l : Int) (x : List UInt8) (e f : Int), thenC (cmpI 0 0) (thenC (cmpI (l + e) (l + f)) (cmpL (x ++ []) (x ++ []))) = cmpI e f := by
    intro l x e f
    rw [cmpI_is.refl, thenC_zero, cmpL_is.refl, thenC_right, Int.add_comm l e, Int.add_comm l f, cmpI_shift]
  constructor
  · rw [valW_pos hn, valW_pos hn]
    exact k _ _ e f
  · rw [valW_neg hn, valW_neg hn]
    exact k _ _ f e
end Go.Proofs.YtpbbgmfjdachnaaDoor
