/- Whole numbers as texts, read: the plain mathematics. -/
import Derived.Test.YtpbbgmfjdachnaaDoorDeci
namespace Go.Proofs.YtpbbgmfjdachnaaDoor

theorem tw_app {p : UInt8 → Bool} {a b : List UInt8} (h : ∀ x ∈ a, p x = true) (hb : p (atB b 0) = false ∨ b = []) : (a ++ b).takeWhile p = a := by
  induction a with
  | nil =>
    cases b with
    | nil => rfl
    | cons y r =>
      rcases hb with hb | hb
      · have : p y = false := hb
        simp [this]
      · cases hb
  | cons x r ih =>
    have := h x (List.mem_cons_self ..)
    simp [this]
    exact ih fun z hz => h z (List.mem_cons_of_mem _ hz)
theorem dw_app {p : UInt8 → Bool} {a b : List UInt8} (h : ∀ x ∈ a, p x = true) (hb : p (atB b 0) = false ∨ b = []) : (a ++ b).dropWhile p = b := by
  induction a with
  | nil =>
    cases b with
    | nil => rfl
    | cons y r =>
      rcases hb with hb | hb
      · have : p y = false := hb
        simp [this]
      · cases hb
  | cons x r ih =>
    have := h x (List.mem_cons_self ..)
    simp [this]
    exact ih fun z hz => h z (List.mem_cons_of_mem _ hz)
theorem dig_cases {d : UInt8} (h : isDig d = true) : d = 48 ∨ d = 49 ∨ d = 50 ∨ d = 51 ∨ d = 52 ∨ d = 53 ∨ d = 54 ∨ d = 55 ∨ d = 56 ∨ d = 57 := by
  have h' := isDig_iff.1 h
  have k : ∀ n : Nat, n < 256 → d.toNat = n → d = UInt8.ofNat n := fun n hn e => UInt8.toNat_inj.1 (by rw [e]; simp; omega)
  have : d.toNat = 48 ∨ d.toNat = 49 ∨ d.toNat = 50 ∨ d.toNat = 51 ∨ d.toNat = 52 ∨ d.toNat = 53 ∨ d.toNat = 54 ∨ d.toNat = 55 ∨ d.toNat = 56 ∨ d.toNat = 57 := by omega
  rcases this with e | e | e | e | e | e | e | e | e | e
  · exact Or.inl (k 48 (by omega) e)
  · exact Or.inr (Or.inl (k 49 (by omega) e))
  · exact Or.inr (Or.inr (Or.inl (k 50 (by omega) e)))
  · exact Or.inr (Or.inr (Or.inr (Or.inl (k 51 (by omega) e))))
  · exact Or.inr (Or.inr (Or.inr (Or.inr (Or.inl (k 52 (by omega) e)))))
  · exact Or.inr (Or.inr (Or.inr (Or.inr (Or.inr (Or.inl (k 53 (by omega) e))))))
  · exact Or.inr (Or.inr (Or.inr (Or.inr (Or.inr (Or.inr (Or.inl (k 54 (by omega) e)))))))
  · exact Or.inr (Or.inr (Or.inr (Or.inr (Or.inr (Or.inr (Or.inr (Or.inl (k 55 (by omega) e))))))))
  · exact Or.inr (Or.inr (Or.inr (Or.inr (Or.inr (Or.inr (Or.inr (Or.inr (Or.inl (k 56 (by omega) e)))))))))
  · exact Or.inr (Or.inr (Or.inr (Or.inr (Or.inr (Or.inr (Or.inr (Or.inr (Or.inr (k 57 (by omega) e)))))))))
theorem dig_word {d : UInt8} (h : isDig d = true) : (d ||| 32 == 105) = false ∧ (d ||| 32 == 110) = false ∧ (d == 45) = false ∧ (d == 43) = false ∧ isBlank d = false := by
  rcases dig_cases h with rfl | rfl | rfl | rfl | rfl | rfl | rfl | rfl | rfl | rfl <;> decide
theorem zdg_cons (z m : Nat) : ∃ d r, zdg z m = d :: r ∧ isDig d = true := by
  cases h : zdg z m with
  | nil => exact absurd h (zdg_ne z m)
  | cons d r => exact ⟨d, r, rfl, zdg_dig z m d (by rw [h]; simp)⟩
theorem word_none {D : List UInt8} (hD : ∀ x ∈ D, isDig x = true) (hD0 : D ≠ []) (t : List UInt8) (neg : Bool) : wordS (D ++ t) neg = (0, 0) := by
  cases D with
  | nil => exact absurd rfl hD0
  | cons d r =>
    obtain ⟨h1, h2, _, _, _⟩ := dig_word (hD d (List.mem_cons_self ..))
    unfold wordS begB wInfinity wInf wNan
    simp only [List.cons_append, begW, h1, h2, Bool.false_and]
    rfl

/-- Digits with blanks and perhaps a sign ahead and something behind. -/
def sgL (neg : Bool) : List UInt8 := if neg then [45] else []
theorem scan_digs (p : List UInt8) (hp : ∀ x ∈ p, isBlank x = true) (neg : Bool) (D : List UInt8) (hD : ∀ x ∈ D, isDig x = true) (hD0 : D ≠ []) (t : List UInt8) (ht : isDig (atB t 0) = false) (g : Bool) :
    scanS (p ++ (sgL neg ++ (D ++ t))) g = ⟨3, neg, D, fracS t, if g then (expS (t.drop (fracN t))).1 else 0, p.length + (sgL neg).length + D.length + fracN t + if g then (expS (t.drop (fracN t))).2 else 0⟩ := by
  have hcons : ∃ d r, D = d :: r ∧ isDig d = true := by
    cases D with
    | nil => exact absurd rfl hD0
    | cons d r => exact ⟨d, r, rfl, hD d (List.mem_cons_self ..)⟩
  obtain ⟨d, r, h, hdig⟩ := hcons
  obtain ⟨_, _, d45, d43, dbl⟩ := dig_word hdig
  have hb : spanN isBlank (p ++ (sgL neg ++ (D ++ t))) = p.length := by
    unfold spanN
    rw [tw_app hp]
    left
    cases neg
    · rw [h]; exact dbl
    · rfl
  have hdr : (p ++ (sgL neg ++ (D ++ t))).drop p.length = sgL neg ++ (D ++ t) := by simp
  have core : ∀ neg base, numberS (D ++ t) g neg base = ⟨3, neg, D, fracS t, if g then (expS (t.drop (fracN t))).1 else 0, base + D.length + fracN t + if g then (expS (t.drop (fracN t))).2 else 0⟩ := by
    intro neg base
    have e1 : (D ++ t).takeWhile isDig = D := tw_app hD (Or.inl ht)
    have e2 : (D ++ t).dropWhile isDig = t := dw_app hD (Or.inl ht)
    have e5 : spanN isDig (D ++ t) = D.length := by unfold spanN; rw [e1]
    unfold numberS
    rw [e1, e2, e5, if_neg (fun k => hD0 k.1)]
    cases g <;> simp
  unfold scanS
  simp only [hb, hdr]
  cases neg with
  | true =>
    have e2 : atB (sgL true ++ (D ++ t)) 0 = 45 := rfl
    have e3 : signN (sgL true ++ (D ++ t)) g = 1 := rfl
    have e1 : (sgL true ++ (D ++ t)).drop 1 = D ++ t := rfl
    rw [e2, e3, e1, word_none hD hD0, core]
    simp only [Nat.lt_irrefl, decide_false, Bool.and_false, Bool.false_eq_true, if_false]
    rfl
  | false =>
    have e0 : sgL false ++ (D ++ t) = D ++ t := rfl
    have e2 : (atB (D ++ t) 0 == 45) = false := by rw [h]; exact d45
    have e3 : signN (D ++ t) g = 0 := by
      unfold signN
      rw [e2]
      have : (atB (D ++ t) 0 == 43) = false := by rw [h]; exact d43
      rw [this]; rfl
    rw [e0, e2, e3, List.drop_zero, word_none hD hD0, core]
    simp only [Nat.lt_irrefl, decide_false, Bool.and_false, Bool.false_eq_true, if_false]
    rfl
theorem writ_sg (n : Int) (z : Nat) : writ n z = sgL (decide (n < 0)) ++ zdg z n.natAbs := by
  rw [writ_zdg]; unfold sgL
  by_cases h : n < 0 <;> simp [h]

/-- What such a text counts for. -/
def valD (neg : Bool) (D : List UInt8) (r : Nat) (e : Int) : Val := if trimL D = [] then ⟨80, 0, 0, [], []⟩ else ⟨if neg then 64 else 96, r, (trimL D).length + e, trimR (trimL D), []⟩
theorem trimR_trimL {D : List UInt8} (h : trimR (trimL D) = []) : trimL D = [] := by
  cases hh : trimL D with
  | nil => rfl
  | cons c r =>
    rw [hh] at h
    have hc : c = 48 := trimR_none h c (List.mem_cons_self ..)
    rw [trimL_eq] at hh
    have := List.head?_dropWhile_not (· == (48 : UInt8)) D
    rw [hh] at this
    simp [hc] at this
theorem val_digs (kind : Nat) (p : List UInt8) (hp : ∀ x ∈ p, isBlank x = true) (neg : Bool) (D : List UInt8) (hD : ∀ x ∈ D, isDig x = true) (hD0 : D ≠ []) (t : List UInt8) (ht : isDig (atB t 0) = false) (hd : (atB t 0 == 46) = false) :
    valS kind (p ++ (sgL neg ++ (D ++ t))) = valD neg D (if kind = 64 then rankOf (atB t 0) else 0) (if kind = 32 then (expS t).1 else 0) := by
  have e3 : fracS t = [] := by unfold fracS; rw [hd]; rfl
  have e4 : fracN t = 0 := by unfold fracN; rw [hd]; rfl
  unfold valS
  rw [scan_digs p hp neg D hD hD0 t ht, e3, e4, List.drop_zero]
  unfold valH
  simp only [show ¬ (3 : Nat) = 1 by decide, show ¬ (3 : Nat) = 2 by decide, show ¬ (3 : Nat) = 4 by decide, show ¬ ((3 : Nat) = 0 ∧ kind = 32) from fun h => absurd h.1 (by decide), if_false]
  have eF : ∀ e s, numF ⟨3, neg, D, [], e, s⟩ = [] := by
    intro e s; unfold numF
    simp only [trimR_nil]
    split <;> rfl
  have eW : ∀ e s, numW ⟨3, neg, D, [], e, s⟩ = trimR (trimL D) := by
    intro e s
    have := eF e s
    unfold numF at this
    unfold numW
    rw [if_pos this]
  have eE : ∀ e s, trimL D ≠ [] → numE ⟨3, neg, D, [], e, s⟩ = (trimL D).length + e := by
    intro e s hne
    unfold numE
    simp only
    rw [if_neg hne]
  unfold numD
  simp only [eF, eW, List.append_nil]
  unfold valD
  by_cases h0 : trimL D = []
  · rw [if_pos h0, if_pos (by rw [h0]; rfl)]
  · rw [if_neg h0, if_neg (fun h => h0 (trimR_trimL h)), eE _ _ h0]
    have eS : kind = 64 → ∀ e x, sufS ⟨3, neg, D, [], e, p.length + (sgL neg).length + D.length + 0 + if (kind == 32) = true then x else 0⟩ (p ++ (sgL neg ++ (D ++ t))) = rankOf (atB t 0) := by
      intro h64 e x
      subst h64
      show (if (3 : Nat) = 0 then 0 else rankOf (atB (p ++ (sgL neg ++ (D ++ t))) (p.length + (sgL neg).length + D.length + 0 + 0))) = rankOf (atB t 0)
      rw [if_neg (by decide)]
      congr 1
      unfold atB
      rw [List.getD_eq_getElem?_getD, List.getD_eq_getElem?_getD, List.getElem?_append_right (by omega), List.getElem?_append_right (by omega), List.getElem?_append_right (by omega)]
      congr 2
      omega
    by_cases h64 : kind = 64
    · rw [if_pos h64, if_pos h64, eS h64]
      subst h64
      simp
    · rw [if_neg h64, if_neg h64]
      by_cases h32 : kind = 32
      · subst h32
        simp
      · have : (kind == 32) = false := by simpa using h32
        simp [h32, this]
theorem valD_zdg (n : Int) (z r : Nat) (e : Int) : valD (decide (n < 0)) (zdg z n.natAbs) r e = valW n r e := by
  unfold valD valW
  rw [trimL_zdg]
  by_cases h0 : n = 0
  · rw [if_pos h0, if_pos (dgs_nil.2 (by omega))]
  · rw [if_neg h0, if_neg (fun h => h0 (by have := dgs_nil.1 h; omega))]
    by_cases hn : n < 0 <;> simp [hn]
theorem val_zdg (kind : Nat) (p : List UInt8) (hp : ∀ x ∈ p, isBlank x = true) (n : Int) (z : Nat) (t : List UInt8) (ht : isDig (atB t 0) = false) (hd : (atB t 0 == 46) = false) :
    valS kind (p ++ (writ n z ++ t)) = valW n (if kind = 64 then rankOf (atB t 0) else 0) (if kind = 32 then (expS t).1 else 0) := by
  rw [writ_sg, List.append_assoc, val_digs kind p hp _ _ (zdg_dig z n.natAbs) (zdg_ne z n.natAbs) t ht hd, valD_zdg]

/-- As n, g and h compare them. -/
theorem whole_cmp (kind : Nat) (hk : kind = 16 ∨ kind = 32 ∨ kind = 64) (p q : List UInt8) (hp : ∀ x ∈ p, isBlank x = true) (hq : ∀ x ∈ q, isBlank x = true) (a b : Int) (i j : Nat) :
    cmpS kind (p ++ (writ a i ++ [120])) (q ++ (writ b j ++ [47])) = cmpI a b := by
  unfold cmpS
  rw [if_pos hk, val_zdg kind p hp a i [120] rfl rfl, val_zdg kind q hq b j [47] rfl rfl]
  have r1 : (if kind = 64 then rankOf (atB [120] 0) else 0) = 0 := by split <;> rfl
  have r2 : (if kind = 64 then rankOf (atB [47] 0) else 0) = 0 := by split <;> rfl
  have r3 : (if kind = 32 then (expS [120]).1 else 0) = 0 := by split <;> rfl
  have r4 : (if kind = 32 then (expS [47]).1 else 0) = 0 := by split <;> rfl
  rw [r1, r2, r3, r4]
  exact valW_cmp a b

/-- A text of digits alone, as versions compare it. -/
theorem notDig_of {x : UInt8} (h : isDig x = true) : notDig x = false := by unfold notDig; rw [h]; rfl
theorem dig_parts (W X : List UInt8) (hW : ∀ x ∈ W, isDig x = true) (hW0 : W ≠ []) (hX : isDig (atB X 0) = false) : plainOf (W ++ X) = [] ∧ digsOf (W ++ X) = W ∧ restOf (W ++ X) = X := by
  obtain ⟨d, r, rfl⟩ : ∃ d r, W = d :: r := by
    cases W with
    | nil => exact absurd rfl hW0
    | cons d r => exact ⟨d, r, rfl⟩
  have hd := notDig_of (hW d (List.mem_cons_self ..))
  have e1 : plainOf (d :: r ++ X) = [] := by unfold plainOf; simp [hd]
  have e2 : (d :: r ++ X).dropWhile notDig = d :: r ++ X := by simp [hd]
  refine ⟨e1, ?_, ?_⟩
  · unfold digsOf; rw [e2]; exact tw_app hW (Or.inl hX)
  · unfold restOf; rw [e2]; exact dw_app hW (Or.inl hX)
theorem nums_zdg (a b i j : Nat) : cmpNums (zdg i a) (zdg j b) = cmpI a b := by
  unfold cmpNums
  rw [if_neg (fun h => h.elim (zdg_ne i a) (zdg_ne j b)), trimL_zdg, trimL_zdg]
  exact dgs_cmp a b
theorem cmpPlain_nil : cmpPlain [] [] = 0 := rfl
theorem cmpVer_nil : cmpVer [] [] = 0 := rfl
theorem whole_ver (a b i j : Nat) : cmpVer (zdg i a) (zdg j b) = cmpI a b := by
  have pa := dig_parts (zdg i a) [] (zdg_dig i a) (zdg_ne i a) rfl
  have pb := dig_parts (zdg j b) [] (zdg_dig j b) (zdg_ne j b) rfl
  rw [List.append_nil] at pa pb
  rw [cmpVer_step _ _ (Or.inl (zdg_ne i a)), pa.2.2, pb.2.2, cmpVer_nil, thenC_right]
  unfold cmpPair
  rw [pa.1, pa.2.1, pb.1, pb.2.1, cmpPlain_nil, thenC_zero, nums_zdg]

/-- A beginning that both have. -/
theorem ver_common (n : Nat) : ∀ (B : List UInt8), B.length ≤ n → (B = [] ∨ ∃ B' c, B = B' ++ [c] ∧ isDig c = false) →
    ∃ P : List UInt8, (∀ x ∈ P, notDig x = true) ∧ ∀ T T', cmpVer (B ++ T) (B ++ T') = cmpVer (P ++ T) (P ++ T') := by
  induction n with
  | zero =>
    intro B hB _
    have : B = [] := List.eq_nil_of_length_eq_zero (by omega)
    subst this
    exact ⟨[], by simp, fun _ _ => rfl⟩
  | succ n ih =>
    intro B hB hend
    by_cases hd : B.dropWhile notDig = []
    · refine ⟨B, ?_, fun _ _ => rfl⟩
      have h := List.takeWhile_append_dropWhile (p := notDig) (l := B)
      rw [hd, List.append_nil] at h
      intro x hx
      rw [← h] at hx
      exact mem_takeWhile hx
    · have hB0 : B ≠ [] := fun h => hd (by rw [h]; rfl)
      rcases hend with hend | ⟨B', c, hB', hc⟩
      · exact absurd hend hB0
      have hsp := List.takeWhile_append_dropWhile (p := notDig) (l := B)
      have hsp2 := List.takeWhile_append_dropWhile (p := isDig) (l := B.dropWhile notDig)
      have hr : restOf B ≠ [] := by
        intro h
        unfold restOf at h
        rw [h, List.append_nil] at hsp2
        have hm : c ∈ B.dropWhile notDig := by
          have : B.getLast? = some c := by rw [hB']; simp
          rw [← hsp, List.getLast?_append] at this
          cases hl : (B.dropWhile notDig).getLast? with
          | none => exact absurd (List.getLast?_eq_none_iff.1 hl) hd
          | some y =>
            rw [hl] at this
            have : y = c := by simpa using this
            rw [← this]
            exact List.mem_of_getLast? hl
        rw [← hsp2] at hm
        have := mem_takeWhile hm
        rw [hc] at this; cases this
      have hrest : ∃ R' , restOf B = R' ++ [c] := by
        have h1 : (restOf B).getLast? = some c := by
          have : B.getLast? = some c := by rw [hB']; simp
          rw [← hsp, ← hsp2, List.getLast?_append, List.getLast?_append] at this
          cases hl : ((B.dropWhile notDig).dropWhile isDig).getLast? with
          | none => exact absurd (List.getLast?_eq_none_iff.1 hl) hr
          | some y =>
            rw [hl] at this
            have e : y = c := by simpa using this
            rw [← e]; exact hl
        obtain ⟨R', h⟩ := List.getLast?_eq_some_iff.1 h1
        exact ⟨R', h⟩
      obtain ⟨R', hR'⟩ := hrest
      have hlt := restOf_lt hB0
      obtain ⟨P, hP, hc'⟩ := ih (restOf B) (by omega) (Or.inr ⟨R', c, hR', hc⟩)
      refine ⟨P, hP, fun T T' => ?_⟩
      have parts : ∀ T : List UInt8, plainOf (B ++ T) = plainOf B ∧ digsOf (B ++ T) = digsOf B ∧ restOf (B ++ T) = restOf B ++ T := by
        intro T
        have hne : (B.dropWhile notDig).isEmpty = false := by
          cases hh : B.dropWhile notDig with
          | nil => exact absurd hh hd
          | cons _ _ => rfl
        have hne2 : ((B.dropWhile notDig).dropWhile isDig).isEmpty = false := by
          cases hh : (B.dropWhile notDig).dropWhile isDig with
          | nil => exact absurd hh hr
          | cons _ _ => rfl
        have d1 : (B ++ T).dropWhile notDig = B.dropWhile notDig ++ T := by rw [List.dropWhile_append, hne]; rfl
        have d2 : (B.dropWhile notDig ++ T).dropWhile isDig = (B.dropWhile notDig).dropWhile isDig ++ T := by rw [List.dropWhile_append, hne2]; rfl
        refine ⟨?_, ?_, ?_⟩
        · have a1 := List.takeWhile_append_dropWhile (p := notDig) (l := B ++ T)
          rw [d1] at a1
          have a2 : B ++ T = B.takeWhile notDig ++ (B.dropWhile notDig ++ T) := by rw [← List.append_assoc, hsp]
          exact List.append_cancel_right (a1.trans a2)
        · unfold digsOf
          rw [d1]
          have a1 := List.takeWhile_append_dropWhile (p := isDig) (l := B.dropWhile notDig ++ T)
          rw [d2] at a1
          have a2 : B.dropWhile notDig ++ T = (B.dropWhile notDig).takeWhile isDig ++ ((B.dropWhile notDig).dropWhile isDig ++ T) := by rw [← List.append_assoc, hsp2]
          exact List.append_cancel_right (a1.trans a2)
        · unfold restOf
          rw [d1, d2]
      have hz : cmpPair (B ++ T) (B ++ T') = 0 := by
        unfold cmpPair
        rw [(parts T).1, (parts T).2.1, (parts T').1, (parts T').2.1, cmpPlain_is.refl, cmpNums_is.refl]; rfl
      rw [cmpVer_step _ _ (Or.inl (by simp [hB0])), hz, thenC_zero, (parts T).2.2, (parts T').2.2, hc']

theorem plain_parts (P X : List UInt8) (hP : ∀ x ∈ P, notDig x = true) (hX : notDig (atB X 0) = false ∨ X = []) : plainOf (P ++ X) = P ∧ (P ++ X).dropWhile notDig = X :=
  ⟨tw_app hP hX, dw_app hP hX⟩
theorem head_dig {W : List UInt8} (X : List UInt8) (hW : ∀ x ∈ W, isDig x = true) (hW0 : W ≠ []) : notDig (atB (W ++ X) 0) = false := by
  cases W with
  | nil => exact absurd rfl hW0
  | cons d r => exact notDig_of (hW d (List.mem_cons_self ..))
theorem ver_nums (P W W' X X' : List UInt8) (hP : ∀ x ∈ P, notDig x = true) (hW : ∀ x ∈ W, isDig x = true) (hW' : ∀ x ∈ W', isDig x = true) (n1 : W ≠ []) (n2 : W' ≠ [])
    (hX : isDig (atB X 0) = false) (hX' : isDig (atB X' 0) = false) : cmpVer (P ++ (W ++ X)) (P ++ (W' ++ X')) = thenC (cmpNums W W') (cmpVer X X') := by
  have q : ∀ W X : List UInt8, (∀ x ∈ W, isDig x = true) → W ≠ [] → isDig (atB X 0) = false → plainOf (P ++ (W ++ X)) = P ∧ digsOf (P ++ (W ++ X)) = W ∧ restOf (P ++ (W ++ X)) = X := by
    intro W X hW n1 hX
    obtain ⟨p1, p2⟩ := plain_parts P (W ++ X) hP (Or.inl (head_dig X hW n1))
    refine ⟨p1, ?_, ?_⟩
    · unfold digsOf; rw [p2]; exact tw_app hW (Or.inl hX)
    · unfold restOf; rw [p2]; exact dw_app hW (Or.inl hX)
  obtain ⟨a1, a2, a3⟩ := q W X hW n1 hX
  obtain ⟨b1, b2, b3⟩ := q W' X' hW' n2 hX'
  rw [cmpVer_step _ _ (Or.inl (by simp [n1])), a3, b3]
  unfold cmpPair
  rw [a1, a2, b1, b2, cmpPlain_is.refl, thenC_zero]
theorem ver_less (P W : List UInt8) (hP : ∀ x ∈ P, notDig x = true) (hW : ∀ x ∈ W, isDig x = true) (n1 : W ≠ []) : cmpVer (P ++ []) (P ++ W) = -1 := by
  obtain ⟨p1, p2⟩ := plain_parts P [] hP (Or.inr rfl)
  obtain ⟨q1, q2⟩ := plain_parts P W hP (Or.inl (by have := head_dig [] hW n1; rwa [List.append_nil] at this))
  have e1 : digsOf (P ++ []) = [] := by unfold digsOf; rw [p2]; rfl
  have e2 : digsOf (P ++ W) = W := by
    unfold digsOf; rw [q2]
    have := tw_app (b := []) hW (Or.inr rfl)
    rwa [List.append_nil] at this
  rw [cmpVer_step _ _ (Or.inr (by simp [n1]))]
  have hz : cmpPair (P ++ []) (P ++ W) = -1 := by
    unfold cmpPair
    rw [p1, q1, e1, e2, cmpPlain_is.refl, thenC_zero]
    unfold cmpNums
    rw [if_pos (Or.inl rfl)]
    have : 0 < W.length := List.length_pos_iff.2 n1
    unfold cmpI
    rw [if_pos (by simp; omega)]
  rw [hz]; rfl
theorem cmpPlain_tilde : ∀ P : List UInt8, cmpPlain (P ++ [126]) P = -1
  | [] => rfl
  | x :: P => by
    show cmpPlain (x :: (P ++ [126])) (x :: P) = -1
    rw [cmpPlain_cons, cmpI_is.refl, thenC_zero, cmpPlain_tilde P]
theorem ver_tilde (P : List UInt8) (hP : ∀ x ∈ P, notDig x = true) : cmpVer (P ++ [126]) (P ++ []) = -1 := by
  obtain ⟨p1, p2⟩ := plain_parts P [] hP (Or.inr rfl)
  have hP2 : ∀ x ∈ P ++ [126], notDig x = true := by
    intro x hx
    rcases List.mem_append.1 hx with h | h
    · exact hP x h
    · have : x = 126 := by simpa using h
      subst this; rfl
  obtain ⟨q1, q2⟩ := plain_parts (P ++ [126]) [] hP2 (Or.inr rfl)
  rw [List.append_nil] at q1
  rw [cmpVer_step _ _ (Or.inl (by simp))]
  have hz : cmpPair (P ++ [126]) (P ++ []) = -1 := by
    unfold cmpPair
    rw [p1, q1, cmpPlain_tilde]; rfl
  rw [hz]; rfl

/-- What NumeralVersions says, of lists. -/
theorem versions_of (B : List UInt8) (hB : B = [] ∨ ∃ B' c, B = B' ++ [c] ∧ isDig c = false) (a b i : Nat) (x y : List UInt8) :
    cmpVer (B ++ (zdg i a ++ 45 :: x)) (B ++ (zdg 0 b ++ 45 :: y)) = thenC (cmpI a b) (cmpVer (45 :: x) (45 :: y)) ∧
    cmpVer B (B ++ zdg i a) = -1 ∧ cmpVer (B ++ [126]) B = -1 := by
  obtain ⟨P, hP, h⟩ := ver_common B.length B (Nat.le_refl _) hB
  refine ⟨?_, ?_, ?_⟩
  · rw [h, ver_nums P _ _ _ _ hP (zdg_dig i a) (zdg_dig 0 b) (zdg_ne i a) (zdg_ne 0 b) rfl rfl, nums_zdg]
  · have := h [] (zdg i a)
    rw [List.append_nil] at this
    rw [this]
    exact ver_less P _ hP (zdg_dig i a) (zdg_ne i a)
  · have := h [126] []
    rw [List.append_nil] at this
    rw [this]
    exact ver_tilde P hP
end Go.Proofs.YtpbbgmfjdachnaaDoor
