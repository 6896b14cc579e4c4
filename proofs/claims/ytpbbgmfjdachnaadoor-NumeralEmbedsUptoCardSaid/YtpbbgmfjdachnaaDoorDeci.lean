/- Whole numbers as texts, compared: the plain mathematics. -/
import Derived.Test.YtpbbgmfjdachnaaDoorWrit
import Derived.Test.YtpbbgmfjdachnaaDoorEmb
namespace Go.Proofs.YtpbbgmfjdachnaaDoor

theorem dchar (m : Nat) : (48 + UInt8.ofNat (m % 10) : UInt8).toNat = 48 + m % 10 := by
  rw [UInt8.toNat_add]; simp; omega
theorem isDig_iff {c : UInt8} : isDig c = true ↔ 48 ≤ c.toNat ∧ c.toNat ≤ 57 := by
  unfold isDig; simp
theorem dgs_dig (m : Nat) : ∀ x ∈ dgs m, isDig x = true := by
  induction m using Nat.strongRecOn with
  | ind m ih =>
    intro x hx
    by_cases e : m = 0
    · subst e; rw [dgs_zero] at hx; simp at hx
    · rw [dgs_pos e] at hx
      rcases List.mem_append.1 hx with h | h
      · exact ih (m / 10) (by omega) x h
      · have : x = 48 + UInt8.ofNat (m % 10) := by simpa using h
        subst this
        rw [isDig_iff, dchar]; omega
theorem dgs_head (m : Nat) (h : m ≠ 0) : ∃ c r, dgs m = c :: r ∧ c ≠ 48 := by
  induction m using Nat.strongRecOn with
  | ind m ih =>
    by_cases e : m / 10 = 0
    · refine ⟨48 + UInt8.ofNat (m % 10), [], by rw [dgs_pos h, e, dgs_zero]; rfl, fun k => ?_⟩
      have := congrArg UInt8.toNat k
      rw [dchar] at this
      have : (48 : UInt8).toNat = 48 := rfl
      omega
    · obtain ⟨c, r, h1, h2⟩ := ih (m / 10) (by omega) e
      exact ⟨c, r ++ [48 + UInt8.ofNat (m % 10)], by rw [dgs_pos h, h1]; rfl, h2⟩
theorem dgs_nil {m : Nat} : dgs m = [] ↔ m = 0 := by
  constructor
  · intro h
    apply Classical.byContradiction
    intro k
    obtain ⟨c, r, h1, _⟩ := dgs_head m k
    rw [h1] at h; cases h
  · rintro rfl; exact dgs_zero
theorem dg_ne (m : Nat) : dg m ≠ [] := by
  unfold dg
  split
  · simp
  · rename_i h; exact fun k => h (dgs_nil.1 k)
theorem dg_dig (m : Nat) : ∀ x ∈ dg m, isDig x = true := by
  unfold dg
  split
  · intro x hx
    have : x = 48 := by simpa using hx
    subst this; rfl
  · exact dgs_dig m
def zdg (z m : Nat) : List UInt8 := List.replicate z 48 ++ dg m
theorem zdg_ne (z m : Nat) : zdg z m ≠ [] := by unfold zdg; exact fun h => dg_ne m (List.append_eq_nil_iff.1 h).2
theorem zdg_dig (z m : Nat) : ∀ x ∈ zdg z m, isDig x = true := by
  intro x hx
  rcases List.mem_append.1 hx with h | h
  · have := (List.mem_replicate.1 h).2
    subst this; rfl
  · exact dg_dig m x h
theorem writ_zdg (n : Int) (z : Nat) : writ n z = (if n < 0 then [45] else []) ++ zdg z n.natAbs := rfl

theorem trimL_eq (l : List UInt8) : trimL l = l.dropWhile (· == 48) := by
  unfold trimL Lib.trimLeftS
  congr 1; funext c; simp; rfl
theorem trimR_eq (l : List UInt8) : trimR l = (l.reverse.dropWhile (· == 48)).reverse := by
  unfold trimR Lib.trimRightS
  congr 2; funext c; simp; rfl
theorem dropZeros (l : List UInt8) : ∀ z, (List.replicate z (48 : UInt8) ++ l).dropWhile (· == 48) = l.dropWhile (· == 48)
  | 0 => by simp
  | z + 1 => by
    simp [List.replicate_succ, dropZeros l z]
theorem trimL_dgs (m : Nat) : trimL (dgs m) = dgs m := by
  rw [trimL_eq]
  by_cases e : m = 0
  · subst e; rw [dgs_zero]; rfl
  · obtain ⟨c, r, h, hc⟩ := dgs_head m e
    have e : (c == 48) = false := by simpa using hc
    rw [h]
    simp [List.dropWhile, e]
theorem trimL_zdg (z m : Nat) : trimL (zdg z m) = dgs m := by
  rw [trimL_eq]
  unfold zdg
  rw [dropZeros, ← trimL_eq]
  unfold dg
  split
  · rename_i e; subst e; rw [dgs_zero]; rfl
  · exact trimL_dgs m
theorem trimR_nil : trimR [] = [] := rfl
theorem trimR_cons (x : UInt8) (l : List UInt8) : trimR (x :: l) = if trimR l = [] ∧ x = 48 then [] else x :: trimR l := by
  rw [trimR_eq, trimR_eq, List.reverse_cons, List.dropWhile_append]
  by_cases h : (l.reverse.dropWhile (· == 48)) = []
  · rw [h]
    by_cases k : x = 48
    · subst k; simp [List.dropWhile]
    · have e : (x == 48) = false := by simpa using k
      simp [List.dropWhile, e, k]
  · have : (l.reverse.dropWhile (· == 48)).isEmpty = false := by
      cases hh : l.reverse.dropWhile (· == 48) with
      | nil => exact absurd hh h
      | cons _ _ => rfl
    rw [this]
    simp [h]
theorem trimR_none {l : List UInt8} (h : trimR l = []) : ∀ x ∈ l, x = 48 := by
  induction l with
  | nil => intro x hx; simp at hx
  | cons y r ih =>
    rw [trimR_cons] at h
    by_cases k : trimR r = [] ∧ y = 48
    · intro x hx
      rcases List.mem_cons.1 hx with e | e
      · rw [e]; exact k.2
      · exact ih k.1 x e
    · rw [if_neg k] at h; cases h
theorem trimR_dgs {m : Nat} : trimR (dgs m) = [] ↔ m = 0 := by
  constructor
  · intro h
    apply Classical.byContradiction
    intro k
    obtain ⟨c, r, h1, h2⟩ := dgs_head m k
    exact h2 (trimR_none h c (by rw [h1]; simp))
  · rintro rfl; rw [dgs_zero]; rfl

/-- What is cut off the ends counts for nothing, where the lists are of one length. -/
theorem cmpL_trimR : ∀ (a b : List UInt8), a.length = b.length → (∀ x ∈ a, isDig x = true) → (∀ x ∈ b, isDig x = true) → cmpL (trimR a) (trimR b) = cmpL a b
  | [], [], _, _, _ => rfl
  | [], y :: b, h, _, _ => by simp at h
  | x :: a, [], h, _, _ => by simp at h
  | x :: a, y :: b, h, ha, hb => by
    have ih := cmpL_trimR a b (by simpa using h) (fun z hz => ha z (List.mem_cons_of_mem _ hz)) (fun z hz => hb z (List.mem_cons_of_mem _ hz))
    have hx := isDig_iff.1 (ha x (List.mem_cons_self ..))
    have hy := isDig_iff.1 (hb y (List.mem_cons_self ..))
    have e48 : ∀ u : UInt8, u.toNat = 48 ↔ u = 48 := fun u => ⟨fun h => UInt8.toNat_inj.1 h, fun h => by rw [h]; rfl⟩
    have gt : ∀ u : UInt8, 48 ≤ u.toNat → u ≠ 48 → cmpI 48 u.toNat = -1 := fun u h1 h2 => by
      have : u.toNat ≠ 48 := fun h => h2 ((e48 u).1 h)
      unfold cmpI; rw [if_pos (by omega)]
    have gt' : ∀ u : UInt8, 48 ≤ u.toNat → u ≠ 48 → cmpI u.toNat 48 = 1 := fun u h1 h2 => by
      have : u.toNat ≠ 48 := fun h => h2 ((e48 u).1 h)
      unfold cmpI; rw [if_neg (by omega), if_pos (by omega)]
    have ne1 : (-1 : Int) ≠ 0 := by omega
    have ne2 : (1 : Int) ≠ 0 := by omega
    have z48 : ((48 : UInt8).toNat : Int) = 48 := rfl
    rw [trimR_cons, trimR_cons, cmpL_cons, ← ih]
    by_cases p : trimR a = [] ∧ x = 48
    · rw [if_pos p]
      obtain ⟨p1, rfl⟩ := p
      by_cases q : trimR b = [] ∧ y = 48
      · rw [if_pos q]
        obtain ⟨q1, rfl⟩ := q
        rw [p1, q1, cmpI_is.refl]; rfl
      · rw [if_neg q, cmpL_left, z48]
        by_cases e : y = 48
        · subst e
          have : trimR b ≠ [] := fun k => q ⟨k, rfl⟩
          rw [z48, cmpI_is.refl, thenC_zero, p1]
          cases hb' : trimR b with
          | nil => exact absurd hb' this
          | cons u r => rw [cmpL_left]
        · rw [gt y hy.1 e, thenC_ne ne1]
    · rw [if_neg p]
      by_cases q : trimR b = [] ∧ y = 48
      · rw [if_pos q, cmpL_right]
        obtain ⟨q1, rfl⟩ := q
        rw [z48]
        by_cases e : x = 48
        · subst e
          have : trimR a ≠ [] := fun k => p ⟨k, rfl⟩
          rw [z48, cmpI_is.refl, thenC_zero, q1]
          cases ha' : trimR a with
          | nil => exact absurd ha' this
          | cons u r => rw [cmpL_right]
        · rw [gt' x hx.1 e, thenC_ne ne2]
      · rw [if_neg q, cmpL_cons]

theorem cmpL_snoc : ∀ (a b : List UInt8) (u v : UInt8), a.length = b.length → cmpL (a ++ [u]) (b ++ [v]) = thenC (cmpL a b) (cmpI u.toNat v.toNat)
  | [], [], u, v, _ => by
    show cmpL (u :: []) (v :: []) = _
    rw [cmpL_cons, cmpL_nil, thenC_zero, thenC_right]
  | [], y :: b, _, _, h => by simp at h
  | x :: a, [], _, _, h => by simp at h
  | x :: a, y :: b, u, v, h => by
    show cmpL (x :: (a ++ [u])) (y :: (b ++ [v])) = _
    rw [cmpL_cons, cmpL_cons, cmpL_snoc a b u v (by simpa using h), thenC_assoc]

/-- Numbers compare as their digits do: the longer one is the greater. -/
theorem dgs_cmp (a : Nat) : ∀ b : Nat, thenC (cmpI (dgs a).length (dgs b).length) (cmpL (dgs a) (dgs b)) = cmpI a b := by
  induction a using Nat.strongRecOn with
  | ind a ih =>
    intro b
    by_cases ea : a = 0
    · by_cases eb : b = 0
      · subst ea eb; rw [dgs_zero]; rfl
      · subst ea
        have : 0 < (dgs b).length := List.length_pos_iff.2 fun h => eb (dgs_nil.1 h)
        have e1 : cmpI ((dgs 0).length : Int) (dgs b).length = -1 := by rw [dgs_zero]; unfold cmpI; rw [if_pos (by simp; omega)]
        have e2 : cmpI ((0 : Nat) : Int) b = -1 := by unfold cmpI; rw [if_pos (by omega)]
        rw [e1, e2]; rfl
    · by_cases eb : b = 0
      · subst eb
        have : 0 < (dgs a).length := List.length_pos_iff.2 fun h => ea (dgs_nil.1 h)
        have e1 : cmpI ((dgs a).length : Int) (dgs 0).length = 1 := by rw [dgs_zero]; unfold cmpI; rw [if_neg (by simp), if_pos (by simp; omega)]
        have e2 : cmpI (a : Int) ((0 : Nat) : Int) = 1 := by unfold cmpI; rw [if_neg (by omega), if_pos (by omega)]
        rw [e1, e2]; rfl
      · have k := ih (a / 10) (by omega) (b / 10)
        rw [dgs_pos ea, dgs_pos eb, List.length_append, List.length_append]
        have fin : thenC (cmpI ((a / 10 : Nat) : Int) ((b / 10 : Nat) : Int)) (cmpI ((48 + UInt8.ofNat (a % 10) : UInt8).toNat : Int) ((48 + UInt8.ofNat (b % 10) : UInt8).toNat : Int)) = cmpI a b := by
          rw [dchar, dchar]
          unfold thenC cmpI
          by_cases c1 : a / 10 < b / 10
          · rw [if_pos (show ((a / 10 : Nat) : Int) < ((b / 10 : Nat) : Int) by omega), if_pos (show (a : Int) < b by omega)]; rfl
          · by_cases c2 : b / 10 < a / 10
            · rw [if_neg (show ¬ ((a / 10 : Nat) : Int) < ((b / 10 : Nat) : Int) by omega), if_pos (show ((b / 10 : Nat) : Int) < ((a / 10 : Nat) : Int) by omega), if_neg (show ¬ (a : Int) < b by omega), if_pos (show (b : Int) < a by omega)]; rfl
            · rw [if_neg (show ¬ ((a / 10 : Nat) : Int) < ((b / 10 : Nat) : Int) by omega), if_neg (show ¬ ((b / 10 : Nat) : Int) < ((a / 10 : Nat) : Int) by omega)]
              by_cases c3 : a % 10 < b % 10
              · rw [if_pos (show ((48 + a % 10 : Nat) : Int) < ((48 + b % 10 : Nat) : Int) by omega), if_pos (show (a : Int) < b by omega)]; rfl
              · by_cases c4 : b % 10 < a % 10
                · rw [if_neg (show ¬ ((48 + a % 10 : Nat) : Int) < ((48 + b % 10 : Nat) : Int) by omega), if_pos (show ((48 + b % 10 : Nat) : Int) < ((48 + a % 10 : Nat) : Int) by omega), if_neg (show ¬ (a : Int) < b by omega), if_pos (show (b : Int) < a by omega)]; rfl
                · rw [if_neg (show ¬ ((48 + a % 10 : Nat) : Int) < ((48 + b % 10 : Nat) : Int) by omega), if_neg (show ¬ ((48 + b % 10 : Nat) : Int) < ((48 + a % 10 : Nat) : Int) by omega), if_neg (show ¬ (a : Int) < b by omega), if_neg (show ¬ (b : Int) < a by omega)]; rfl
        have el : cmpI (((dgs (a / 10)).length + 1 : Nat) : Int) (((dgs (b / 10)).length + 1 : Nat) : Int) = cmpI ((dgs (a / 10)).length : Int) (dgs (b / 10)).length := by
          unfold cmpI; simp
        show thenC (cmpI (((dgs (a / 10)).length + 1 : Nat) : Int) (((dgs (b / 10)).length + 1 : Nat) : Int)) _ = _
        rw [el]
        by_cases h : (dgs (a / 10)).length = (dgs (b / 10)).length
        · rw [cmpL_snoc _ _ _ _ h, ← thenC_assoc, k, fin]
        · have ne : cmpI ((dgs (a / 10)).length : Int) (dgs (b / 10)).length ≠ 0 := fun z => h (by have := cmpI_zero z; omega)
          rw [thenC_ne ne] at k ⊢
          rw [← fin, ← k, thenC_ne ne]

/-- Signed numbers. -/
def valW (n : Int) (r : Nat) (e : Int) : Val := if n = 0 then ⟨80, 0, 0, [], []⟩ else ⟨if n < 0 then 64 else 96, r, (dgs n.natAbs).length + e, trimR (dgs n.natAbs), []⟩
theorem size_cmp {a b : Nat} (r : Nat) : cmpSize ⟨0, r, (dgs a).length + 0, trimR (dgs a), []⟩ ⟨0, r, (dgs b).length + 0, trimR (dgs b), []⟩ = cmpI a b := by
  unfold cmpSize Val.digits
  simp only [List.append_nil, Int.add_zero]
  rw [cmpI_is.refl, thenC_zero]
  by_cases h : (dgs a).length = (dgs b).length
  · rw [cmpL_trimR _ _ h (dgs_dig a) (dgs_dig b)]
    exact dgs_cmp a b
  · have ne : cmpI ((dgs a).length : Int) (dgs b).length ≠ 0 := fun z => h (by have := cmpI_zero z; omega)
    rw [thenC_ne ne]
    have k := dgs_cmp a b
    rwa [thenC_ne ne] at k
theorem cmpSize_cls (c d c' d' : Nat) (r s : Nat) (e f : Int) (x y x' y' : List UInt8) : cmpSize ⟨c, r, e, x, y⟩ ⟨d, s, f, x', y'⟩ = cmpSize ⟨c', r, e, x, y⟩ ⟨d', s, f, x', y'⟩ := rfl
theorem valW_cmp (a b : Int) : cmpVal (valW a 0 0) (valW b 0 0) = cmpI a b := by
  unfold valW cmpVal
  by_cases a0 : a = 0
  · subst a0
    rw [if_pos rfl]
    by_cases b0 : b = 0
    · subst b0; rfl
    · rw [if_neg b0]
      by_cases bn : b < 0
      · rw [if_pos bn]
        unfold cmpI
        rw [if_neg (show ¬ (0 : Int) < b by omega), if_pos bn]; rfl
      · rw [if_neg bn]
        unfold cmpI
        rw [if_pos (show (0 : Int) < b by omega)]; rfl
  · rw [if_neg a0]
    by_cases b0 : b = 0
    · subst b0
      rw [if_pos rfl]
      by_cases an : a < 0
      · rw [if_pos an]
        unfold cmpI
        rw [if_pos an]; rfl
      · rw [if_neg an]
        unfold cmpI
        rw [if_neg an, if_pos (show (0 : Int) < a by omega)]; rfl
    · rw [if_neg b0]
      by_cases an : a < 0
      · rw [if_pos an]
        by_cases bn : b < 0
        · rw [if_pos bn]
          have k := size_cmp (a := b.natAbs) (b := a.natAbs) 0
          rw [cmpSize_cls 0 0 64 64] at k
          show thenC (cmpI 64 64) (if (64 : Nat) = 64 then cmpSize _ _ else cmpSize _ _) = _
          rw [cmpI_is.refl, thenC_zero, if_pos rfl]
          refine Eq.trans k ?_
          unfold cmpI
          by_cases c1 : a < b
          · rw [if_pos (by omega), if_pos c1]
          · rw [if_neg (by omega), if_neg c1]
            by_cases c2 : b < a
            · rw [if_pos (by omega), if_pos c2]
            · rw [if_neg (by omega), if_neg c2]
        · rw [if_neg bn]
          unfold cmpI
          rw [if_pos (show a < b by omega)]; rfl
      · rw [if_neg an]
        by_cases bn : b < 0
        · rw [if_pos bn]
          unfold cmpI
          rw [if_neg (show ¬ a < b by omega), if_pos (show b < a by omega)]; rfl
        · rw [if_neg bn]
          have k := size_cmp (a := a.natAbs) (b := b.natAbs) 0
          rw [cmpSize_cls 0 0 96 96] at k
          show thenC (cmpI 96 96) (if (96 : Nat) = 64 then cmpSize _ _ else cmpSize _ _) = _
          rw [cmpI_is.refl, thenC_zero, if_neg (by decide)]
          refine Eq.trans k ?_
          unfold cmpI
          by_cases c1 : a < b
          · rw [if_pos (by omega), if_pos c1]
          · rw [if_neg (by omega), if_neg c1]
            by_cases c2 : b < a
            · rw [if_pos (by omega), if_pos c2]
            · rw [if_neg (by omega), if_neg c2]
end Go.Proofs.YtpbbgmfjdachnaaDoor
