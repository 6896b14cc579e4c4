/- The plan of Make. No program. -/
import Derived.Test.YthajgfldjjgkiaaHp
namespace Go.Proofs.Ythajgfldjjgkiaa

/-- The lightest of the first k that are left. -/
def lsG (A : List Int) : Nat → Option Nat
  | 0 => none
  | k + 1 => match lsG A k with
    | none => if 0 ≤ A.getD k (-1) then some k else none
    | some b => if 0 ≤ A.getD k (-1) ∧ A.getD k (-1) < A.getD b (-1) then some k else some b
def ls (A : List Int) : Nat := (lsG A A.length).getD 0
/-- k is the lightest that is left. -/
def IsL (A : List Int) (k : Nat) : Prop := 0 ≤ A.getD k (-1) ∧ ∀ j, 0 ≤ A.getD j (-1) → A.getD k (-1) < A.getD j (-1) ∨ (A.getD k (-1) = A.getD j (-1) ∧ k ≤ j)
theorem getD_out {A : List Int} {j : Nat} (h : 0 ≤ A.getD j (-1)) : j < A.length := by
  rcases Nat.lt_or_ge j A.length with h1 | h1
  · exact h1
  · rw [List.getD_eq_getElem?_getD, List.getElem?_eq_none h1] at h
    exact absurd h (by simp)
theorem lsG_none {A : List Int} : ∀ {k}, lsG A k = none → ∀ j, j < k → ¬ 0 ≤ A.getD j (-1)
  | 0, _, _, h => by omega
  | k + 1, h, j, hj => by
    unfold lsG at h
    cases e : lsG A k with
    | none =>
      rw [e] at h
      simp only at h
      by_cases hk : 0 ≤ A.getD k (-1)
      · rw [if_pos hk] at h; cases h
      · by_cases ej : j = k
        · subst ej; exact hk
        · exact lsG_none e j (by omega)
    | some b =>
      rw [e] at h
      simp only at h
      split at h <;> cases h
theorem lsG_some {A : List Int} : ∀ {k b}, lsG A k = some b → b < k ∧ 0 ≤ A.getD b (-1) ∧ ∀ j, j < k → 0 ≤ A.getD j (-1) → A.getD b (-1) < A.getD j (-1) ∨ (A.getD b (-1) = A.getD j (-1) ∧ b ≤ j)
  | 0, _, h => by cases h
  | k + 1, b, h => by
    unfold lsG at h
    cases e : lsG A k with
    | none =>
      rw [e] at h
      simp only at h
      by_cases hk : 0 ≤ A.getD k (-1)
      · rw [if_pos hk] at h
        cases h
        refine ⟨Nat.lt_succ_self _, hk, fun j hj h0 => ?_⟩
        by_cases ej : j = k
        · subst ej; exact Or.inr ⟨rfl, Nat.le_refl _⟩
        · exact absurd h0 (lsG_none e j (by omega))
      · rw [if_neg hk] at h; cases h
    | some c =>
      obtain ⟨h1, h2, h3⟩ := lsG_some e
      rw [e] at h
      simp only at h
      by_cases hk : 0 ≤ A.getD k (-1) ∧ A.getD k (-1) < A.getD c (-1)
      · rw [if_pos hk] at h
        cases h
        refine ⟨Nat.lt_succ_self _, hk.1, fun j hj h0 => ?_⟩
        by_cases ej : j = k
        · subst ej; exact Or.inr ⟨rfl, Nat.le_refl _⟩
        · have := h3 j (by omega) h0
          omega
      · rw [if_neg hk] at h
        cases h
        refine ⟨by omega, h2, fun j hj h0 => ?_⟩
        by_cases ej : j = k
        · subst ej; omega
        · exact h3 j (by omega) h0
theorem IsL.unique {A : List Int} {a b : Nat} (h : IsL A a) (k : IsL A b) : a = b := by
  have h1 := h.2 b k.1
  have h2 := k.2 a h.1
  omega
theorem IsL.lt {A : List Int} {a : Nat} (h : IsL A a) : a < A.length := getD_out h.1
theorem isL_lsG {A : List Int} {b : Nat} (h : lsG A A.length = some b) : IsL A b := by
  obtain ⟨h1, h2, h3⟩ := lsG_some h
  exact ⟨h2, fun j h0 => h3 j (getD_out h0) h0⟩
theorem isL_ls {A : List Int} {j : Nat} (h : 0 ≤ A.getD j (-1)) : IsL A (ls A) ∧ lsG A A.length = some (ls A) := by
  unfold ls
  cases e : lsG A A.length with
  | none => exact absurd h (lsG_none e j (getD_out h))
  | some b => exact ⟨isL_lsG e, rfl⟩
theorem IsL.ls {A : List Int} {k : Nat} (h : IsL A k) : k = ls A := h.unique (isL_ls h.1).1

/-- What is left, its number, its weight. -/
def InL (A : List Int) (x : Rn) : Prop := A[x.num]? = some (x.wt : Int)
theorem InL.getD {A : List Int} {x : Rn} (h : InL A x) : A.getD x.num (-1) = (x.wt : Int) := by rw [List.getD_eq_getElem?_getD, h]; rfl
theorem InL.of {A : List Int} {k : Nat} (h : 0 ≤ A.getD k (-1)) : InL A ⟨(A.getD k (-1)).toNat, k⟩ := by
  unfold InL
  have := getD_out h
  rw [List.getD_eq_getElem?_getD, List.getElem?_eq_getElem this] at *
  simp only [Option.getD_some] at *
  simp [Int.toNat_of_nonneg h]
theorem InL.inj {A : List Int} {x y : Rn} (h : InL A x) (k : InL A y) (e : x.num = y.num) : x = y := by
  obtain ⟨a, b⟩ := x
  obtain ⟨c, d⟩ := y
  unfold InL at *
  simp only at *
  subst e
  rw [h] at k
  injection k with k
  have : a = c := by omega
  rw [this]
/-- The first one of a heap of what is left is the lightest. -/
theorem first_isL {F : Nat → Rn} {m : Nat} {A : List Int} (h : Heap 0 F m) (c : Cont F m (InL A)) (hm : 0 < m) : IsL A (F 0).num := by
  have h0 := (c.1 0 hm).getD
  refine ⟨by rw [h0]; omega, fun j hj => ?_⟩
  obtain ⟨i, hi, e⟩ := c.2.1 _ (InL.of hj)
  have := (ahd_false _ _).1 (h.first i hi)
  rw [e] at this
  rw [h0]
  simp only at this
  omega
/-- It is taken out. -/
theorem cont_drop {F : Nat → Rn} {m : Nat} {A : List Int} (c : Cont F (m + 1) (InL A)) : Cont (upR F 0 (F m)) m (InL (A.set (F 0).num (-1))) := by
  have key : ∀ x : Rn, InL (A.set (F 0).num (-1)) x ↔ InL A x ∧ x.num ≠ (F 0).num := fun x => by
    unfold InL
    rw [List.getElem?_set]
    by_cases e : (F 0).num = x.num
    · rw [if_pos e]
      constructor
      · intro h
        split at h
        · injection h with h; omega
        · cases h
      · intro h; exact absurd e.symm h.2
    · rw [if_neg e]
      exact ⟨fun h => ⟨h, fun e' => e e'.symm⟩, fun h => h.1⟩
  have inj : ∀ i j, i < m + 1 → j < m + 1 → (F i).num = (F j).num → i = j := fun i j hi hj e => c.2.2 i j hi hj (InL.inj (c.1 i hi) (c.1 j hj) e)
  have up : ∀ i, i < m → ∃ k, k < m + 1 ∧ 0 < k ∧ upR F 0 (F m) i = F k ∧ k = if i = 0 then m else i := fun i hi => by
    by_cases h0 : i = 0
    · subst h0; exact ⟨m, by omega, by omega, upR_same _ _ _, by rw [if_pos rfl]⟩
    · exact ⟨i, by omega, by omega, upR_other _ _ _ _ h0, by rw [if_neg h0]⟩
  refine ⟨fun i hi => ?_, fun x hx => ?_, fun i j hi hj e => ?_⟩
  · obtain ⟨k, hk, h0, e, _⟩ := up i hi
    rw [e, key]
    exact ⟨c.1 k hk, fun e' => by have := inj k 0 hk (by omega) e'; omega⟩
  · obtain ⟨h1, h2⟩ := (key x).1 hx
    obtain ⟨i, hi, e⟩ := c.2.1 x h1
    have hi0 : i ≠ 0 := by rintro rfl; exact h2 (by rw [e])
    by_cases em : i = m
    · subst em
      exact ⟨0, by omega, by rw [upR_same]; exact e⟩
    · exact ⟨i, by omega, by rw [upR_other _ _ _ _ hi0]; exact e⟩
  · obtain ⟨a, ha, a0, ea, fa⟩ := up i hi
    obtain ⟨b, hb, b0, eb, fb⟩ := up j hj
    have := c.2.2 a b ha hb (by rw [← ea, ← eb, e])
    rw [fa, fb] at this
    split at this <;> split at this <;> omega
/-- The made one comes in the place of the last one that was taken. -/
theorem cont_made {F : Nat → Rn} {m s : Nat} {A : List Int} (c : Cont F m (InL A)) (hm : 0 < m) : Cont (upR F 0 ⟨s, A.length⟩) m (InL (A.set (F 0).num (-1) ++ [(s : Int)])) := by
  have hlt : ∀ i, i < m → (F i).num < A.length := fun i hi => (List.getElem?_eq_some_iff.1 (c.1 i hi)).1
  have key : ∀ x : Rn, InL (A.set (F 0).num (-1) ++ [(s : Int)]) x ↔ (InL A x ∧ x.num ≠ (F 0).num) ∨ x = ⟨s, A.length⟩ := fun x => by
    obtain ⟨xw, xn⟩ := x
    unfold InL
    simp only
    by_cases hx : xn < A.length
    · rw [List.getElem?_append_left (by simpa using hx), List.getElem?_set]
      have hne : ¬ (⟨xw, xn⟩ : Rn) = ⟨s, A.length⟩ := by intro e; injection e with _ e; omega
      by_cases e : (F 0).num = xn
      · rw [if_pos e]
        constructor
        · intro h
          split at h
          · injection h with h; omega
          · cases h
        · rintro (h | h)
          · exact absurd e.symm h.2
          · exact absurd h hne
      · rw [if_neg e]
        constructor
        · exact fun h => Or.inl ⟨h, fun e' => e e'.symm⟩
        · rintro (h | h)
          · exact h.1
          · exact absurd h hne
    · rw [List.getElem?_append_right (by simp; omega)]
      constructor
      · intro h
        right
        have h1 := (List.getElem?_eq_some_iff.1 h).1
        simp at h1
        have h2 : xn = A.length := by omega
        subst h2
        simp at h
        have : s = xw := by omega
        rw [this]
      · rintro (h | h)
        · exact absurd ((List.getElem?_eq_some_iff.1 h.1).1) hx
        · injection h with h1 h2
          subst h1 h2
          simp
  have inj : ∀ i j, i < m → j < m → (F i).num = (F j).num → i = j := fun i j hi hj e => c.2.2 i j hi hj (InL.inj (c.1 i hi) (c.1 j hj) e)
  refine ⟨fun i hi => ?_, fun x hx => ?_, fun i j hi hj e => ?_⟩
  · rw [key]
    by_cases h0 : i = 0
    · subst h0; right; exact upR_same _ _ _
    · left; rw [upR_other _ _ _ _ h0]; exact ⟨c.1 i hi, fun e => h0 (inj i 0 hi hm e)⟩
  · rcases (key x).1 hx with ⟨h1, h2⟩ | h
    · obtain ⟨i, hi, e⟩ := c.2.1 x h1
      have hi0 : i ≠ 0 := by rintro rfl; exact h2 (by rw [e])
      exact ⟨i, hi, by rw [upR_other _ _ _ _ hi0]; exact e⟩
    · exact ⟨0, hm, by rw [upR_same, h]⟩
  · by_cases hi0 : i = 0 <;> by_cases hj0 : j = 0
    · omega
    · subst hi0
      rw [upR_same, upR_other _ _ _ _ hj0] at e
      have := hlt j hj
      rw [← e] at this
      exact absurd this (Nat.lt_irrefl _)
    · subst hj0
      rw [upR_same, upR_other _ _ _ _ hi0] at e
      have := hlt i hi
      rw [e] at this
      exact absurd this (Nat.lt_irrefl _)
    · rw [upR_other _ _ _ _ hi0, upR_other _ _ _ _ hj0] at e
      exact c.2.2 i j hi hj e

/-- What is left behind so many takings; which were taken; their sum. -/
def pkA (A : List Int) : Nat → List Int
  | 0 => A
  | i + 1 => (pkA A i).set (ls (pkA A i)) (-1)
def pkL (A : List Int) : Nat → List Int
  | 0 => []
  | i + 1 => pkL A i ++ [(ls (pkA A i) : Int)]
def pkS (A : List Int) : Nat → Int
  | 0 => 0
  | i + 1 => pkS A i + (pkA A i).getD (ls (pkA A i)) (-1)
theorem pkA_len (A : List Int) : ∀ i, (pkA A i).length = A.length
  | 0 => rfl
  | i + 1 => by rw [pkA, List.length_set, pkA_len A i]
theorem pkL_len (A : List Int) : ∀ i, (pkL A i).length = i
  | 0 => rfl
  | i + 1 => by rw [pkL, List.length_append, pkL_len A i]; rfl
/-- The weight of all that is left. -/
def tot : List Int → Int
  | [] => 0
  | x :: l => (if 0 ≤ x then x else 0) + tot l
theorem tot_nonneg : ∀ l, 0 ≤ tot l
  | [] => Int.le_refl _
  | x :: l => by have := tot_nonneg l; unfold tot; split <;> omega
theorem tot_app : ∀ l x, 0 ≤ x → tot (l ++ [x]) = tot l + x
  | [], x, h => by simp [tot, h]
  | y :: l, x, h => by rw [List.cons_append, tot, tot, tot_app l x h]; omega
theorem tot_set : ∀ l k, 0 ≤ List.getD l k (-1) → tot (l.set k (-1)) + List.getD l k (-1) = tot l
  | [], k, h => by simp at h
  | x :: l, 0, h => by simp [tot] at *; rw [if_pos h]; omega
  | x :: l, k + 1, h => by
    have h' : 0 ≤ List.getD l k (-1) := by simpa using h
    have := tot_set l k h'
    simp only [List.set_cons_succ, tot, List.getD_cons_succ]
    omega
/-- How many are left. -/
def cnt : List Int → Nat
  | [] => 0
  | x :: l => (if 0 ≤ x then 1 else 0) + cnt l
theorem cnt_app : ∀ l x, 0 ≤ x → cnt (l ++ [x]) = cnt l + 1
  | [], x, h => by simp [cnt, h]
  | y :: l, x, h => by rw [List.cons_append, cnt, cnt, cnt_app l x h]; omega
theorem cnt_set : ∀ l k, 0 ≤ List.getD l k (-1) → cnt (l.set k (-1)) + 1 = cnt l
  | [], k, h => by simp at h
  | x :: l, 0, h => by simp [cnt] at *; rw [if_pos h]; omega
  | x :: l, k + 1, h => by
    have h' : 0 ≤ List.getD l k (-1) := by simpa using h
    have := cnt_set l k h'
    simp only [List.set_cons_succ, cnt]
    omega
theorem cnt_some : ∀ l, 0 < cnt l → ∃ k, 0 ≤ List.getD l k (-1)
  | [], h => by simp [cnt] at h
  | x :: l, h => by
    by_cases hx : 0 ≤ x
    · exact ⟨0, by simpa using hx⟩
    · unfold cnt at h
      rw [if_neg hx] at h
      obtain ⟨k, hk⟩ := cnt_some l (by omega)
      exact ⟨k + 1, by simpa using hk⟩
/-- Behind i takings, i not above what is left. -/
theorem pk_ok {A : List Int} : ∀ {i}, i ≤ cnt A → cnt (pkA A i) + i = cnt A ∧ pkS A i + tot (pkA A i) = tot A ∧ 0 ≤ pkS A i
  | 0, _ => ⟨rfl, by simp [pkS, pkA], Int.le_refl _⟩
  | i + 1, h => by
    obtain ⟨h1, h2, h3⟩ := pk_ok (A := A) (i := i) (by omega)
    obtain ⟨k, hk⟩ := cnt_some (pkA A i) (by omega)
    have hl := (isL_ls hk).1.1
    have c := cnt_set _ _ hl
    have t := tot_set _ _ hl
    rw [pkA, pkS]
    refine ⟨by omega, by omega, by omega⟩
theorem pk_isL {A : List Int} {i : Nat} (h : i < cnt A) : IsL (pkA A i) (ls (pkA A i)) ∧ lsG (pkA A i) (pkA A i).length = some (ls (pkA A i)) := by
  obtain ⟨k, hk⟩ := cnt_some (pkA A i) (by have := (pk_ok (A := A) (i := i) (by omega)).1; omega)
  exact isL_ls hk
/-- Numbers that rise. -/
def srt (l : List Int) : List Int := l.mergeSort fun x y => decide (x ≤ y)
theorem srt_len (l : List Int) : (srt l).length = l.length := List.length_mergeSort l
/-- How many runs a step takes. -/
def tkn (n fan s : Nat) : Nat := if s = 0 then 2 + (n - 2) % (fan - 1) else fan
/-- What is there behind so many steps. -/
def mkA (W : List Int) (fan : Nat) : Nat → List Int
  | 0 => W
  | s + 1 => pkA (mkA W fan s) (tkn W.length fan s) ++ [pkS (mkA W fan s) (tkn W.length fan s)]
def mkS (W : List Int) (fan : Nat) : Nat → List Stp
  | 0 => []
  | s + 1 => mkS W fan s ++ [⟨srt (pkL (mkA W fan s) (tkn W.length fan s)), ((W.length + s : Nat) : Int)⟩]
theorem mkA_len (W : List Int) (fan : Nat) : ∀ s, (mkA W fan s).length = W.length + s
  | 0 => rfl
  | s + 1 => by rw [mkA, List.length_append, pkA_len, mkA_len W fan s]; rfl
theorem mkS_len (W : List Int) (fan : Nat) : ∀ s, (mkS W fan s).length = s
  | 0 => rfl
  | s + 1 => by rw [mkS, List.length_append, mkS_len W fan s]; rfl
/-- How many steps. -/
def need (n fan : Nat) : Nat := (n + fan - 3) / (fan - 1)
theorem tkn_le (n fan s : Nat) (h : 2 ≤ fan) : tkn n fan s ≤ fan := by
  unfold tkn
  split
  · have := Nat.mod_lt (n - 2) (show 0 < fan - 1 by omega); omega
  · exact Nat.le_refl _
theorem tkn_ge (n fan s : Nat) (h : 2 ≤ fan) : 2 ≤ tkn n fan s := by unfold tkn; split <;> omega
theorem need_spec {n fan : Nat} (h : 2 ≤ fan) (hn : 2 ≤ n) : ∃ q, (n - 2) = (fan - 1) * q + (n - 2) % (fan - 1) ∧ need n fan = q + 1 := by
  refine ⟨(n - 2) / (fan - 1), (Nat.div_add_mod (n - 2) (fan - 1)).symm, ?_⟩
  unfold need
  rw [show n + fan - 3 = (n - 2) + (fan - 1) by omega, Nat.add_div_right _ (by omega)]
/-- How many are left behind s steps. -/
def left (n fan s : Nat) : Nat := if s = 0 then n else 1 + (fan - 1) * (need n fan - s)
theorem left_step {n fan s : Nat} (h : 2 ≤ fan) (hn : 2 ≤ n) (hs : s < need n fan) : tkn n fan s ≤ left n fan s ∧ left n fan (s + 1) + tkn n fan s = left n fan s + 1 := by
  obtain ⟨q, h1, h2⟩ := need_spec h hn
  unfold tkn left
  by_cases h0 : s = 0
  · subst h0
    rw [if_pos rfl, if_pos rfl, if_neg (by omega), h2]
    rw [show q + 1 - (0 + 1) = q by omega]
    have : (n - 2) % (fan - 1) ≤ n - 2 := Nat.mod_le _ _
    omega
  · rw [if_neg h0, if_neg h0, if_neg (by omega)]
    obtain ⟨d, hd⟩ : ∃ d, need n fan - s = d + 1 := ⟨need n fan - s - 1, by omega⟩
    rw [show need n fan - (s + 1) = d by omega, hd, Nat.mul_succ]
    omega
/-- All weights may be. -/
def Wts (W : List Int) : Prop := ∀ x ∈ W, 0 ≤ x ∧ x ≤ 1073741824
theorem Wts.cnt : ∀ {W : List Int}, Wts W → cnt W = W.length
  | [], _ => rfl
  | x :: l, h => by
    rw [Go.Proofs.Ythajgfldjjgkiaa.cnt, if_pos (h x (List.mem_cons_self)).1, Wts.cnt (W := l) (fun y hy => h y (List.mem_cons_of_mem _ hy))]
    simp; omega
theorem Wts.tot : ∀ {W : List Int}, Wts W → tot W ≤ 1073741824 * W.length
  | [], _ => by simp [Go.Proofs.Ythajgfldjjgkiaa.tot]
  | x :: l, h => by
    have h1 := h x (List.mem_cons_self)
    have := Wts.tot (W := l) (fun y hy => h y (List.mem_cons_of_mem _ hy))
    rw [Go.Proofs.Ythajgfldjjgkiaa.tot, if_pos h1.1]
    simp only [List.length_cons]
    omega
/-- Behind s steps. -/
theorem mk_ok {W : List Int} {fan : Nat} (hW : Wts W) (hf : 2 ≤ fan) (hn : 2 ≤ W.length) : ∀ s, s ≤ need W.length fan → cnt (mkA W fan s) = left W.length fan s ∧ tot (mkA W fan s) = tot W
  | 0, _ => ⟨by rw [mkA, hW.cnt]; rfl, rfl⟩
  | s + 1, h => by
    obtain ⟨h1, h2⟩ := mk_ok hW hf hn s (by omega)
    obtain ⟨h3, h4⟩ := left_step (s := s) hf hn (by omega)
    obtain ⟨h5, h6, h7⟩ := pk_ok (A := mkA W fan s) (i := tkn W.length fan s) (by omega)
    rw [mkA, cnt_app _ _ h7, tot_app _ _ h7]
    omega
theorem left_end {n fan : Nat} (h : 2 ≤ fan) (hn : 2 ≤ n) : left n fan (need n fan) = 1 := by
  obtain ⟨q, _, h2⟩ := need_spec h hn
  unfold left
  rw [if_neg (by omega), Nat.sub_self, Nat.mul_zero]
end Go.Proofs.Ythajgfldjjgkiaa
