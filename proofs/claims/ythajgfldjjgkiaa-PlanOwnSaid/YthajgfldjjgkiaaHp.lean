/- A heap of runs, as a function from places to runs. No program. -/
import Derived.Test.YthajgfldjjgkiaaBa
namespace Go.Proofs.Ythajgfldjjgkiaa

structure Rn where
  wt : Nat
  num : Nat
def ahd (x y : Rn) : Bool := decide (x.wt < y.wt) || (decide (x.wt = y.wt) && decide (x.num < y.num))
theorem ahd_iff (x y : Rn) : ahd x y = true ↔ x.wt < y.wt ∨ (x.wt = y.wt ∧ x.num < y.num) := by simp [ahd]
theorem ahd_false (x y : Rn) : ahd x y = false ↔ y.wt < x.wt ∨ (y.wt = x.wt ∧ y.num ≤ x.num) := by
  rw [← Bool.not_eq_true, ahd_iff]; omega
theorem ahd_asymm {x y : Rn} (h : ahd x y = true) : ahd y x = false := by rw [ahd_iff] at h; rw [ahd_false]; omega
theorem ahd_trans {x y z : Rn} (h : ahd x y = false) (k : ahd y z = false) : ahd x z = false := by rw [ahd_false] at *; omega
theorem ahd_self (x : Rn) : ahd x x = false := by rw [ahd_false]; omega
def par (i : Nat) : Nat := (i - 1) / 2
def swp (F : Nat → Rn) (p q : Nat) : Nat → Rn := fun i => if i = p then F q else if i = q then F p else F i
def upR (F : Nat → Rn) (k : Nat) (x : Rn) : Nat → Rn := fun i => if i = k then x else F i
theorem upR_same (F : Nat → Rn) (k : Nat) (x : Rn) : upR F k x k = x := if_pos rfl
theorem upR_other (F : Nat → Rn) (k : Nat) (x : Rn) (i : Nat) (h : i ≠ k) : upR F k x i = F i := if_neg h
theorem swp_up (F : Nat → Rn) (p q : Nat) : upR (upR F p (F q)) q (F p) = swp F p q := by
  funext i; unfold upR swp
  by_cases h : i = q
  · subst h
    rw [if_pos rfl]
    by_cases hp : i = p
    · subst hp; rw [if_pos rfl]
    · rw [if_neg hp, if_pos rfl]
  · rw [if_neg h, if_neg h]
/-- In order from a place on. -/
def Heap (lo : Nat) (F : Nat → Rn) (m : Nat) : Prop := ∀ i, 0 < i → i < m → lo ≤ par i → ahd (F i) (F (par i)) = false
/-- In order but for one place. -/
def SinkI (lo p : Nat) (F : Nat → Rn) (m : Nat) : Prop :=
  lo ≤ p ∧ (∀ i, 0 < i → i < m → lo ≤ par i → par i ≠ p → ahd (F i) (F (par i)) = false) ∧
  (0 < p → lo ≤ par p → ∀ c, 0 < c → c < m → par c = p → ahd (F c) (F (par p)) = false)
theorem SinkI.start {lo : Nat} {F : Nat → Rn} {m : Nat} (h : Heap (lo + 1) F m) : SinkI lo lo F m :=
  ⟨Nat.le_refl _, fun i h0 hm hl hn => h i h0 hm (by omega), fun h0 hl => absurd hl (by unfold par; omega)⟩
theorem SinkI.done {lo p : Nat} {F : Nat → Rn} {m : Nat} (h : SinkI lo p F m) (hk : ∀ c, 0 < c → c < m → par c = p → ahd (F c) (F p) = false) : Heap lo F m := by
  intro i h0 hm hl
  by_cases e : par i = p
  · rw [e]; exact hk i h0 hm e
  · exact h.2.1 i h0 hm hl e
theorem par_lt {i : Nat} (h : 0 < i) : par i < i := by unfold par; omega
theorem par_kid {i p : Nat} (h : 0 < i) : par i = p ↔ i = 2 * p + 1 ∨ i = 2 * p + 2 := by unfold par; omega
theorem SinkI.step {lo p q : Nat} {F : Nat → Rn} {m : Nat} (h : SinkI lo p F m) (hq0 : 0 < q) (hqm : q < m) (hpq : par q = p) (hlt : ahd (F q) (F p) = true) (hk : ∀ c, 0 < c → c < m → par c = p → ahd (F c) (F q) = false) : SinkI lo q (swp F p q) m := by
  have pq : p < q := by rw [← hpq]; exact par_lt hq0
  have sp : swp F p q p = F q := if_pos rfl
  have sq : swp F p q q = F p := by unfold swp; rw [if_neg (by omega), if_pos rfl]
  have so : ∀ i, i ≠ p → i ≠ q → swp F p q i = F i := fun i a b => by unfold swp; rw [if_neg a, if_neg b]
  refine ⟨by have := h.1; omega, fun i h0 hm hl hn => ?_, fun _ _ c hc0 hcm hcq => ?_⟩
  · by_cases e : par i = p
    · rw [e, sp]
      by_cases e2 : i = q
      · subst e2; rw [sq]; exact ahd_asymm hlt
      · rw [so i (by have := par_lt h0; omega) e2]; exact hk i h0 hm e
    · by_cases e2 : i = p
      · subst e2
        rw [sp, so (par i) (by have := par_lt h0; omega) hn]
        exact h.2.2 h0 hl q hq0 hqm hpq
      · rw [so i e2 (by rintro rfl; exact e hpq), so (par i) e hn]
        exact h.2.1 i h0 hm hl e
  · rw [hpq, sp, so c (by have := par_lt hc0; omega) (by have := par_lt hc0; omega)]
    have := h.2.1 c hc0 hcm (by have := h.1; omega) (by omega)
    rw [hcq] at this
    exact this
/-- What a heap holds. -/
def Cont (F : Nat → Rn) (m : Nat) (P : Rn → Prop) : Prop := (∀ i, i < m → P (F i)) ∧ (∀ x, P x → ∃ i, i < m ∧ F i = x) ∧ ∀ i j, i < m → j < m → F i = F j → i = j
theorem Cont.swp {F : Nat → Rn} {m : Nat} {P : Rn → Prop} (h : Cont F m P) {p q : Nat} (hp : p < m) (hq : q < m) : Cont (swp F p q) m P := by
  have key : ∀ i, i < m → ∃ j, j < m ∧ Go.Proofs.Ythajgfldjjgkiaa.swp F p q i = F j ∧ (j = if i = p then q else if i = q then p else i) := fun i hi => by
    unfold Go.Proofs.Ythajgfldjjgkiaa.swp
    by_cases h1 : i = p
    · exact ⟨q, hq, by rw [if_pos h1], by rw [if_pos h1]⟩
    · by_cases h2 : i = q
      · exact ⟨p, hp, by rw [if_neg h1, if_pos h2], by rw [if_neg h1, if_pos h2]⟩
      · exact ⟨i, hi, by rw [if_neg h1, if_neg h2], by rw [if_neg h1, if_neg h2]⟩
  refine ⟨fun i hi => ?_, fun x hx => ?_, fun i j hi hj e => ?_⟩
  · obtain ⟨j, hj, e, _⟩ := key i hi; rw [e]; exact h.1 j hj
  · obtain ⟨j, hj, e⟩ := h.2.1 x hx
    by_cases h1 : j = p
    · subst h1
      refine ⟨q, hq, ?_⟩
      unfold Go.Proofs.Ythajgfldjjgkiaa.swp
      by_cases h2 : q = j
      · subst h2; rw [if_pos rfl]; exact e
      · rw [if_neg h2, if_pos rfl]; exact e
    · by_cases h2 : j = q
      · subst h2; exact ⟨p, hp, by unfold Go.Proofs.Ythajgfldjjgkiaa.swp; rw [if_pos rfl]; exact e⟩
      · exact ⟨j, hj, by unfold Go.Proofs.Ythajgfldjjgkiaa.swp; rw [if_neg h1, if_neg h2]; exact e⟩
  · obtain ⟨a, ha, ea, fa⟩ := key i hi
    obtain ⟨b, hb, eb, fb⟩ := key j hj
    have := h.2.2 a b ha hb (by rw [← ea, ← eb, e])
    rw [fa, fb] at this
    split at this <;> split at this <;> (try split at this) <;> (try split at this) <;> omega
/-- The first one is behind no other. -/
theorem Heap.first {F : Nat → Rn} {m : Nat} (h : Heap 0 F m) : ∀ i, i < m → ahd (F i) (F 0) = false := by
  intro i
  induction i using Nat.strongRecOn with
  | ind i ih =>
    intro hm
    by_cases h0 : i = 0
    · subst h0; exact ahd_self _
    · have hp := par_lt (show 0 < i by omega)
      exact ahd_trans (h i (by omega) hm (Nat.zero_le _)) (ih (par i) hp (by omega))
theorem Heap.top (F : Nat → Rn) (n : Nat) : Heap (n / 2) F n := fun i h0 hm hl => absurd hl (by unfold par; omega)
theorem Heap.put {F : Nat → Rn} {m k : Nat} (h : Heap 0 F m) (hk : k ≤ m) (x : Rn) : Heap 1 (upR F 0 x) k := fun i h0 hm hl => by
  rw [upR_other _ _ _ _ (by omega), upR_other _ _ _ _ (by omega)]
  exact h i h0 (by omega) (Nat.zero_le _)
/-- Behind a sink. -/
def Sunk (lo : Nat) (F G : Nat → Rn) (m : Nat) : Prop := Heap lo G m ∧ ∀ P, Cont F m P → Cont G m P
end Go.Proofs.Ythajgfldjjgkiaa
