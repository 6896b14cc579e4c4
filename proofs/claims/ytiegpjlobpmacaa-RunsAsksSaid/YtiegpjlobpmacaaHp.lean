/- A heap, as a function from places to things: what rises and what sinks. No walk. -/
import Derived.Test.YtiegpjlobpmacaaBa
namespace Go.Proofs.Ytiegpjlobpmacaa

/-- A thing in a heap: its key, who it is, the number of its push. -/
structure It where
  key : Int
  who : Int
  num : Nat
theorem It.ext' {a b : It} (h1 : a.key = b.key) (h2 : a.who = b.who) (h3 : a.num = b.num) : a = b := by
  cases a; cases b; simp_all
/-- Does the first one come out ahead of the second one? -/
def ahd (a b : It) : Bool := if a.num < b.num then !(decide (b.key < a.key)) else decide (a.key < b.key)
def leI (a b : It) : Prop := a.key < b.key ∨ a.key = b.key ∧ a.num ≤ b.num
theorem ahd_le {a b : It} (h : ahd a b = true) : leI a b := by
  unfold ahd at h
  unfold leI
  by_cases c : a.num < b.num
  · rw [if_pos c] at h
    have : ¬ b.key < a.key := by simpa using h
    omega
  · rw [if_neg c] at h
    have : a.key < b.key := by simpa using h
    omega
theorem not_ahd_le {a b : It} (h : ahd a b = false) : leI b a := by
  unfold ahd at h
  unfold leI
  by_cases c : a.num < b.num
  · rw [if_pos c] at h
    have : b.key < a.key := by simpa using h
    omega
  · rw [if_neg c] at h
    have : ¬ a.key < b.key := by simpa using h
    omega
theorem leI.refl (a : It) : leI a a := Or.inr ⟨rfl, Nat.le_refl _⟩
theorem leI.trans {a b c : It} (h : leI a b) (k : leI b c) : leI a c := by
  unfold leI at *
  omega

def upI (f : Nat → It) (i : Nat) (x : It) : Nat → It := fun j => if j = i then x else f j
theorem upI_same (f : Nat → It) (i : Nat) (x : It) : upI f i x i = x := if_pos rfl
theorem upI_other (f : Nat → It) (i j : Nat) (x : It) (h : j ≠ i) : upI f i x j = f j := if_neg h
theorem upI_twice (f : Nat → It) (i : Nat) (x y : It) : upI (upI f i x) i y = upI f i y := by
  funext j
  unfold upI
  by_cases h : j = i
  · rw [if_pos h, if_pos h]
  · rw [if_neg h, if_neg h, if_neg h]

/-- The place above a place that is not the first one. -/
def abv (p : Nat) : Nat := (p + 1) / 2 - 1
theorem abv_lt {p : Nat} (h : 0 < p) : abv p < p := by unfold abv; omega
theorem abv_kid1 (p : Nat) : abv (2 * p + 1) = p := by unfold abv; omega
theorem abv_kid2 (p : Nat) : abv (2 * p + 1 + 1) = p := by unfold abv; omega
theorem kid_of {p i : Nat} (hi : 0 < i) (h : abv i = p) : i = 2 * p + 1 ∨ i = 2 * p + 1 + 1 := by unfold abv at h; omega

/-- A heap of so many. -/
def Heap (f : Nat → It) (N : Nat) : Prop := ∀ i, 0 < i → i < N → leI (f (abv i)) (f i)
theorem Heap.first {f : Nat → It} {N : Nat} (h : Heap f N) : ∀ i, i < N → leI (f 0) (f i) := by
  intro i
  induction i using Nat.strongRecOn with
  | ind i ih =>
    intro hi
    by_cases h0 : i = 0
    · subst h0; exact leI.refl _
    · exact (ih (abv i) (abv_lt (by omega)) (by have := abv_lt (p := i) (by omega); omega)).trans (h i (by omega) hi)

/-- A heap with a hole at a place, and one thing that may come there, or above. -/
structure HoleUp (f : Nat → It) (N at_ : Nat) (one : It) : Prop where
  edge : ∀ i, 0 < i → i < N → i ≠ at_ → abv i ≠ at_ → leI (f (abv i)) (f i)
  one : ∀ i, 0 < i → i < N → abv i = at_ → leI one (f i)
  over : ∀ i, 0 < i → i < N → abv i = at_ → 0 < at_ → leI (f (abv at_)) (f i)
theorem HoleUp.new {f : Nat → It} {N : Nat} (h : Heap f N) (one : It) : HoleUp f (N + 1) N one :=
  ⟨fun i h1 h2 h3 h4 => h i h1 (by omega), fun i h1 h2 h3 => by have := abv_lt h1; omega, fun i h1 h2 h3 _ => by have := abv_lt h1; omega⟩
theorem HoleUp.step {f : Nat → It} {N a : Nat} {one : It} (h : HoleUp f N a one) (ha : 0 < a) (haN : a < N) (hx : leI one (f (abv a))) : HoleUp (upI f a (f (abv a))) N (abv a) one := by
  have hlt := abv_lt ha
  refine ⟨fun i h1 h2 h3 h4 => ?_, fun i h1 h2 h3 => ?_, fun i h1 h2 h3 h0 => ?_⟩
  · by_cases e : i = a
    · subst e; exact absurd rfl h4
    · rw [upI_other _ _ _ _ e]
      by_cases e2 : abv i = a
      · rw [e2, upI_same]; exact h.over i h1 h2 e2 ha
      · rw [upI_other _ _ _ _ e2]; exact h.edge i h1 h2 e e2
  · by_cases e : i = a
    · subst e; rw [upI_same]; exact hx
    · rw [upI_other _ _ _ _ e]
      exact hx.trans (h3 ▸ h.edge i h1 h2 e (by omega))
  · rw [upI_other _ _ _ _ (show abv (abv a) ≠ a by have := abv_lt h0; omega)]
    have e3 := h.edge (abv a) h0 (by omega) (by omega) (by have := abv_lt h0; omega)
    by_cases e : i = a
    · subst e; rw [upI_same]; exact e3
    · rw [upI_other _ _ _ _ e]
      exact e3.trans (h3 ▸ h.edge i h1 h2 e (by omega))
theorem HoleUp.done {f : Nat → It} {N a : Nat} {one : It} (h : HoleUp f N a one) (hx : 0 < a → leI (f (abv a)) one) : Heap (upI f a one) N := by
  intro i h1 h2
  have hi := abv_lt h1
  by_cases e : i = a
  · subst e
    rw [upI_same, upI_other _ _ _ _ (by omega)]
    exact hx h1
  · rw [upI_other _ _ _ _ e]
    by_cases e2 : abv i = a
    · rw [e2, upI_same]; exact h.one i h1 h2 e2
    · rw [upI_other _ _ _ _ e2]; exact h.edge i h1 h2 e e2

/-- What is there: all but the place of the hole, and the one thing. Numbers are there once. -/
structure HoleSet (f : Nat → It) (N at_ : Nat) (one : It) (C : It → Prop) : Prop where
  has : ∀ x, C x ↔ x = one ∨ ∃ i, i < N ∧ i ≠ at_ ∧ f i = x
  apart : ∀ i j, i < N → j < N → i ≠ at_ → j ≠ at_ → i ≠ j → (f i).num ≠ (f j).num
  own : ∀ i, i < N → i ≠ at_ → (f i).num ≠ one.num
structure HeapSet (f : Nat → It) (N : Nat) (C : It → Prop) : Prop where
  has : ∀ x, C x ↔ ∃ i, i < N ∧ f i = x
  apart : ∀ i j, i < N → j < N → i ≠ j → (f i).num ≠ (f j).num
theorem HoleSet.step {f : Nat → It} {N a b : Nat} {one : It} {C : It → Prop} (h : HoleSet f N a one C) (ha : a < N) (hb : b < N) (hab : b ≠ a) : HoleSet (upI f a (f b)) N b one C := by
  refine ⟨fun x => (h.has x).trans ⟨fun k => ?_, fun k => ?_⟩, fun i j hi hj h1 h2 h3 => ?_, fun i hi h1 => ?_⟩
  · rcases k with k | ⟨i, hi, hia, hx⟩
    · exact Or.inl k
    · by_cases e : i = b
      · subst e; exact Or.inr ⟨a, ha, fun e => hab e.symm, by rw [upI_same]; exact hx⟩
      · exact Or.inr ⟨i, hi, e, by rw [upI_other _ _ _ _ hia]; exact hx⟩
  · rcases k with k | ⟨i, hi, hib, hx⟩
    · exact Or.inl k
    · by_cases e : i = a
      · subst e; rw [upI_same] at hx; exact Or.inr ⟨b, hb, hab, hx⟩
      · rw [upI_other _ _ _ _ e] at hx; exact Or.inr ⟨i, hi, e, hx⟩
  · by_cases e : i = a
    · subst e
      rw [upI_same, upI_other _ _ _ _ (fun e => h3 e.symm)]
      exact h.apart b j hb hj hab (fun e => h3 e.symm) (fun e => h2 e.symm)
    · by_cases e2 : j = a
      · subst e2
        rw [upI_same, upI_other _ _ _ _ e]
        exact h.apart i b hi hb e hab h1
      · rw [upI_other _ _ _ _ e, upI_other _ _ _ _ e2]
        exact h.apart i j hi hj e e2 h3
  · by_cases e : i = a
    · subst e; rw [upI_same]; exact h.own b hb hab
    · rw [upI_other _ _ _ _ e]; exact h.own i hi e
theorem HoleSet.done {f : Nat → It} {N a : Nat} {one : It} {C : It → Prop} (h : HoleSet f N a one C) (ha : a < N) : HeapSet (upI f a one) N C := by
  refine ⟨fun x => (h.has x).trans ⟨fun k => ?_, fun k => ?_⟩, fun i j hi hj h3 => ?_⟩
  · rcases k with k | ⟨i, hi, hia, hx⟩
    · exact ⟨a, ha, by rw [upI_same]; exact k.symm⟩
    · exact ⟨i, hi, by rw [upI_other _ _ _ _ hia]; exact hx⟩
  · obtain ⟨i, hi, hx⟩ := k
    by_cases e : i = a
    · subst e; rw [upI_same] at hx; exact Or.inl hx.symm
    · rw [upI_other _ _ _ _ e] at hx; exact Or.inr ⟨i, hi, e, hx⟩
  · by_cases e : i = a
    · subst e
      rw [upI_same, upI_other _ _ _ _ (fun e => h3 e.symm)]
      exact (h.own j hj (fun e => h3 e.symm)).symm
    · by_cases e2 : j = a
      · subst e2
        rw [upI_same, upI_other _ _ _ _ e]
        exact h.own i hi e
      · rw [upI_other _ _ _ _ e, upI_other _ _ _ _ e2]
        exact h.apart i j hi hj e e2 h3
theorem HoleSet.push {f : Nat → It} {N : Nat} {one : It} {C : It → Prop} (h : HeapSet f N C) (hn : ∀ i, i < N → (f i).num ≠ one.num) : HoleSet f (N + 1) N one (fun x => C x ∨ x = one) := by
  refine ⟨fun x => ⟨fun k => ?_, fun k => ?_⟩, fun i j hi hj h1 h2 h3 => h.apart i j (by omega) (by omega) h3, fun i hi h1 => hn i (by omega)⟩
  · rcases k with k | k
    · obtain ⟨i, hi, hx⟩ := (h.has x).1 k
      exact Or.inr ⟨i, by omega, by omega, hx⟩
    · exact Or.inl k
  · rcases k with k | ⟨i, hi, hia, hx⟩
    · exact Or.inr k
    · exact Or.inl ((h.has x).2 ⟨i, by omega, hx⟩)
/-- The first one is taken out, the last one is to come in. -/
theorem HoleSet.pop {f : Nat → It} {N : Nat} {C : It → Prop} (h : HeapSet f (N + 1) C) (hN : 0 < N) : HoleSet f N 0 (f N) (fun x => C x ∧ x ≠ f 0) := by
  refine ⟨fun x => ⟨fun k => ?_, fun k => ?_⟩, fun i j hi hj h1 h2 h3 => h.apart i j (by omega) (by omega) h3, fun i hi h1 => h.apart i N (by omega) (by omega) (by omega)⟩
  · obtain ⟨i, hi, hx⟩ := (h.has x).1 k.1
    by_cases e : i = N
    · subst e; exact Or.inl hx.symm
    · exact Or.inr ⟨i, by omega, fun e0 => k.2 (by rw [← hx, e0]), hx⟩
  · rcases k with k | ⟨i, hi, hia, hx⟩
    · refine ⟨(h.has x).2 ⟨N, by omega, k.symm⟩, fun e => ?_⟩
      exact h.apart N 0 (by omega) (by omega) (by omega) (by rw [← k, e])
    · refine ⟨(h.has x).2 ⟨i, by omega, hx⟩, fun e => ?_⟩
      exact h.apart i 0 (by omega) (by omega) hia (by rw [hx, e])

/-- How far up a thing goes. -/
def riseI (f : Nat → It) (one : It) (p : Nat) : Nat := if _h : 0 < p ∧ ahd one (f (abv p)) = true then riseI f one (abv p) else p
termination_by p
decreasing_by exact abv_lt _h.1
theorem riseI_go {f : Nat → It} {one : It} {p : Nat} (h : 0 < p) (k : ahd one (f (abv p)) = true) : riseI f one p = riseI f one (abv p) := by rw [riseI, dif_pos ⟨h, k⟩]
theorem riseI_stay {f : Nat → It} {one : It} {p : Nat} (k : ahd one (f (abv p)) = false) : riseI f one p = p := by rw [riseI, dif_neg (by rw [k]; simp)]
theorem riseI_zero {f : Nat → It} {one : It} : riseI f one 0 = 0 := by rw [riseI, dif_neg (by simp)]
theorem riseI_le (f : Nat → It) (one : It) : ∀ p, riseI f one p ≤ p := by
  intro p
  induction p using Nat.strongRecOn with
  | ind p ih =>
    by_cases h : 0 < p ∧ ahd one (f (abv p)) = true
    · rw [riseI_go h.1 h.2]
      have := ih _ (abv_lt h.1)
      have := abv_lt h.1
      omega
    · rw [riseI, dif_neg h]; omega
theorem riseI_congr {f g : Nat → It} {one : It} : ∀ p, (∀ i, i < p → f i = g i) → riseI f one p = riseI g one p := by
  intro p
  induction p using Nat.strongRecOn with
  | ind p ih =>
    intro hfg
    by_cases h0 : 0 < p
    · have e := hfg _ (abv_lt h0)
      cases hk : ahd one (f (abv p)) with
      | true => rw [riseI_go h0 hk, riseI_go h0 (by rw [← e]; exact hk)]; exact ih _ (abv_lt h0) fun i hi => hfg i (by have := abv_lt h0; omega)
      | false => rw [riseI_stay hk, riseI_stay (by rw [← e]; exact hk)]
    · obtain rfl : p = 0 := by omega
      rw [riseI_zero, riseI_zero]
/-- What stands above comes down, as far as the thing goes up. -/
def shiftI (f : Nat → It) (a p : Nat) : Nat → It := if _h : p < a then shiftI (upI f a (f (abv a))) (abv a) p else f
termination_by a
decreasing_by exact abv_lt (by omega)
theorem shiftI_go {f : Nat → It} {a p : Nat} (h : p < a) : shiftI f a p = shiftI (upI f a (f (abv a))) (abv a) p := by rw [shiftI, dif_pos h]
theorem shiftI_stop {f : Nat → It} {a p : Nat} (h : ¬ p < a) : shiftI f a p = f := by rw [shiftI, dif_neg h]
/-- All of it together: a heap with the same things. -/
theorem rise_all {N : Nat} {one : It} {C : It → Prop} : ∀ (a : Nat) (f : Nat → It), HoleUp f N a one → HoleSet f N a one C → a < N →
    Heap (upI (shiftI f a (riseI f one a)) (riseI f one a) one) N ∧ HeapSet (upI (shiftI f a (riseI f one a)) (riseI f one a) one) N C := by
  intro a
  induction a using Nat.strongRecOn with
  | ind a ih =>
    intro f h1 h2 ha
    by_cases hc : 0 < a ∧ ahd one (f (abv a)) = true
    · have hlt := abv_lt hc.1
      have hp : riseI f one a = riseI (upI f a (f (abv a))) one (abv a) := by
        rw [riseI_go hc.1 hc.2]
        exact riseI_congr _ fun i hi => (upI_other _ _ _ _ (by omega)).symm
      have hle := riseI_le (upI f a (f (abv a))) one (abv a)
      rw [hp, shiftI_go (by omega)]
      exact ih _ hlt _ (h1.step hc.1 ha (ahd_le hc.2)) (h2.step ha (by omega) (by omega)) (by omega)
    · have hp : riseI f one a = a := by rw [riseI, dif_neg hc]
      rw [hp, shiftI_stop (by omega)]
      exact ⟨h1.done fun h0 => not_ahd_le (by cases hk : ahd one (f (abv a)) with | true => exact absurd ⟨h0, hk⟩ hc | false => rfl), h2.done ha⟩
/-- Push. -/
theorem push_all {f : Nat → It} {N : Nat} {one : It} {C : It → Prop} (h : Heap f N) (k : HeapSet f N C) (hn : ∀ i, i < N → (f i).num ≠ one.num) :
    Heap (upI (shiftI f N (riseI f one N)) (riseI f one N) one) (N + 1) ∧ HeapSet (upI (shiftI f N (riseI f one N)) (riseI f one N) one) (N + 1) (fun x => C x ∨ x = one) :=
  rise_all N f (HoleUp.new h one) (HoleSet.push k hn) (by omega)

/-- The kid that is ahead of the other. -/
def kidI (f : Nat → It) (n p : Nat) : Nat := if 2 * p + 1 + 1 < n ∧ ahd (f (2 * p + 1 + 1)) (f (2 * p + 1)) = true then 2 * p + 1 + 1 else 2 * p + 1
theorem kidI_gt (f : Nat → It) (n p : Nat) : p < kidI f n p := by unfold kidI; split <;> omega
theorem kidI_lt {f : Nat → It} {n p : Nat} (h : 2 * p + 1 < n) : kidI f n p < n := by unfold kidI; split <;> omega
theorem kidI_abv (f : Nat → It) (n p : Nat) : abv (kidI f n p) = p := by unfold kidI; split; exact abv_kid2 p; exact abv_kid1 p
theorem kidI_le {f : Nat → It} {n p i : Nat} (hi : 0 < i) (hn : i < n) (h : abv i = p) : leI (f (kidI f n p)) (f i) := by
  rcases kid_of hi h with rfl | rfl
  · unfold kidI
    by_cases c : 2 * p + 1 + 1 < n ∧ ahd (f (2 * p + 1 + 1)) (f (2 * p + 1)) = true
    · rw [if_pos c]; exact ahd_le c.2
    · rw [if_neg c]; exact leI.refl _
  · unfold kidI
    by_cases c : 2 * p + 1 + 1 < n ∧ ahd (f (2 * p + 1 + 1)) (f (2 * p + 1)) = true
    · rw [if_pos c]; exact leI.refl _
    · rw [if_neg c]
      exact not_ahd_le (by cases hk : ahd (f (2 * p + 1 + 1)) (f (2 * p + 1)) with | true => exact absurd ⟨hn, hk⟩ c | false => rfl)
/-- How far down a thing goes. -/
def sinkI (f : Nat → It) (n : Nat) (one : It) (p : Nat) : Nat := if _h : 2 * p + 1 < n ∧ ahd one (f (kidI f n p)) = false then sinkI f n one (kidI f n p) else p
termination_by n - p
decreasing_by have := kidI_gt f n p; omega
theorem sinkI_go {f : Nat → It} {n : Nat} {one : It} {p : Nat} (h : 2 * p + 1 < n) (k : ahd one (f (kidI f n p)) = false) : sinkI f n one p = sinkI f n one (kidI f n p) := by rw [sinkI, dif_pos ⟨h, k⟩]
theorem sinkI_stay {f : Nat → It} {n : Nat} {one : It} {p : Nat} (k : ahd one (f (kidI f n p)) = true) : sinkI f n one p = p := by rw [sinkI, dif_neg (by rw [k]; simp)]
theorem sinkI_end {f : Nat → It} {n : Nat} {one : It} {p : Nat} (h : ¬ 2 * p + 1 < n) : sinkI f n one p = p := by rw [sinkI, dif_neg (fun k => h k.1)]
theorem sinkI_lt {f : Nat → It} {n : Nat} {one : It} : ∀ (m p : Nat), n - p ≤ m → p < n → p ≤ sinkI f n one p ∧ sinkI f n one p < n := by
  intro m
  induction m with
  | zero => intro p h1 h2; omega
  | succ m ih =>
    intro p h1 h2
    by_cases h : 2 * p + 1 < n ∧ ahd one (f (kidI f n p)) = false
    · rw [sinkI_go h.1 h.2]
      have := kidI_gt f n p
      have := ih (kidI f n p) (by omega) (kidI_lt h.1)
      omega
    · rw [sinkI, dif_neg h]; omega
/-- A thing sinks. -/
def sdI (f : Nat → It) (n : Nat) (one : It) (p : Nat) : Nat → It := if _h : 2 * p + 1 < n ∧ ahd one (f (kidI f n p)) = false then sdI (upI f p (f (kidI f n p))) n one (kidI f n p) else upI f p one
termination_by n - p
decreasing_by have := kidI_gt f n p; omega
theorem sdI_go {f : Nat → It} {n : Nat} {one : It} {p : Nat} (h : 2 * p + 1 < n) (k : ahd one (f (kidI f n p)) = false) : sdI f n one p = sdI (upI f p (f (kidI f n p))) n one (kidI f n p) := by rw [sdI, dif_pos ⟨h, k⟩]
theorem sdI_stay {f : Nat → It} {n : Nat} {one : It} {p : Nat} (h : ¬ (2 * p + 1 < n ∧ ahd one (f (kidI f n p)) = false)) : sdI f n one p = upI f p one := by rw [sdI, dif_neg h]
theorem kidI_up {f : Nat → It} {n p a : Nat} {y : It} (h : a < 2 * p + 1) : kidI (upI f a y) n p = kidI f n p := by
  unfold kidI
  rw [upI_other _ _ _ _ (by omega), upI_other _ _ _ _ (by omega)]
theorem upI_comm {f : Nat → It} {a b : Nat} {x y : It} (h : a ≠ b) : upI (upI f a x) b y = upI (upI f b y) a x := by
  funext j
  unfold upI
  by_cases h1 : j = a
  · subst h1; rw [if_neg h, if_pos rfl, if_pos rfl]
  · by_cases h2 : j = b
    · rw [if_pos h2, if_neg h1, if_pos h2]
    · rw [if_neg h2, if_neg h1, if_neg h1, if_neg h2]
theorem sdI_up {n : Nat} {one : It} : ∀ (m : Nat) (f : Nat → It) (k a : Nat) (y : It), n - k ≤ m → a < k → sdI (upI f a y) n one k = upI (sdI f n one k) a y ∧ sdI f n one k a = f a := by
  intro m
  induction m with
  | zero =>
    intro f k a y hm ha
    rw [sdI_stay (fun h => by omega), sdI_stay (fun h => by omega)]
    exact ⟨upI_comm (by omega), upI_other _ _ _ _ (by omega)⟩
  | succ m ih =>
    intro f k a y hm ha
    by_cases h : 2 * k + 1 < n ∧ ahd one (f (kidI f n k)) = false
    · have g := kidI_gt f n k
      have e : kidI (upI f a y) n k = kidI f n k := kidI_up (by omega)
      have e2 : upI f a y (kidI f n k) = f (kidI f n k) := upI_other _ _ _ _ (by omega)
      rw [sdI_go (f := upI f a y) h.1 (by rw [e, e2]; exact h.2), sdI_go h.1 h.2, e, e2, upI_comm (by omega)]
      have i1 := ih (upI f k (f (kidI f n k))) (kidI f n k) a y (by omega) (by omega)
      exact ⟨i1.1, i1.2.trans (upI_other _ _ _ _ (by omega))⟩
    · have e : kidI (upI f a y) n k = kidI f n k := kidI_up (by omega)
      rw [sdI_stay (f := upI f a y) (fun q => h ⟨q.1, by
        rw [e, upI_other _ _ _ _ (by have := kidI_gt f n k; omega)] at q; exact q.2⟩), sdI_stay h]
      exact ⟨upI_comm (by omega), upI_other _ _ _ _ (by omega)⟩
/-- What the program does: from the place up to the first, each thing takes the place of the one that it meets. -/
def carryI (f : Nat → It) (a q : Nat) (x : It) : (Nat → It) × It := if _h : a < q then carryI (upI f q x) a (abv q) (f q) else (upI f q x, f q)
termination_by q
decreasing_by exact abv_lt (by omega)
theorem carryI_go {f : Nat → It} {a q : Nat} {x : It} (h : a < q) : carryI f a q x = carryI (upI f q x) a (abv q) (f q) := by rw [carryI, dif_pos h]
theorem carryI_stop {f : Nat → It} {q : Nat} {x : It} : carryI f q q x = (upI f q x, f q) := by rw [carryI, dif_neg (Nat.lt_irrefl _)]
/-- A place is on the way up from another. -/
inductive OnWay (k : Nat) : Nat → Prop
  | here : OnWay k k
  | up {q : Nat} : k < q → OnWay k (abv q) → OnWay k q
theorem OnWay.ge {k q : Nat} (h : OnWay k q) : k ≤ q := by cases h <;> omega
theorem carryI_part {a k : Nat} (hak : a < k) (hk : abv k = a) {q : Nat} (h : OnWay k q) : ∀ (f : Nat → It) (x : It), carryI f a q x = carryI (carryI f k q x).1 a a (carryI f k q x).2 := by
  induction h with
  | here => intro f x; rw [carryI_go hak, carryI_stop (q := k), hk]
  | up hq _ ih => intro f x; rw [carryI_go (a := a) (by omega), carryI_go (a := k) hq, ih]
theorem OnWay.low {k p q : Nat} (h : OnWay k q) (hp : abv k = p) (hlt : p < k) : OnWay p q := by
  induction h with
  | here => exact .up hlt (by rw [hp]; exact .here)
  | up hq _ ih => exact .up (by omega) ih
theorem sink_onway {f : Nat → It} {n : Nat} {one : It} : ∀ (m p : Nat), n - p ≤ m → OnWay p (sinkI f n one p) := by
  intro m
  induction m with
  | zero => intro p hm; rw [sinkI_end (by omega)]; exact .here
  | succ m ih =>
    intro p hm
    by_cases h : 2 * p + 1 < n ∧ ahd one (f (kidI f n p)) = false
    · rw [sinkI_go h.1 h.2]
      have g := kidI_gt f n p
      exact (ih (kidI f n p) (by omega)).low (kidI_abv f n p) g
    · rw [sinkI, dif_neg h]; exact .here
theorem carry_sd {n : Nat} {one : It} : ∀ (m : Nat) (f : Nat → It) (p : Nat), n - p ≤ m → carryI f p (sinkI f n one p) one = (sdI f n one p, f p) := by
  intro m
  induction m with
  | zero => intro f p hm; rw [sinkI_end (by omega), carryI_stop, sdI_stay (fun h => by omega)]
  | succ m ih =>
    intro f p hm
    by_cases h : 2 * p + 1 < n ∧ ahd one (f (kidI f n p)) = false
    · have g := kidI_gt f n p
      have w := sink_onway (f := f) (one := one) _ (kidI f n p) (Nat.le_refl (n - kidI f n p))
      have u := sdI_up (n := n) (one := one) _ f (kidI f n p) p (f (kidI f n p)) (Nat.le_refl _) g
      rw [sinkI_go h.1 h.2, carryI_part g (kidI_abv f n p) w, ih f _ (by omega), carryI_stop, sdI_go h.1 h.2, u.1]
      exact congrArg (Prod.mk _) u.2
    · rw [sinkI, dif_neg h, carryI_stop, sdI_stay h]
/-- A heap with a hole, and one thing that may come there, or below. -/
structure HoleDown (f : Nat → It) (N at_ : Nat) (one : It) : Prop where
  edge : ∀ i, 0 < i → i < N → i ≠ at_ → abv i ≠ at_ → leI (f (abv i)) (f i)
  over : ∀ i, 0 < i → i < N → abv i = at_ → 0 < at_ → leI (f (abv at_)) (f i)
  one : 0 < at_ → leI (f (abv at_)) one
theorem HoleDown.new {f : Nat → It} {N : Nat} (h : Heap f (N + 1)) (one : It) : HoleDown f N 0 one :=
  ⟨fun i h1 h2 h3 h4 => h i h1 (by omega), fun i h1 h2 h3 h0 => by omega, fun h0 => by omega⟩
theorem HoleDown.step {f : Nat → It} {N a : Nat} {one : It} (h : HoleDown f N a one) (hk : 2 * a + 1 < N) (hx : leI (f (kidI f N a)) one) : HoleDown (upI f a (f (kidI f N a))) N (kidI f N a) one := by
  have g := kidI_gt f N a
  have gl := kidI_lt (f := f) hk
  have ga := kidI_abv f N a
  have e0 := h.edge
  refine ⟨fun i h1 h2 h3 h4 => ?_, fun i h1 h2 h3 h0 => ?_, fun h0 => ?_⟩
  · have hi := abv_lt h1
    by_cases e : i = a
    · subst e
      rw [upI_same, upI_other _ _ _ _ (by omega)]
      exact h.over _ (by omega) gl ga h1
    · rw [upI_other _ _ _ _ e]
      by_cases e2 : abv i = a
      · rw [e2, upI_same]; exact kidI_le h1 h2 e2
      · rw [upI_other _ _ _ _ e2]; exact h.edge i h1 h2 e e2
  · have hi := abv_lt h1
    rw [ga, upI_same, upI_other _ _ _ _ (by omega)]
    have := h.edge i h1 h2 (by omega) (by omega)
    rwa [h3] at this
  · rw [ga, upI_same]; exact hx
theorem HoleDown.done {f : Nat → It} {N a : Nat} {one : It} (h : HoleDown f N a one) (hx : 2 * a + 1 < N → leI one (f (kidI f N a))) : Heap (upI f a one) N := by
  intro i h1 h2
  have hi := abv_lt h1
  by_cases e : i = a
  · subst e
    rw [upI_same, upI_other _ _ _ _ (by omega)]
    exact h.one h1
  · rw [upI_other _ _ _ _ e]
    by_cases e2 : abv i = a
    · rw [e2, upI_same]
      exact (hx (by rcases kid_of h1 e2 with r | r <;> omega)).trans (kidI_le h1 h2 e2)
    · rw [upI_other _ _ _ _ e2]; exact h.edge i h1 h2 e e2
theorem sink_all {N : Nat} {one : It} {C : It → Prop} : ∀ (m : Nat) (f : Nat → It) (a : Nat), N - a ≤ m → HoleDown f N a one → HoleSet f N a one C → a < N →
    Heap (sdI f N one a) N ∧ HeapSet (sdI f N one a) N C := by
  intro m
  induction m with
  | zero => intro f a hm h1 h2 ha; omega
  | succ m ih =>
    intro f a hm h1 h2 ha
    have g := kidI_gt f N a
    by_cases h : 2 * a + 1 < N ∧ ahd one (f (kidI f N a)) = false
    · have gl := kidI_lt (f := f) h.1
      rw [sdI_go h.1 h.2]
      exact ih _ _ (by omega) (h1.step h.1 (not_ahd_le h.2)) (h2.step ha gl (by omega)) gl
    · rw [sdI_stay h]
      exact ⟨h1.done fun h0 => ahd_le (by cases hk : ahd one (f (kidI f N a)) with | false => exact absurd ⟨h0, hk⟩ h | true => rfl), h2.done ha⟩
/-- Pop, where more than one is there. -/
theorem pop_all {f : Nat → It} {N : Nat} {C : It → Prop} (h : Heap f (N + 1)) (k : HeapSet f (N + 1) C) (hN : 0 < N) :
    carryI f 0 (sinkI f N (f N) 0) (f N) = (sdI f N (f N) 0, f 0) ∧ Heap (sdI f N (f N) 0) N ∧ HeapSet (sdI f N (f N) 0) N (fun x => C x ∧ x ≠ f 0) :=
  ⟨carry_sd _ f 0 (Nat.le_refl _), sink_all _ f 0 (Nat.le_refl _) (HoleDown.new h _) (HoleSet.pop k hN) hN⟩
theorem pop_one {f : Nat → It} {C : It → Prop} (k : HeapSet f 1 C) : carryI f 0 0 (f 0) = (f, f 0) ∧ ∀ g, Heap g 0 ∧ HeapSet g 0 (fun x => C x ∧ x ≠ f 0) := by
  refine ⟨?_, fun g => ⟨fun i h1 h2 => by omega, ⟨fun x => ⟨fun q => ?_, fun q => ?_⟩, fun i j hi => by omega⟩⟩⟩
  · rw [carryI_stop]
    have : upI f 0 (f 0) = f := by funext j; unfold upI; split <;> simp_all
    rw [this]
  · obtain ⟨i, hi, hx⟩ := (k.has x).1 q.1
    obtain rfl : i = 0 := by omega
    exact absurd hx.symm q.2
  · obtain ⟨i, hi, _⟩ := q
    omega
/-- The first one is there, and none is ahead of it. -/
theorem first_all {f : Nat → It} {N : Nat} {C : It → Prop} (h : Heap f N) (k : HeapSet f N C) (hN : 0 < N) : C (f 0) ∧ ∀ x, C x → leI (f 0) x :=
  ⟨(k.has _).2 ⟨0, hN, rfl⟩, fun x hx => by obtain ⟨i, hi, e⟩ := (k.has x).1 hx; rw [← e]; exact h.first i hi⟩
end Go.Proofs.Ytiegpjlobpmacaa
