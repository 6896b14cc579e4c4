/- Orders told by -1, 0, 1, and how they are put together. No program is named. -/
import Derived.WalkKit
namespace Go.Proofs.YtpbbgmfjdachnaaDoor

/-- How two numbers compare. -/
def cmpI (a b : Int) : Int := if a < b then -1 else if b < a then 1 else 0

/-- A total preorder, told by a sign. -/
structure IsCmp {α : Type} (c : α → α → Int) : Prop where
  lo : ∀ a b, -1 ≤ c a b
  hi : ∀ a b, c a b ≤ 1
  anti : ∀ a b, c b a = - c a b
  trans : ∀ a b d, c a b ≤ 0 → c b d ≤ 0 → c a d ≤ 0

theorem IsCmp.refl {α : Type} {c : α → α → Int} (h : IsCmp c) (a : α) : c a a = 0 := by
  have := h.anti a a
  omega

/-- Texts that compare as 0 compare alike with every other one. -/
theorem IsCmp.alike {α : Type} {c : α → α → Int} (h : IsCmp c) (a b d : α) (e : c a b = 0) : c a d = c b d := by
  have h1 := h.anti a b
  have h2 := h.anti a d
  have h3 := h.anti b d
  have l1 := h.lo a d; have l2 := h.lo b d; have u1 := h.hi a d; have u2 := h.hi b d
  have t1 := h.trans a b d (by omega)
  have t2 := h.trans b a d (by omega)
  have t3 := fun x => h.trans d a b x (by omega)
  have t4 := fun x => h.trans d b a x (by omega)
  by_cases p : c a d ≤ 0 <;> by_cases q : c b d ≤ 0
  · by_cases p' : 0 ≤ c a d <;> by_cases q' : 0 ≤ c b d
    · omega
    · have := t3 (by omega); omega
    · have := t4 (by omega); omega
    · omega
  · have := t2 p; omega
  · have := t1 q; omega
  · omega

theorem cmpI_is : IsCmp cmpI where
  lo := fun a b => by unfold cmpI; split <;> (try split) <;> omega
  hi := fun a b => by unfold cmpI; split <;> (try split) <;> omega
  anti := fun a b => by unfold cmpI; split <;> split <;> (try split) <;> omega
  trans := fun a b d => by unfold cmpI; split <;> split <;> (try split) <;> (try split) <;> (try split) <;> omega

theorem IsCmp.pull {α β : Type} {c : β → β → Int} (h : IsCmp c) (f : α → β) : IsCmp (fun a b => c (f a) (f b)) :=
  ⟨fun _ _ => h.lo _ _, fun _ _ => h.hi _ _, fun _ _ => h.anti _ _, fun _ _ _ => h.trans _ _ _⟩

theorem IsCmp.flip {α : Type} {c : α → α → Int} (h : IsCmp c) : IsCmp (fun a b => c b a) :=
  ⟨fun _ _ => h.lo _ _, fun _ _ => h.hi _ _, fun _ _ => h.anti _ _, fun _ _ _ x y => h.trans _ _ _ y x⟩

/-- First one, then the other. -/
def thenC (x y : Int) : Int := if x ≠ 0 then x else y

theorem IsCmp.lex {α : Type} {c d : α → α → Int} (h : IsCmp c) (k : IsCmp d) : IsCmp (fun a b => thenC (c a b) (d a b)) where
  lo := fun a b => by have := h.lo a b; have := k.lo a b; unfold thenC; split <;> omega
  hi := fun a b => by have := h.hi a b; have := k.hi a b; unfold thenC; split <;> omega
  anti := fun a b => by
    have := h.anti a b; have := k.anti a b
    unfold thenC; split <;> split <;> omega
  trans := fun a b e => by
    intro p q
    by_cases x : c a b = 0
    · have p' : d a b ≤ 0 := by simpa [thenC, x] using p
      have x2 := h.alike a b e x
      by_cases y : c b e = 0
      · have q' : d b e ≤ 0 := by simpa [thenC, y] using q
        have y2 : c a e = 0 := by omega
        simpa [thenC, y2] using k.trans a b e p' q'
      · have y2 : ¬ c a e = 0 := by omega
        have : c b e ≤ 0 := by simpa [thenC, y] using q
        simp only [thenC, ne_eq, y2, not_false_eq_true, if_true]
        omega
    · have p' : c a b ≤ 0 := by simpa [thenC, x] using p
      by_cases y : c b e = 0
      · have x2 := h.anti a b
        have x3 := h.anti b e
        have x4 := h.anti a e
        have x5 := h.alike e b a (by omega)
        have y2 : ¬ c a e = 0 := by omega
        simp only [thenC, ne_eq, y2, not_false_eq_true, if_true]
        omega
      · have q' : c b e ≤ 0 := by simpa [thenC, y] using q
        have r := h.trans a b e p' q'
        have y2 : ¬ c a e = 0 := by
          intro z
          have z1 := h.alike a e b z
          have z2 := h.anti b e
          omega
        simp only [thenC, ne_eq, y2, not_false_eq_true, if_true]
        exact r

/-- Two orders, of which the first says which second one counts. -/
theorem IsCmp.ite {α : Type} {c d e : α → α → Int} (h : IsCmp c) (k : IsCmp d) (l : IsCmp e) (P : α → Prop) [DecidablePred P] (hP : ∀ a b, c a b = 0 → (P a ↔ P b)) :
    IsCmp (fun a b => thenC (c a b) (if P a then d a b else e a b)) where
  lo := fun a b => by have := h.lo a b; have := k.lo a b; have := l.lo a b; unfold thenC; split <;> (try split) <;> omega
  hi := fun a b => by have := h.hi a b; have := k.hi a b; have := l.hi a b; unfold thenC; split <;> (try split) <;> omega
  anti := fun a b => by
    have h1 := h.anti a b; have := k.anti a b; have := l.anti a b
    by_cases x : c a b = 0
    · have hp := hP a b x
      have y : c b a = 0 := by omega
      by_cases z : P a
      · simp only [thenC, x, y, ne_eq, not_true_eq_false, if_false, z, hp.1 z, if_true]; omega
      · have z' : ¬ P b := fun q => z (hp.2 q)
        simp only [thenC, x, y, ne_eq, not_true_eq_false, if_false, z, z']; omega
    · have y : ¬ c b a = 0 := by omega
      simp only [thenC, x, y, ne_eq, not_false_eq_true, if_true]; omega
  trans := fun a b f => by
    intro p q
    have m := IsCmp.lex h k
    have n := IsCmp.lex h l
    by_cases z : P a
    · by_cases x : c a b = 0
      · have zb := (hP a b x).1 z
        rw [if_pos z] at p ⊢
        rw [if_pos zb] at q
        exact m.trans a b f p q
      · by_cases y : c b f = 0
        · have x5 := h.alike f b a (by have := h.anti b f; omega)
          have h2 := h.anti a b; have h3 := h.anti a f
          have y2 : ¬ c a f = 0 := by omega
          have p' : c a b ≤ 0 := by simpa [thenC, x] using p
          simp only [thenC, ne_eq, y2, not_false_eq_true, if_true]; omega
        · have p' : thenC (c a b) (d a b) ≤ 0 := by simpa [thenC, x] using p
          have q' : thenC (c b f) (d b f) ≤ 0 := by simpa [thenC, y] using q
          rw [if_pos z]
          exact m.trans a b f p' q'
    · by_cases x : c a b = 0
      · have zb : ¬ P b := fun hb => z ((hP a b x).2 hb)
        rw [if_neg z] at p ⊢
        rw [if_neg zb] at q
        exact n.trans a b f p q
      · by_cases y : c b f = 0
        · have x5 := h.alike f b a (by have := h.anti b f; omega)
          have h2 := h.anti a b; have h3 := h.anti a f
          have y2 : ¬ c a f = 0 := by omega
          have p' : c a b ≤ 0 := by simpa [thenC, x] using p
          simp only [thenC, ne_eq, y2, not_false_eq_true, if_true]; omega
        · have p' : thenC (c a b) (e a b) ≤ 0 := by simpa [thenC, x] using p
          have q' : thenC (c b f) (e b f) ≤ 0 := by simpa [thenC, y] using q
          rw [if_neg z]
          exact n.trans a b f p' q'

/-- The first of n that is not 0. -/
def firstN : Nat → (Nat → Int) → Int
  | 0, _ => 0
  | n + 1, g => thenC (firstN n g) (g n)

theorem firstN_congr {g g' : Nat → Int} : ∀ (n : Nat), (∀ i, i < n → g i = g' i) → firstN n g = firstN n g'
  | 0, _ => rfl
  | n + 1, h => by simp only [firstN]; rw [firstN_congr n (fun i hi => h i (by omega)), h n (by omega)]

theorem firstN_zero {g : Nat → Int} : ∀ (n : Nat), (∀ i, i < n → g i = 0) → firstN n g = 0
  | 0, _ => rfl
  | n + 1, h => by simp [firstN, firstN_zero n (fun i hi => h i (by omega)), h n (by omega), thenC]

/-- Behind an end at which all is 0 nothing is added. -/
theorem firstN_more {g : Nat → Int} (n : Nat) : ∀ (m : Nat), n ≤ m → (∀ i, n ≤ i → g i = 0) → firstN m g = firstN n g
  | 0, h, _ => by
    have : n = 0 := by omega
    subst this; rfl
  | m + 1, h, h0 => by
    by_cases e : n = m + 1
    · subst e; rfl
    · have ih := firstN_more n m (by omega) h0
      simp only [firstN, ih, h0 m (by omega), thenC]
      split <;> omega

/-- Up to the first that is not 0. -/
theorem firstN_stop {g : Nat → Int} (k : Nat) (h0 : ∀ i, i < k → g i = 0) (hk : g k ≠ 0) : ∀ (n : Nat), k < n → firstN n g = g k
  | 0, h => by omega
  | n + 1, h => by
    by_cases e : k = n
    · subst e; simp [firstN, firstN_zero k h0, thenC]
    · have ih := firstN_stop k h0 hk n (by omega)
      simp only [firstN, ih, thenC]
      rw [if_pos hk]

theorem IsCmp.first {α β : Type} {c : β → β → Int} (h : IsCmp c) (f : α → Nat → β) : ∀ n : Nat, IsCmp (fun a b => firstN n (fun i => c (f a i) (f b i)))
  | 0 => ⟨fun _ _ => by simp [firstN], fun _ _ => by simp [firstN], fun _ _ => by simp [firstN], fun _ _ _ _ _ => by simp [firstN]⟩
  | n + 1 => IsCmp.lex (IsCmp.first h f n) (h.pull (fun a => f a n))

/-- Of two that end: as many as there are in the longer one. -/
theorem IsCmp.ends {α β : Type} {c : β → β → Int} (h : IsCmp c) (f : α → Nat → β) (len : α → Nat) (z : β) (hz : ∀ a i, len a ≤ i → f a i = z) :
    IsCmp (fun a b => firstN (max (len a) (len b)) (fun i => c (f a i) (f b i))) := by
  have up : ∀ a b n, max (len a) (len b) ≤ n → firstN (max (len a) (len b)) (fun i => c (f a i) (f b i)) = firstN n (fun i => c (f a i) (f b i)) := fun a b n hn =>
    (firstN_more _ n hn (fun i hi => by show c (f a i) (f b i) = 0; rw [hz a i (by omega), hz b i (by omega)]; exact h.refl z)).symm
  refine ⟨fun a b => (IsCmp.first h f _).lo a b, fun a b => (IsCmp.first h f _).hi a b, fun a b => ?_, fun a b d => ?_⟩
  · rw [up b a (max (len a) (len b)) (by omega)]
    exact (IsCmp.first h f _).anti a b
  · rw [up a b (max (len a) (max (len b) (len d))) (by omega), up b d (max (len a) (max (len b) (len d))) (by omega), up a d (max (len a) (max (len b) (len d))) (by omega)]
    exact (IsCmp.first h f _).trans a b d

/-- Two texts of which the first byte that differs tells the order: so neither is the other's beginning. -/
def Sep (c : Int) (x y : List UInt8) : Prop :=
  (c = 0 ∧ x = y) ∨ (c = -1 ∧ ∃ p u v xs ys, x = p ++ u :: xs ∧ y = p ++ v :: ys ∧ u < v) ∨ (c = 1 ∧ ∃ p u v xs ys, x = p ++ u :: xs ∧ y = p ++ v :: ys ∧ v < u)

theorem Sep.nil : Sep 0 [] [] := Or.inl ⟨rfl, rfl⟩
theorem Sep.same (x : List UInt8) : Sep 0 x x := Or.inl ⟨rfl, rfl⟩
theorem Sep.app {c d : Int} {x y x' y' : List UInt8} (h : Sep c x y) (k : Sep d x' y') : Sep (thenC c d) (x ++ x') (y ++ y') := by
  rcases h with ⟨rfl, rfl⟩ | ⟨rfl, p, u, v, xs, ys, rfl, rfl, huv⟩ | ⟨rfl, p, u, v, xs, ys, rfl, rfl, huv⟩
  · rcases k with ⟨rfl, rfl⟩ | ⟨rfl, p, u, v, xs, ys, rfl, rfl, huv⟩ | ⟨rfl, p, u, v, xs, ys, rfl, rfl, huv⟩
    · exact Or.inl ⟨by simp [thenC], rfl⟩
    · exact Or.inr (Or.inl ⟨by simp [thenC], x ++ p, u, v, xs, ys, by simp, by simp, huv⟩)
    · exact Or.inr (Or.inr ⟨by simp [thenC], x ++ p, u, v, xs, ys, by simp, by simp, huv⟩)
  · exact Or.inr (Or.inl ⟨by simp [thenC], p, u, v, xs ++ x', ys ++ y', by simp, by simp, huv⟩)
  · exact Or.inr (Or.inr ⟨by simp [thenC], p, u, v, xs ++ x', ys ++ y', by simp, by simp, huv⟩)
/-- What follows a difference counts for nothing. -/
theorem Sep.more {c : Int} {x y : List UInt8} (h : Sep c x y) (hc : c ≠ 0) (x' y' : List UInt8) : Sep c (x ++ x') (y ++ y') := by
  rcases h with ⟨rfl, rfl⟩ | ⟨rfl, p, u, v, xs, ys, rfl, rfl, huv⟩ | ⟨rfl, p, u, v, xs, ys, rfl, rfl, huv⟩
  · exact absurd rfl hc
  · exact Or.inr (Or.inl ⟨rfl, p, u, v, xs ++ x', ys ++ y', by simp, by simp, huv⟩)
  · exact Or.inr (Or.inr ⟨rfl, p, u, v, xs ++ x', ys ++ y', by simp, by simp, huv⟩)
theorem Sep.turn {c : Int} {x y : List UInt8} (h : Sep c x y) : Sep (-c) (x.map (255 - ·)) (y.map (255 - ·)) := by
  have t : ∀ u v : UInt8, u < v → 255 - v < 255 - u := fun u v h => by
    rw [UInt8.lt_iff_toNat_lt] at h ⊢
    have a : (255 - v : UInt8).toNat = 255 - v.toNat := UInt8.toNat_sub_of_le _ _ (by rw [UInt8.le_iff_toNat_le]; have := v.toNat_lt; simp; omega)
    have b : (255 - u : UInt8).toNat = 255 - u.toNat := UInt8.toNat_sub_of_le _ _ (by rw [UInt8.le_iff_toNat_le]; have := u.toNat_lt; simp; omega)
    have := v.toNat_lt
    omega
  rcases h with ⟨rfl, rfl⟩ | ⟨rfl, p, u, v, xs, ys, rfl, rfl, huv⟩ | ⟨rfl, p, u, v, xs, ys, rfl, rfl, huv⟩
  · exact Or.inl ⟨rfl, rfl⟩
  · exact Or.inr (Or.inr ⟨rfl, p.map (255 - ·), 255 - u, 255 - v, xs.map (255 - ·), ys.map (255 - ·), by simp, by simp, t _ _ huv⟩)
  · exact Or.inr (Or.inl ⟨rfl, p.map (255 - ·), 255 - u, 255 - v, xs.map (255 - ·), ys.map (255 - ·), by simp, by simp, t _ _ huv⟩)
theorem Sep.byte (u v : UInt8) : Sep (cmpI u.toNat v.toNat) [u] [v] := by
  by_cases h : u.toNat < v.toNat
  · exact Or.inr (Or.inl ⟨by unfold cmpI; rw [if_pos (by omega)], [], u, v, [], [], rfl, rfl, UInt8.lt_iff_toNat_lt.2 h⟩)
  · by_cases k : v.toNat < u.toNat
    · exact Or.inr (Or.inr ⟨by unfold cmpI; rw [if_neg (by omega), if_pos (by omega)], [], u, v, [], [], rfl, rfl, UInt8.lt_iff_toNat_lt.2 k⟩)
    · have e : u = v := UInt8.toNat_inj.1 (by omega)
      subst e
      exact Or.inl ⟨by unfold cmpI; rw [if_neg (by omega), if_neg (by omega)], rfl⟩
theorem Sep.swap {c : Int} {x y : List UInt8} (h : Sep c x y) : Sep (-c) y x := by
  rcases h with ⟨rfl, rfl⟩ | ⟨rfl, p, u, v, xs, ys, rfl, rfl, huv⟩ | ⟨rfl, p, u, v, xs, ys, rfl, rfl, huv⟩
  · exact Or.inl ⟨rfl, rfl⟩
  · exact Or.inr (Or.inr ⟨rfl, p, v, u, ys, xs, rfl, rfl, huv⟩)
  · exact Or.inr (Or.inl ⟨rfl, p, v, u, ys, xs, rfl, rfl, huv⟩)
end Go.Proofs.YtpbbgmfjdachnaaDoor
