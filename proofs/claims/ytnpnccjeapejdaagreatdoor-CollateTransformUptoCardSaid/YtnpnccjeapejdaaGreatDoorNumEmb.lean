/- Embed turns the order of each kind into the bytewise one: the plain mathematics. No program is named. -/
import Derived.WalkKit
import Derived.Lib.SlTrimSet
namespace Go.Proofs.YtnpnccjeapejdaaGreatDoor.Num
section
section
section
/-- How two numbers compare. -/
def cmpI (a b : Int) : Int := if a < b then -1 else if b < a then 1 else 0

/-- A total preorder, told by a sign. -/
structure IsCmp {α : Type} (c : α → α → Int) : Prop where
  lo : ∀ a b, -1 ≤ c a b
  hi : ∀ a b, c a b ≤ 1
  anti : ∀ a b, c b a = - c a b
  trans : ∀ a b d, c a b ≤ 0 → c b d ≤ 0 → c a d ≤ 0

theorem IsCmp.refl {α : Type} {c : α → α → Int} (h : IsCmp c) (a : α) : c a a = 0 := by
  have := h.anti a a
  omega

/-- Texts that compare as 0 compare alike with every other one. -/
theorem IsCmp.alike {α : Type} {c : α → α → Int} (h : IsCmp c) (a b d : α) (e : c a b = 0) : c a d = c b d := by
  have h1 := h.anti a b
  have h2 := h.anti a d
  have h3 := h.anti b d
  have l1 := h.lo a d; have l2 := h.lo b d; have u1 := h.hi a d; have u2 := h.hi b d
  have t1 := h.trans a b d (by omega)
  have t2 := h.trans b a d (by omega)
  have t3 := fun x => h.trans d a b x (by omega)
  have t4 := fun x => h.trans d b a x (by omega)
  by_cases p : c a d ≤ 0 <;> by_cases q : c b d ≤ 0
  · by_cases p' : 0 ≤ c a d <;> by_cases q' : 0 ≤ c b d
    · omega
    · have := t3 (by omega); omega
    · have := t4 (by omega); omega
    · omega
  · have := t2 p; omega
  · have := t1 q; omega
  · omega

theorem cmpI_is : IsCmp cmpI where
  lo := fun a b => by unfold cmpI; split <;> (try split) <;> omega
  hi := fun a b => by unfold cmpI; split <;> (try split) <;> omega
  anti := fun a b => by unfold cmpI; split <;> split <;> (try split) <;> omega
  trans := fun a b d => by unfold cmpI; split <;> split <;> (try split) <;> (try split) <;> (try split) <;> omega

theorem IsCmp.pull {α β : Type} {c : β → β → Int} (h : IsCmp c) (f : α → β) : IsCmp (fun a b => c (f a) (f b)) :=
  ⟨fun _ _ => h.lo _ _, fun _ _ => h.hi _ _, fun _ _ => h.anti _ _, fun _ _ _ => h.trans _ _ _⟩

theorem IsCmp.flip {α : Type} {c : α → α → Int} (h : IsCmp c) : IsCmp (fun a b => c b a) :=
  ⟨fun _ _ => h.lo _ _, fun _ _ => h.hi _ _, fun _ _ => h.anti _ _, fun _ _ _ x y => h.trans _ _ _ y x⟩

/-- First one, then the other. -/
def thenC (x y : Int) : Int := if x ≠ 0 then x else y

theorem IsCmp.lex {α : Type} {c d : α → α → Int} (h : IsCmp c) (k : IsCmp d) : IsCmp (fun a b => thenC (c a b) (d a b)) where
  lo := fun a b => by have := h.lo a b; have := k.lo a b; unfold thenC; split <;> omega
  hi := fun a b => by have := h.hi a b; have := k.hi a b; unfold thenC; split <;> omega
  anti := fun a b => by
    have := h.anti a b; have := k.anti a b
    unfold thenC; split <;> split <;> omega
  trans := fun a b e => by
    intro p q
    by_cases x : c a b = 0
    · have p' : d a b ≤ 0 := by simpa [thenC, x] using p
      have x2 := h.alike a b e x
      by_cases y : c b e = 0
      · have q' : d b e ≤ 0 := by simpa [thenC, y] using q
        have y2 : c a e = 0 := by omega
        simpa [thenC, y2] using k.trans a b e p' q'
      · have y2 : ¬ c a e = 0 := by omega
        have : c b e ≤ 0 := by simpa [thenC, y] using q
        simp only [thenC, ne_eq, y2, not_false_eq_true, if_true]
        omega
    · have p' : c a b ≤ 0 := by simpa [thenC, x] using p
      by_cases y : c b e = 0
      · have x2 := h.anti a b
        have x3 := h.anti b e
        have x4 := h.anti a e
        have x5 := h.alike e b a (by omega)
        have y2 : ¬ c a e = 0 := by omega
        simp only [thenC, ne_eq, y2, not_false_eq_true, if_true]
        omega
      · have q' : c b e ≤ 0 := by simpa [thenC, y] using q
        have r := h.trans a b e p' q'
        have y2 : ¬ c a e = 0 := by
          intro z
          have z1 := h.alike a e b z
          have z2 := h.anti b e
          omega
        simp only [thenC, ne_eq, y2, not_false_eq_true, if_true]
        exact r

/-- Two orders, of which the first says which second one counts. -/
theorem IsCmp.ite {α : Type} {c d e : α → α → Int} (h : IsCmp c) (k : IsCmp d) (l : IsCmp e) (P : α → Prop) [DecidablePred P] (hP : ∀ a b, c a b = 0 → (P a ↔ P b)) :
    IsCmp (fun a b => thenC (c a b) (if P a then d a b else e a b)) where
  lo := fun a b => by have := h.lo a b; have := k.lo a b; have := l.lo a b; unfold thenC; split <;> (try split) <;> omega
  hi := fun a b => by have := h.hi a b; have := k.hi a b; have := l.hi a b; unfold thenC; split <;> (try split) <;> omega
  anti := fun a b => by
    have h1 := h.anti a b; have := k.anti a b; have := l.anti a b
    by_cases x : c a b = 0
    · have hp := hP a b x
      have y : c b a = 0 := by omega
      by_cases z : P a
      · simp only [thenC, x, y, ne_eq, not_true_eq_false, if_false, z, hp.1 z, if_true]; omega
      · have z' : ¬ P b := fun q => z (hp.2 q)
        simp only [thenC, x, y, ne_eq, not_true_eq_false, if_false, z, z']; omega
    · have y : ¬ c b a = 0 := by omega
      simp only [thenC, x, y, ne_eq, not_false_eq_true, if_true]; omega
  trans := fun a b f => by
    intro p q
    have m := IsCmp.lex h k
    have n := IsCmp.lex h l
    by_cases z : P a
    · by_cases x : c a b = 0
      · have zb := (hP a b x).1 z
        rw [if_pos z] at p ⊢
        rw [if_pos zb] at q
        exact m.trans a b f p q
      · by_cases y : c b f = 0
        · have x5 := h.alike f b a (by have := h.anti b f; omega)
          have h2 := h.anti a b; have h3 := h.anti a f
          have y2 : ¬ c a f = 0 := by omega
          have p' : c a b ≤ 0 := by simpa [thenC, x] using p
          simp only [thenC, ne_eq, y2, not_false_eq_true, if_true]; omega
        · have p' : thenC (c a b) (d a b) ≤ 0 := by simpa [thenC, x] using p
          have q' : thenC (c b f) (d b f) ≤ 0 := by simpa [thenC, y] using q
          rw [if_pos z]
          exact m.trans a b f p' q'
    · by_cases x : c a b = 0
      · have zb : ¬ P b := fun hb => z ((hP a b x).2 hb)
        rw [if_neg z] at p ⊢
        rw [if_neg zb] at q
        exact n.trans a b f p q
      · by_cases y : c b f = 0
        · have x5 := h.alike f b a (by have := h.anti b f; omega)
          have h2 := h.anti a b; have h3 := h.anti a f
          have y2 : ¬ c a f = 0 := by omega
          have p' : c a b ≤ 0 := by simpa [thenC, x] using p
          simp only [thenC, ne_eq, y2, not_false_eq_true, if_true]; omega
        · have p' : thenC (c a b) (e a b) ≤ 0 := by simpa [thenC, x] using p
          have q' : thenC (c b f) (e b f) ≤ 0 := by simpa [thenC, y] using q
          rw [if_neg z]
          exact n.trans a b f p' q'

/-- The first of n that is not 0. -/
def firstN : Nat → (Nat → Int) → Int
  | 0, _ => 0
  | n + 1, g => thenC (firstN n g) (g n)

theorem firstN_congr {g g' : Nat → Int} : ∀ (n : Nat), (∀ i, i < n → g i = g' i) → firstN n g = firstN n g'
  | 0, _ => rfl
  | n + 1, h => by simp only [firstN]; rw [firstN_congr n (fun i hi => h i (by omega)), h n (by omega)]

theorem firstN_zero {g : Nat → Int} : ∀ (n : Nat), (∀ i, i < n → g i = 0) → firstN n g = 0
  | 0, _ => rfl
  | n + 1, h => by simp [firstN, firstN_zero n (fun i hi => h i (by omega)), h n (by omega), thenC]

/-- Behind an end at which all is 0 nothing is added. -/
theorem firstN_more {g : Nat → Int} (n : Nat) : ∀ (m : Nat), n ≤ m → (∀ i, n ≤ i → g i = 0) → firstN m g = firstN n g
  | 0, h, _ => by
    have : n = 0 := by omega
    subst this; rfl
  | m + 1, h, h0 => by
    by_cases e : n = m + 1
    · subst e; rfl
    · have ih := firstN_more n m (by omega) h0
      simp only [firstN, ih, h0 m (by omega), thenC]
      split <;> omega

/-- Up to the first that is not 0. -/
theorem firstN_stop {g : Nat → Int} (k : Nat) (h0 : ∀ i, i < k → g i = 0) (hk : g k ≠ 0) : ∀ (n : Nat), k < n → firstN n g = g k
  | 0, h => by omega
  | n + 1, h => by
    by_cases e : k = n
    · subst e; simp [firstN, firstN_zero k h0, thenC]
    · have ih := firstN_stop k h0 hk n (by omega)
      simp only [firstN, ih, thenC]
      rw [if_pos hk]

theorem IsCmp.first {α β : Type} {c : β → β → Int} (h : IsCmp c) (f : α → Nat → β) : ∀ n : Nat, IsCmp (fun a b => firstN n (fun i => c (f a i) (f b i)))
  | 0 => ⟨fun _ _ => by simp [firstN], fun _ _ => by simp [firstN], fun _ _ => by simp [firstN], fun _ _ _ _ _ => by simp [firstN]⟩
  | n + 1 => IsCmp.lex (IsCmp.first h f n) (h.pull (fun a => f a n))

/-- Of two that end: as many as there are in the longer one. -/
theorem IsCmp.ends {α β : Type} {c : β → β → Int} (h : IsCmp c) (f : α → Nat → β) (len : α → Nat) (z : β) (hz : ∀ a i, len a ≤ i → f a i = z) :
    IsCmp (fun a b => firstN (max (len a) (len b)) (fun i => c (f a i) (f b i))) := by
  have up : ∀ a b n, max (len a) (len b) ≤ n → firstN (max (len a) (len b)) (fun i => c (f a i) (f b i)) = firstN n (fun i => c (f a i) (f b i)) := fun a b n hn =>
    (firstN_more _ n hn (fun i hi => by show c (f a i) (f b i) = 0; rw [hz a i (by omega), hz b i (by omega)]; exact h.refl z)).symm
  refine ⟨fun a b => (IsCmp.first h f _).lo a b, fun a b => (IsCmp.first h f _).hi a b, fun a b => ?_, fun a b d => ?_⟩
  · rw [up b a (max (len a) (len b)) (by omega)]
    exact (IsCmp.first h f _).anti a b
  · rw [up a b (max (len a) (max (len b) (len d))) (by omega), up b d (max (len a) (max (len b) (len d))) (by omega), up a d (max (len a) (max (len b) (len d))) (by omega)]
    exact (IsCmp.first h f _).trans a b d

/-- Two texts of which the first byte that differs tells the order: so neither is the other's beginning. -/
def Sep (c : Int) (x y : List UInt8) : Prop :=
  (c = 0 ∧ x = y) ∨ (c = -1 ∧ ∃ p u v xs ys, x = p ++ u :: xs ∧ y = p ++ v :: ys ∧ u < v) ∨ (c = 1 ∧ ∃ p u v xs ys, x = p ++ u :: xs ∧ y = p ++ v :: ys ∧ v < u)

theorem Sep.nil : Sep 0 [] [] := Or.inl ⟨rfl, rfl⟩
theorem Sep.same (x : List UInt8) : Sep 0 x x := Or.inl ⟨rfl, rfl⟩
theorem Sep.app {c d : Int} {x y x' y' : List UInt8} (h : Sep c x y) (k : Sep d x' y') : Sep (thenC c d) (x ++ x') (y ++ y') := by
  rcases h with ⟨rfl, rfl⟩ | ⟨rfl, p, u, v, xs, ys, rfl, rfl, huv⟩ | ⟨rfl, p, u, v, xs, ys, rfl, rfl, huv⟩
  · rcases k with ⟨rfl, rfl⟩ | ⟨rfl, p, u, v, xs, ys, rfl, rfl, huv⟩ | ⟨rfl, p, u, v, xs, ys, rfl, rfl, huv⟩
    · exact Or.inl ⟨by simp [thenC], rfl⟩
    · exact Or.inr (Or.inl ⟨by simp [thenC], x ++ p, u, v, xs, ys, by simp, by simp, huv⟩)
    · exact Or.inr (Or.inr ⟨by simp [thenC], x ++ p, u, v, xs, ys, by simp, by simp, huv⟩)
  · exact Or.inr (Or.inl ⟨by simp [thenC], p, u, v, xs ++ x', ys ++ y', by simp, by simp, huv⟩)
  · exact Or.inr (Or.inr ⟨by simp [thenC], p, u, v, xs ++ x', ys ++ y', by simp, by simp, huv⟩)
/-- What follows a difference counts for nothing. -/
theorem Sep.more {c : Int} {x y : List UInt8} (h : Sep c x y) (hc : c ≠ 0) (x' y' : List UInt8) : Sep c (x ++ x') (y ++ y') := by
  rcases h with ⟨rfl, rfl⟩ | ⟨rfl, p, u, v, xs, ys, rfl, rfl, huv⟩ | ⟨rfl, p, u, v, xs, ys, rfl, rfl, huv⟩
  · exact absurd rfl hc
  · exact Or.inr (Or.inl ⟨rfl, p, u, v, xs ++ x', ys ++ y', by simp, by simp, huv⟩)
  · exact Or.inr (Or.inr ⟨rfl, p, u, v, xs ++ x', ys ++ y', by simp, by simp, huv⟩)
theorem Sep.turn {c : Int} {x y : List UInt8} (h : Sep c x y) : Sep (-c) (x.map (255 - ·)) (y.map (255 - ·)) := by
  have t : ∀ u v : UInt8, u < v → 255 - v < 255 - u := fun u v h => by
    rw [UInt8.lt_iff_toNat_lt] at h ⊢
    have a : (255 - v : UInt8).toNat = 255 - v.toNat := UInt8.toNat_sub_of_le _ _ (by rw [UInt8.le_iff_toNat_le]; have := v.toNat_lt; simp; omega)
    have b : (255 - u : UInt8).toNat = 255 - u.toNat := UInt8.toNat_sub_of_le _ _ (by rw [UInt8.le_iff_toNat_le]; have := u.toNat_lt; simp; omega)
    have := v.toNat_lt
    omega
  rcases h with ⟨rfl, rfl⟩ | ⟨rfl, p, u, v, xs, ys, rfl, rfl, huv⟩ | ⟨rfl, p, u, v, xs, ys, rfl, rfl, huv⟩
  · exact Or.inl ⟨rfl, rfl⟩
  · exact Or.inr (Or.inr ⟨rfl, p.map (255 - ·), 255 - u, 255 - v, xs.map (255 - ·), ys.map (255 - ·), by simp, by simp, t _ _ huv⟩)
  · exact Or.inr (Or.inl ⟨rfl, p.map (255 - ·), 255 - u, 255 - v, xs.map (255 - ·), ys.map (255 - ·), by simp, by simp, t _ _ huv⟩)
theorem Sep.byte (u v : UInt8) : Sep (cmpI u.toNat v.toNat) [u] [v] := by
  by_cases h : u.toNat < v.toNat
  · exact Or.inr (Or.inl ⟨by unfold cmpI; rw [if_pos (by omega)], [], u, v, [], [], rfl, rfl, UInt8.lt_iff_toNat_lt.2 h⟩)
  · by_cases k : v.toNat < u.toNat
    · exact Or.inr (Or.inr ⟨by unfold cmpI; rw [if_neg (by omega), if_pos (by omega)], [], u, v, [], [], rfl, rfl, UInt8.lt_iff_toNat_lt.2 k⟩)
    · have e : u = v := UInt8.toNat_inj.1 (by omega)
      subst e
      exact Or.inl ⟨by unfold cmpI; rw [if_neg (by omega), if_neg (by omega)], rfl⟩
theorem Sep.swap {c : Int} {x y : List UInt8} (h : Sep c x y) : Sep (-c) y x := by
  rcases h with ⟨rfl, rfl⟩ | ⟨rfl, p, u, v, xs, ys, rfl, rfl, huv⟩ | ⟨rfl, p, u, v, xs, ys, rfl, rfl, huv⟩
  · exact Or.inl ⟨rfl, rfl⟩
  · exact Or.inr (Or.inr ⟨rfl, p, v, u, ys, xs, rfl, rfl, huv⟩)
  · exact Or.inr (Or.inl ⟨rfl, p, v, u, ys, xs, rfl, rfl, huv⟩)
end
section
def isDig (c : UInt8) : Bool := decide (48 ≤ c.toNat) && decide (c.toNat ≤ 57)
def isBlank (c : UInt8) : Bool := c == 32 || c == 9
def atB (l : List UInt8) (i : Nat) : UInt8 := l.getD i 0
def spanN (p : UInt8 → Bool) (l : List UInt8) : Nat := (l.takeWhile p).length

theorem spanN_le (p : UInt8 → Bool) (l : List UInt8) : spanN p l ≤ l.length := by
  unfold spanN; exact (List.takeWhile_sublist p).length_le
theorem take_spanN (p : UInt8 → Bool) (l : List UInt8) : l.take (spanN p l) = l.takeWhile p := by
  unfold spanN
  conv => lhs; rw [← List.takeWhile_append_dropWhile (p := p) (l := l)]
  rw [List.take_left']
  simp
theorem drop_spanN (p : UInt8 → Bool) (l : List UInt8) : l.drop (spanN p l) = l.dropWhile p := by
  have h := List.takeWhile_append_dropWhile (p := p) (l := l)
  unfold spanN
  conv => lhs; rw [← h]
  rw [List.drop_left']
  simp

/-- A run that goes on. -/
theorem spanN_on {p : UInt8 → Bool} : ∀ {l : List UInt8} {k : Nat}, k ≤ spanN p l → p 0 = false → p (atB l k) = true → k + 1 ≤ spanN p l
  | [], k, _, h0, h => by simp [atB, h0] at h
  | x :: r, 0, _, h0, h => by
    have : p x = true := by simpa [atB] using h
    simp [spanN, List.takeWhile, this]
  | x :: r, k + 1, hk, h0, h => by
    by_cases e : p x = true
    · have hk' : k ≤ spanN p r := by simp [spanN, List.takeWhile, e] at hk; simpa [spanN] using hk
      have := spanN_on (l := r) (k := k) hk' h0 (by simpa [atB] using h)
      simp [spanN, List.takeWhile, e] at this ⊢
      exact this
    · simp [spanN, List.takeWhile, e] at hk
/-- A run that ends. -/
theorem spanN_end {p : UInt8 → Bool} : ∀ {l : List UInt8} {k : Nat}, k ≤ spanN p l → p (atB l k) = false → spanN p l = k
  | [], k, hk, h => by simp [spanN] at hk ⊢; omega
  | x :: r, 0, _, h => by
    have : p x = false := by simpa [atB] using h
    simp [spanN, List.takeWhile, this]
  | x :: r, k + 1, hk, h => by
    by_cases e : p x = true
    · have hk' : k ≤ spanN p r := by simp [spanN, List.takeWhile, e] at hk; simpa [spanN] using hk
      have := spanN_end (l := r) (k := k) hk' (by simpa [atB] using h)
      simp [spanN, List.takeWhile, e] at this ⊢
      exact this
    · simp [spanN, List.takeWhile, e] at hk

/-- Does l begin with a word of small letters? -/
def begW : List UInt8 → List UInt8 → Bool
  | [], _ => true
  | c :: w, l => match l with
    | [] => false
    | x :: l => (x ||| 32 == c) && begW w l
def begB (l w : List UInt8) : Bool := begW w l

/-- What a text's head says. -/
structure Hd where
  cls : Nat
  neg : Bool
  whole : List UInt8
  frac : List UInt8
  exp : Int
  size : Nat

def Hd.none : Hd := ⟨0, false, [], [], 0, 0⟩

def wInfinity : List UInt8 := [105, 110, 102, 105, 110, 105, 116, 121]
def wInf : List UInt8 := [105, 110, 102]
def wNan : List UInt8 := [110, 97, 110]

/-- The class of a text that begins with a word, and the word's length. -/
def wordS (l : List UInt8) (neg : Bool) : Nat × Nat :=
  if begB l wInfinity then (if neg then 2 else 4, 8)
  else if begB l wInf then (if neg then 2 else 4, 3)
  else if begB l wNan then (1, 3)
  else (0, 0)

def satS : Nat → List UInt8 → Nat
  | e, [] => e
  | e, c :: r => satS (min (10 * e + (c.toNat - 48)) 1099511627776) r

def expSg (l : List UInt8) : Nat := if atB l 1 == 45 || atB l 1 == 43 then 1 else 0
/-- An exponent: its value, its length. -/
def expS (l : List UInt8) : Int × Nat :=
  if atB l 0 == 101 || atB l 0 == 69 then
    if spanN isDig (l.drop (1 + expSg l)) = 0 then (0, 0)
    else (if atB l 1 == 45 then - (satS 0 ((l.drop (1 + expSg l)).takeWhile isDig) : Int) else satS 0 ((l.drop (1 + expSg l)).takeWhile isDig), 1 + expSg l + spanN isDig (l.drop (1 + expSg l)))
  else (0, 0)

/-- Behind the blanks. -/
def signN (r : List UInt8) (g : Bool) : Nat := if atB r 0 == 45 || (atB r 0 == 43 && g) then 1 else 0
/-- A number's text: the digits, the point, the digits, the exponent; base is where it begins. -/
def fracS (r2 : List UInt8) : List UInt8 := if atB r2 0 == 46 then (r2.drop 1).takeWhile isDig else []
def fracN (r2 : List UInt8) : Nat := if atB r2 0 == 46 then 1 + spanN isDig (r2.drop 1) else 0
def numberS (r1 : List UInt8) (g neg : Bool) (base : Nat) : Hd :=
  if r1.takeWhile isDig = [] ∧ fracS (r1.dropWhile isDig) = [] then Hd.none
  else if g then
    ⟨3, neg, r1.takeWhile isDig, fracS (r1.dropWhile isDig), (expS ((r1.dropWhile isDig).drop (fracN (r1.dropWhile isDig)))).1, base + spanN isDig r1 + fracN (r1.dropWhile isDig) + (expS ((r1.dropWhile isDig).drop (fracN (r1.dropWhile isDig)))).2⟩
  else ⟨3, neg, r1.takeWhile isDig, fracS (r1.dropWhile isDig), 0, base + spanN isDig r1 + fracN (r1.dropWhile isDig)⟩

def scanS (l : List UInt8) (g : Bool) : Hd :=
  let b := spanN isBlank l
  let r := l.drop b
  let neg := atB r 0 == 45
  let r1 := r.drop (signN r g)
  if g && decide (0 < (wordS r1 neg).2) then ⟨(wordS r1 neg).1, false, [], [], 0, b + signN r g + (wordS r1 neg).2⟩
  else numberS r1 g neg (b + signN r g)

def trimL (l : List UInt8) : List UInt8 := Lib.trimLeftS l [48]
def trimR (l : List UInt8) : List UInt8 := Lib.trimRightS l [48]

/-- The number as 0.DIGITS times 10 to an exponent. -/
def numW (h : Hd) : List UInt8 := if (if trimL h.whole = [] then trimL (trimR h.frac) else trimR h.frac) = [] then trimR (trimL h.whole) else trimL h.whole
def numF (h : Hd) : List UInt8 := if trimL h.whole = [] then trimL (trimR h.frac) else trimR h.frac
def numE (h : Hd) : Int := (if trimL h.whole = [] then ((trimL (trimR h.frac)).length : Int) - (trimR h.frac).length else (trimL h.whole).length) + h.exp
def numD (h : Hd) : List UInt8 := numW h ++ numF h

def rankOf (c : UInt8) : Nat :=
  if c == 75 || c == 107 then 1 else if c == 77 then 2 else if c == 71 then 3 else if c == 84 then 4 else if c == 80 then 5 else if c == 69 then 6
  else if c == 90 then 7 else if c == 89 then 8 else if c == 82 then 9 else if c == 81 then 10 else 0
def sufS (h : Hd) (l : List UInt8) : Nat := if h.cls = 0 then 0 else rankOf (atB l h.size)

/-- What a text counts for. -/
structure Val where
  cls : Nat
  rank : Nat
  exp : Int
  whole : List UInt8
  frac : List UInt8
def Val.digits (v : Val) : List UInt8 := v.whole ++ v.frac

def valH (kind : Nat) (h : Hd) (l : List UInt8) : Val :=
  if h.cls = 1 then ⟨32, 0, 0, [], []⟩
  else if h.cls = 2 then ⟨48, 0, 0, [], []⟩
  else if h.cls = 4 then ⟨112, 0, 0, [], []⟩
  else if h.cls = 0 ∧ kind = 32 then ⟨16, 0, 0, [], []⟩
  else if numD h = [] then ⟨80, 0, 0, [], []⟩
  else ⟨if h.neg then 64 else 96, if kind = 64 then sufS h l else 0, numE h, numW h, numF h⟩
def valS (kind : Nat) (l : List UInt8) : Val := valH kind (scanS l (kind == 32)) l

def digAt (l : List UInt8) (i : Nat) : Int := if i < l.length then ((l.getD i 0).toNat : Int) + 1 else 0
/-- Bytes compared as digits behind a point are. -/
def cmpL (a b : List UInt8) : Int := firstN (max a.length b.length) (fun i => cmpI (digAt a i) (digAt b i))

def cmpSize (v w : Val) : Int := thenC (cmpI v.rank w.rank) (thenC (cmpI v.exp w.exp) (cmpL v.digits w.digits))
def cmpVal (v w : Val) : Int := thenC (cmpI v.cls w.cls) (if v.cls = 64 then cmpSize w v else cmpSize v w)

/-- Months. -/
def mNames : List (List UInt8) := [[106, 97, 110], [102, 101, 98], [109, 97, 114], [97, 112, 114], [109, 97, 121], [106, 117, 110], [106, 117, 108], [97, 117, 103], [115, 101, 112], [111, 99, 116], [110, 111, 118], [100, 101, 99]]
def monthIn (l : List UInt8) : Nat → List (List UInt8) → Nat
  | _, [] => 0
  | n, w :: r => if begB l w then n + 1 else monthIn l (n + 1) r
def monthS (l : List UInt8) : Nat := monthIn (l.dropWhile isBlank) 0 mNames

/-- Versions. -/
def notDig (c : UInt8) : Bool := !isDig c
def plainOf (l : List UInt8) : List UInt8 := l.takeWhile notDig
def digsOf (l : List UInt8) : List UInt8 := (l.dropWhile notDig).takeWhile isDig
def restOf (l : List UInt8) : List UInt8 := (l.dropWhile notDig).dropWhile isDig

def rankB (c : UInt8) : Nat :=
  let n := c.toNat
  if n ≤ 47 then 55 + n else if n ≤ 64 then (103 + n - 58) % 256 else if n ≤ 90 then 3 + (n - 65) else if n ≤ 96 then 110 + (n - 91) else if n ≤ 122 then 29 + (n - 97)
  else if n ≤ 125 then 116 + (n - 123) else if n ≤ 126 then 1 else 119 + (n - 127)
def rankAtS (l : List UInt8) (i : Nat) : Int := if i < l.length then (rankB (l.getD i 0) : Int) else 2
def cmpPlain (a b : List UInt8) : Int := firstN (max a.length b.length) (fun i => cmpI (rankAtS a i) (rankAtS b i))
def cmpNums (a b : List UInt8) : Int :=
  if a = [] ∨ b = [] then cmpI a.length b.length
  else thenC (cmpI (trimL a).length (trimL b).length) (cmpL (trimL a) (trimL b))
def cmpPair (a b : List UInt8) : Int := thenC (cmpPlain (plainOf a) (plainOf b)) (cmpNums (digsOf a) (digsOf b))
/-- What is left behind i pairs. -/
def restN : Nat → List UInt8 → List UInt8
  | 0, l => l
  | n + 1, l => restN n (restOf l)
def cmpVer (a b : List UInt8) : Int := firstN (max a.length b.length) (fun i => cmpPair (restN i a) (restN i b))

/-- Compare. -/
def cmpS (kind : Nat) (a b : List UInt8) : Int :=
  if kind = 16 ∨ kind = 32 ∨ kind = 64 then cmpVal (valS kind a) (valS kind b)
  else if kind = 128 then cmpI (monthS a) (monthS b)
  else if kind = 256 then cmpVer a b
  else cmpL a b
end
end
section
theorem cmpL_is : IsCmp cmpL :=
  IsCmp.ends cmpI_is digAt List.length 0 (fun a i h => by unfold digAt; rw [if_neg (by omega)])
theorem cmpPlain_is : IsCmp cmpPlain :=
  IsCmp.ends cmpI_is rankAtS List.length 2 (fun a i h => by unfold rankAtS; rw [if_neg (by omega)])
theorem cmpSize_is : IsCmp cmpSize :=
  IsCmp.lex (cmpI_is.pull fun v : Val => (v.rank : Int)) (IsCmp.lex (cmpI_is.pull fun v : Val => v.exp) (cmpL_is.pull fun v : Val => v.digits))

theorem cmpI_zero {a b : Int} (h : cmpI a b = 0) : a = b := by
  unfold cmpI at h
  split at h
  · omega
  · split at h <;> omega
theorem cmpVal_is : IsCmp cmpVal := by
  refine IsCmp.ite (cmpI_is.pull fun v : Val => (v.cls : Int)) cmpSize_is.flip cmpSize_is (fun v => v.cls = 64) (fun a b h => ?_)
  have := cmpI_zero h
  omega

/-- An order on the runs of digits: an empty one first. -/
theorem cmpNums_is : IsCmp cmpNums := by
  have e : cmpNums = fun a b => thenC (cmpI (if a = [] then 0 else 1) (if b = [] then 0 else 1)) (if a = [] then (0 : Int) else thenC (cmpI (trimL a).length (trimL b).length) (cmpL (trimL a) (trimL b))) := by
    funext a b
    unfold cmpNums
    cases a <;> cases b <;> simp [cmpI, thenC] <;> omega
  rw [e]
  refine IsCmp.ite (cmpI_is.pull fun a : List UInt8 => if a = [] then (0 : Int) else 1) (d := fun _ _ => 0) (e := fun a b => thenC (cmpI (trimL a).length (trimL b).length) (cmpL (trimL a) (trimL b)))
    ⟨fun _ _ => by omega, fun _ _ => by omega, fun _ _ => by omega, fun _ _ _ _ _ => by omega⟩
    (IsCmp.lex (cmpI_is.pull fun a : List UInt8 => ((trimL a).length : Int)) (cmpL_is.pull trimL)) (fun a => a = []) (fun a b h => ?_)
  have := cmpI_zero h
  constructor
  · intro h; rw [if_pos h] at this; split at this
    · assumption
    · omega
  · intro h; rw [if_pos h] at this; split at this
    · assumption
    · omega
theorem cmpPair_is : IsCmp cmpPair := IsCmp.lex (cmpPlain_is.pull plainOf) (cmpNums_is.pull digsOf)

theorem restN_nil : ∀ n, restN n [] = []
  | 0 => rfl
  | n + 1 => restN_nil n
theorem restOf_lt {l : List UInt8} (h : l ≠ []) : (restOf l).length < l.length := by
  unfold restOf
  have h1 := (List.dropWhile_sublist (l := l) notDig).length_le
  have h2 := (List.dropWhile_sublist (l := l.dropWhile notDig) isDig).length_le
  cases l with
  | nil => exact absurd rfl h
  | cons x r =>
    have h3 := (List.dropWhile_sublist (l := r) notDig).length_le
    have h4 := (List.dropWhile_sublist (l := r) isDig).length_le
    by_cases e : notDig x = true
    · have h5 := (List.dropWhile_sublist (l := r.dropWhile notDig) isDig).length_le
      simp only [List.dropWhile, e, List.length_cons]; omega
    · have d : isDig x = true := by simpa [notDig] using e
      simp only [List.dropWhile, e, d, List.length_cons]; omega
theorem restN_end : ∀ (n : Nat) (l : List UInt8), l.length ≤ n → restN n l = []
  | 0, l, h => by cases l with
    | nil => rfl
    | cons x r => simp at h
  | n + 1, l, h => by
    by_cases e : l = []
    · subst e; exact restN_nil _
    · exact restN_end n (restOf l) (by have := restOf_lt e; omega)
theorem cmpVer_is : IsCmp cmpVer :=
  IsCmp.ends (c := cmpPair) cmpPair_is (fun l i => restN i l) List.length [] (fun a i h => restN_end i a h)

theorem cmpS_is (kind : Nat) : IsCmp (cmpS kind) := by
  by_cases h1 : kind = 16 ∨ kind = 32 ∨ kind = 64
  · have e : cmpS kind = fun a b => cmpVal (valS kind a) (valS kind b) := by funext a b; unfold cmpS; rw [if_pos h1]
    rw [e]; exact cmpVal_is.pull (valS kind)
  · by_cases h2 : kind = 128
    · have e : cmpS kind = fun a b => cmpI (monthS a) (monthS b) := by funext a b; unfold cmpS; rw [if_neg h1, if_pos h2]
      rw [e]; exact cmpI_is.pull (fun l => (monthS l : Int))
    · by_cases h3 : kind = 256
      · have e : cmpS kind = cmpVer := by funext a b; unfold cmpS; rw [if_neg h1, if_neg h2, if_pos h3]
        rw [e]; exact cmpVer_is
      · have e : cmpS kind = cmpL := by funext a b; unfold cmpS; rw [if_neg h1, if_neg h2, if_neg h3]
        rw [e]; exact cmpL_is
end
end
section
theorem thenC_zero (y : Int) : thenC 0 y = y := by simp [thenC]
theorem thenC_ne {x : Int} (h : x ≠ 0) (y : Int) : thenC x y = x := by unfold thenC; rw [if_pos h]
theorem thenC_assoc (x y z : Int) : thenC (thenC x y) z = thenC x (thenC y z) := by
  unfold thenC; by_cases h : x = 0 <;> simp [h]
theorem firstN_head {g : Nat → Int} : ∀ n, firstN (n + 1) g = thenC (g 0) (firstN n (fun i => g (i + 1)))
  | 0 => by simp [firstN, thenC]
  | n + 1 => by
    have ih := firstN_head (g := g) n
    show thenC (firstN (n + 1) g) (g (n + 1)) = thenC (g 0) (thenC (firstN n (fun i => g (i + 1))) (g (n + 1)))
    rw [ih, thenC_assoc]

theorem cmpL_cons (x y : UInt8) (a b : List UInt8) : cmpL (x :: a) (y :: b) = thenC (cmpI x.toNat y.toNat) (cmpL a b) := by
  unfold cmpL
  have e : max (x :: a).length (y :: b).length = max a.length b.length + 1 := by simp only [List.length_cons]; omega
  rw [e, firstN_head]
  congr 1
  · simp [digAt, cmpI]
  · refine firstN_congr _ (fun i _ => ?_)
    simp [digAt]
theorem cmpL_left (y : UInt8) (b : List UInt8) : cmpL [] (y :: b) = -1 := by
  unfold cmpL
  have e : max ([] : List UInt8).length (y :: b).length = b.length + 1 := by simp
  rw [e, firstN_head]
  have : cmpI (digAt [] 0) (digAt (y :: b) 0) = -1 := by
    unfold digAt cmpI; simp; try omega
  rw [this]; rfl
theorem cmpL_right (x : UInt8) (a : List UInt8) : cmpL (x :: a) [] = 1 := by
  have := cmpL_is.anti [] (x :: a)
  rw [this, cmpL_left]; rfl

/-- Digits, and a 0 behind them. -/
theorem sep_digits : ∀ (a b : List UInt8), (∀ x ∈ a, 0 < x.toNat) → (∀ x ∈ b, 0 < x.toNat) → Sep (cmpL a b) (a ++ [0]) (b ++ [0])
  | [], [], _, _ => Sep.same _
  | [], y :: b, _, h => by
    rw [cmpL_left]
    exact Or.inr (Or.inl ⟨rfl, [], 0, y, [], b ++ [0], rfl, rfl, UInt8.lt_iff_toNat_lt.2 (h y (List.mem_cons_self ..))⟩)
  | x :: a, [], h, _ => by
    rw [cmpL_right]
    exact Or.inr (Or.inr ⟨rfl, [], x, 0, a ++ [0], [], rfl, rfl, UInt8.lt_iff_toNat_lt.2 (h x (List.mem_cons_self ..))⟩)
  | x :: a, y :: b, h, k => by
    rw [cmpL_cons]
    exact Sep.app (x := [x]) (y := [y]) (Sep.byte x y) (sep_digits a b (fun z hz => h z (List.mem_cons_of_mem _ hz)) (fun z hz => k z (List.mem_cons_of_mem _ hz)))

/-- The same width: bytes compared alone. -/
theorem sep_width : ∀ (a b : List UInt8), a.length = b.length → Sep (cmpL a b) a b
  | [], [], _ => Sep.nil
  | [], y :: b, h => by simp at h
  | x :: a, [], h => by simp at h
  | x :: a, y :: b, h => by
    rw [cmpL_cons]
    exact Sep.app (x := [x]) (y := [y]) (Sep.byte x y) (sep_width a b (by simpa using h))

/-- The n lowest bytes of a number, the highest first. -/
def beN : Nat → Nat → List UInt8
  | 0, _ => []
  | n + 1, m => UInt8.ofNat (m / 256 ^ n % 256) :: beN n (m % 256 ^ n)

theorem sep_be : ∀ (n a b : Nat), a < 256 ^ n → b < 256 ^ n → Sep (cmpI a b) (beN n a) (beN n b)
  | 0, a, b, ha, hb => by
    have : a = b := by simp at ha hb; omega
    subst this
    have : cmpI a a = 0 := cmpI_is.refl _
    rw [this]; exact Sep.nil
  | n + 1, a, b, ha, hb => by
    have hp : 0 < 256 ^ n := Nat.pow_pos (by omega)
    have ih := sep_be n (a % 256 ^ n) (b % 256 ^ n) (Nat.mod_lt _ hp) (Nat.mod_lt _ hp)
    have qa : a / 256 ^ n < 256 := by rw [Nat.div_lt_iff_lt_mul hp]; rw [Nat.pow_succ] at ha; omega
    have qb : b / 256 ^ n < 256 := by rw [Nat.div_lt_iff_lt_mul hp]; rw [Nat.pow_succ] at hb; omega
    have h := Sep.app (Sep.byte (UInt8.ofNat (a / 256 ^ n % 256)) (UInt8.ofNat (b / 256 ^ n % 256))) ih
    have e : cmpI (a : Int) (b : Int) = thenC (cmpI ((UInt8.ofNat (a / 256 ^ n % 256)).toNat : Int) ((UInt8.ofNat (b / 256 ^ n % 256)).toNat : Int)) (cmpI ((a % 256 ^ n : Nat) : Int) ((b % 256 ^ n : Nat) : Int)) := by
      have ta : (UInt8.ofNat (a / 256 ^ n % 256)).toNat = a / 256 ^ n := by simp; omega
      have tb : (UInt8.ofNat (b / 256 ^ n % 256)).toNat = b / 256 ^ n := by simp; omega
      rw [ta, tb]
      have da := Nat.div_add_mod a (256 ^ n)
      have db := Nat.div_add_mod b (256 ^ n)
      have ma := Nat.mod_lt a hp
      have mb := Nat.mod_lt b hp
      generalize 256 ^ n = p at *
      generalize a / p = u at *
      generalize b / p = v at *
      generalize a % p = r at *
      generalize b % p = t at *
      by_cases c1 : u < v
      · have := Nat.mul_le_mul_left p (show u + 1 ≤ v from c1)
        rw [Nat.mul_add, Nat.mul_one] at this
        unfold cmpI
        rw [if_pos (show (a : Int) < b by omega), if_pos (show (u : Int) < v by omega)]; rfl
      · by_cases c2 : v < u
        · have := Nat.mul_le_mul_left p (show v + 1 ≤ u from c2)
          rw [Nat.mul_add, Nat.mul_one] at this
          unfold cmpI
          rw [if_neg (show ¬ (a : Int) < b by omega), if_pos (show (b : Int) < a by omega), if_neg (show ¬ (u : Int) < v by omega), if_pos (show (v : Int) < u by omega)]; rfl
        · have e : u = v := by omega
          subst e
          have : cmpI (u : Int) (u : Int) = 0 := cmpI_is.refl _
          rw [this, thenC_zero]
          unfold cmpI
          by_cases c3 : r < t
          · rw [if_pos (show (a : Int) < b by omega), if_pos (show (r : Int) < t by omega)]
          · rw [if_neg (show ¬ (a : Int) < b by omega), if_neg (show ¬ (r : Int) < t by omega)]
            by_cases c4 : t < r
            · rw [if_pos (show (b : Int) < a by omega), if_pos (show (t : Int) < r by omega)]
            · rw [if_neg (show ¬ (b : Int) < a by omega), if_neg (show ¬ (t : Int) < r by omega)]
    rw [e]; exact h

/-- Ranks, and the end's own behind them. -/
theorem rankB_ne {c : UInt8} (_ : notDig c = true) : rankB c ≠ 2 := by
  have hc := c.toNat_lt
  unfold rankB
  simp only
  split
  · omega
  split
  · rename_i h1 h2; omega
  split
  · omega
  split
  · omega
  split
  · omega
  split
  · omega
  split
  · omega
  · omega
theorem rankB_lt (c : UInt8) : rankB c < 256 := by
  have hc := c.toNat_lt
  unfold rankB
  simp only
  repeat' split
  all_goals omega
theorem rankB_byte (c : UInt8) : (UInt8.ofNat (rankB c)).toNat = rankB c := by
  have := rankB_lt c
  simp; omega
theorem cmpPlain_cons (x y : UInt8) (a b : List UInt8) : cmpPlain (x :: a) (y :: b) = thenC (cmpI (rankB x) (rankB y)) (cmpPlain a b) := by
  unfold cmpPlain
  have e : max (x :: a).length (y :: b).length = max a.length b.length + 1 := by simp only [List.length_cons]; omega
  rw [e, firstN_head]
  congr 1
  refine firstN_congr _ (fun i _ => ?_)
  simp [rankAtS]
theorem cmpPlain_left (y : UInt8) (b : List UInt8) : cmpPlain [] (y :: b) = thenC (cmpI 2 (rankB y)) (cmpPlain [] b) := by
  unfold cmpPlain
  have e : max ([] : List UInt8).length (y :: b).length = b.length + 1 := by simp
  have e' : max ([] : List UInt8).length b.length = b.length := by simp
  rw [e, e', firstN_head]
  congr 1
  refine firstN_congr _ (fun i _ => ?_)
  simp [rankAtS]
theorem sep_plain_left (y : UInt8) (b : List UInt8) (hy : notDig y = true) : Sep (cmpPlain [] (y :: b)) [2] ((y :: b).map (fun c => UInt8.ofNat (rankB c)) ++ [2]) := by
  have hr := rankB_ne hy
  have s := Sep.byte 2 (UInt8.ofNat (rankB y))
  rw [rankB_byte y] at s
  have s' : Sep (cmpI 2 (rankB y)) [2] [UInt8.ofNat (rankB y)] := s
  have ne : cmpI 2 (rankB y) ≠ 0 := fun h => hr (by have := cmpI_zero h; omega)
  rw [cmpPlain_left, thenC_ne ne]
  exact s'.more ne [] (b.map (fun c => UInt8.ofNat (rankB c)) ++ [2])
theorem sep_plain : ∀ (a b : List UInt8), (∀ x ∈ a, notDig x = true) → (∀ x ∈ b, notDig x = true) → Sep (cmpPlain a b) (a.map (fun c => UInt8.ofNat (rankB c)) ++ [2]) (b.map (fun c => UInt8.ofNat (rankB c)) ++ [2])
  | [], [], _, _ => Sep.same _
  | [], y :: b, _, h => sep_plain_left y b (h y (List.mem_cons_self ..))
  | x :: a, [], h, _ => by
    rw [cmpPlain_is.anti [] (x :: a)]
    exact (sep_plain_left x a (h x (List.mem_cons_self ..))).swap
  | x :: a, y :: b, h, k => by
    rw [cmpPlain_cons, ← rankB_byte x, ← rankB_byte y]
    exact Sep.app (x := [_]) (y := [_]) (Sep.byte _ _) (sep_plain a b (fun z hz => h z (List.mem_cons_of_mem _ hz)) (fun z hz => k z (List.mem_cons_of_mem _ hz)))

/-- A run of digits. -/
def numsE (d : List UInt8) : List UInt8 := if d = [] then [0] else [1] ++ (beN 8 (trimL d).length ++ trimL d)
theorem trimL_le (d : List UInt8) : (trimL d).length ≤ d.length := by
  unfold trimL Lib.trimLeftS
  exact (List.dropWhile_sublist _).length_le
theorem sep_nums (a b : List UInt8) (ha : a.length < 2 ^ 64) (hb : b.length < 2 ^ 64) : Sep (cmpNums a b) (numsE a) (numsE b) := by
  have ta := trimL_le a
  have tb := trimL_le b
  have e64 : (256 : Nat) ^ 8 = 2 ^ 64 := by decide
  unfold cmpNums numsE
  by_cases h1 : a = []
  · by_cases h2 : b = []
    · subst h1 h2; exact Sep.same _
    · rw [if_pos (Or.inl h1), if_pos h1, if_neg h2]
      have : cmpI (a.length : Int) b.length = -1 := by
        have : 0 < b.length := List.length_pos_iff.2 h2
        subst h1; unfold cmpI; rw [if_pos (by simp; omega)]
      rw [this]
      exact Or.inr (Or.inl ⟨rfl, [], 0, 1, [], _, rfl, rfl, by decide⟩)
  · by_cases h2 : b = []
    · rw [if_pos (Or.inr h2), if_neg h1, if_pos h2]
      have : cmpI (a.length : Int) b.length = 1 := by
        have : 0 < a.length := List.length_pos_iff.2 h1
        subst h2; unfold cmpI; rw [if_neg (by simp), if_pos (by simp; omega)]
      rw [this]
      exact Or.inr (Or.inr ⟨rfl, [], 1, 0, _, [], rfl, rfl, by decide⟩)
    · rw [if_neg (by simp [h1, h2]), if_neg h1, if_neg h2, ← thenC_zero (thenC _ _)]
      refine Sep.app (Sep.same [1]) ?_
      by_cases e : (trimL a).length = (trimL b).length
      · exact Sep.app (sep_be 8 _ _ (by omega) (by omega)) (sep_width _ _ e)
      · have ne : cmpI ((trimL a).length : Int) (trimL b).length ≠ 0 := fun h => e (by have := cmpI_zero h; omega)
        have : thenC (cmpI ((trimL a).length : Int) (trimL b).length) (cmpL (trimL a) (trimL b)) = cmpI ((trimL a).length : Int) (trimL b).length := by
          unfold thenC; rw [if_pos ne]
        rw [this]
        exact (sep_be 8 _ _ (by omega) (by omega)).more ne _ _

/-- Versions. -/
def pairE (l : List UInt8) : List UInt8 := ((plainOf l).map (fun c => UInt8.ofNat (rankB c)) ++ [2]) ++ numsE (digsOf l)
/-- The pairs of l, at most n of them, and an empty one behind. -/
def verN : Nat → List UInt8 → List UInt8
  | 0, _ => [2, 0]
  | n + 1, l => if l = [] then [2, 0] else pairE l ++ verN n (restOf l)
theorem mem_takeWhile {p : UInt8 → Bool} : ∀ {l : List UInt8} {x : UInt8}, x ∈ l.takeWhile p → p x = true
  | [], _, h => by simp at h
  | y :: l, x, h => by
    by_cases e : p y = true
    · simp only [List.takeWhile, e, List.mem_cons] at h
      rcases h with rfl | h
      · exact e
      · exact mem_takeWhile h
    · simp [List.takeWhile, e] at h
theorem digsOf_le (l : List UInt8) : (digsOf l).length ≤ l.length := by
  unfold digsOf
  have h1 := (List.dropWhile_sublist (l := l) notDig).length_le
  have h2 := (List.takeWhile_sublist (l := l.dropWhile notDig) isDig).length_le
  omega
theorem sep_pair (a b : List UInt8) (ha : a.length < 2 ^ 64) (hb : b.length < 2 ^ 64) : Sep (cmpPair a b) (pairE a) (pairE b) :=
  Sep.app (sep_plain _ _ (fun _ h => mem_takeWhile h) (fun _ h => mem_takeWhile h)) (sep_nums _ _ (by have := digsOf_le a; omega) (by have := digsOf_le b; omega))
theorem cmpVer_step (a b : List UInt8) (h : a ≠ [] ∨ b ≠ []) : cmpVer a b = thenC (cmpPair a b) (cmpVer (restOf a) (restOf b)) := by
  have h0 : 0 < max a.length b.length := by
    rcases h with h | h
    · have := List.length_pos_iff.2 h; omega
    · have := List.length_pos_iff.2 h; omega
  obtain ⟨n, hn⟩ : ∃ n, max a.length b.length = n + 1 := ⟨max a.length b.length - 1, by omega⟩
  have k : ∀ l : List UInt8, l.length ≤ n + 1 → (restOf l).length ≤ n := fun l hl => by
    by_cases e : l = []
    · subst e; simp [restOf]
    · have := restOf_lt e; omega
  unfold cmpVer
  rw [hn, firstN_head]
  congr 1
  have ka := k a (by omega)
  have kb := k b (by omega)
  refine (firstN_more (max (restOf a).length (restOf b).length) n (by omega) (fun i hi => ?_))
  show cmpPair (restN i (restOf a)) (restN i (restOf b)) = 0
  rw [restN_end i _ (by omega), restN_end i _ (by omega)]
  exact cmpPair_is.refl _
/-- Of two, one of which has ended: the empty pair stands for it. -/
theorem sep_ver : ∀ (n m : Nat) (a b : List UInt8), a.length ≤ n → b.length ≤ m → a.length < 2 ^ 64 → b.length < 2 ^ 64 → Sep (cmpVer a b) (verN n a) (verN m b)
  | n, m, a, b, hn, hm, ha, hb => by
    by_cases h : a ≠ [] ∨ b ≠ []
    · have sp := sep_pair a b ha hb
      rw [cmpVer_step a b h]
      by_cases ea : a = []
      · subst ea
        have hbn : b ≠ [] := by rcases h with h | h; exact absurd rfl h; exact h
        obtain ⟨m', rfl⟩ : ∃ m', m = m' + 1 := ⟨m - 1, by have := List.length_pos_iff.2 hbn; omega⟩
        have e1 : verN n ([] : List UInt8) = pairE [] := by cases n <;> rfl
        have e2 : verN (m' + 1) b = pairE b ++ verN m' (restOf b) := by simp only [verN, if_neg hbn]
        have ne : cmpPair [] b ≠ 0 := by
          cases b with
          | nil => exact absurd rfl hbn
          | cons y b =>
            intro hz
            have hz' : thenC (cmpPlain (plainOf []) (plainOf (y :: b))) (cmpNums (digsOf []) (digsOf (y :: b))) = 0 := hz
            by_cases hy : notDig y = true
            · have : plainOf (y :: b) = y :: plainOf b := by simp [plainOf, List.takeWhile, hy]
              rw [this] at hz'
              have r := rankB_ne hy
              have : cmpPlain (plainOf []) (y :: plainOf b) ≠ 0 := by
                show cmpPlain [] (y :: plainOf b) ≠ 0
                rw [cmpPlain_left]
                have ne : cmpI 2 (rankB y) ≠ 0 := fun h => r (by have := cmpI_zero h; omega)
                rw [thenC_ne ne]
                exact ne
              rw [thenC_ne this] at hz'
              exact this hz'
            · have hd : isDig y = true := by simpa [notDig] using hy
              have e3 : plainOf (y :: b) = [] := by simp [plainOf, List.takeWhile, hy]
              have e4 : digsOf (y :: b) = y :: b.takeWhile isDig := by simp [digsOf, List.dropWhile, hy, hd]
              rw [e3, e4] at hz'
              have : thenC (cmpPlain (plainOf []) []) (cmpNums (digsOf []) (y :: b.takeWhile isDig)) = -1 := by
                show thenC (cmpPlain [] []) (cmpNums [] (y :: b.takeWhile isDig)) = -1
                have : cmpPlain [] [] = 0 := rfl
                rw [this, thenC_zero]
                unfold cmpNums
                rw [if_pos (Or.inl rfl)]
                unfold cmpI
                rw [if_pos (by simp; try omega)]
              omega
        rw [e1, e2]
        have e3 : thenC (cmpPair [] b) (cmpVer (restOf []) (restOf b)) = cmpPair [] b := by unfold thenC; rw [if_pos ne]
        rw [e3]
        simpa using sp.more ne [] (verN m' (restOf b))
      · obtain ⟨n', rfl⟩ : ∃ n', n = n' + 1 := ⟨n - 1, by have := List.length_pos_iff.2 ea; omega⟩
        by_cases eb : b = []
        · subst eb
          have s := sep_ver m (n' + 1) [] a (by simp) hn hb ha
          rw [cmpVer_is.anti a []] at s
          have s' := s.swap
          rw [Int.neg_neg] at s'
          rw [← cmpVer_step a [] h]
          exact s'
        · obtain ⟨m', rfl⟩ : ∃ m', m = m' + 1 := ⟨m - 1, by have := List.length_pos_iff.2 eb; omega⟩
          have e1 : verN (n' + 1) a = pairE a ++ verN n' (restOf a) := by simp only [verN, if_neg ea]
          have e2 : verN (m' + 1) b = pairE b ++ verN m' (restOf b) := by simp only [verN, if_neg eb]
          have la := restOf_lt ea
          have lb := restOf_lt eb
          rw [e1, e2]
          exact Sep.app sp (sep_ver n' m' (restOf a) (restOf b) (by omega) (by omega) (by omega) (by omega))
    · have e1 : a = [] := Classical.byContradiction fun e => h (Or.inl e)
      have e2 : b = [] := Classical.byContradiction fun e => h (Or.inr e)
      subst e1 e2
      have e3 : verN n ([] : List UInt8) = [2, 0] := by cases n <;> rfl
      have e4 : verN m ([] : List UInt8) = [2, 0] := by cases m <;> rfl
      rw [e3, e4]
      exact Sep.same _
termination_by _ _ a b => (if a = [] then 0 else 1) + 2 * (a.length + b.length)
decreasing_by
  · subst eb; simp [ea]
    try omega
  · split <;> omega

/-- Escaped bytes. -/
def escB (c : UInt8) : List UInt8 := if c.toNat ≤ 1 then [1, c + 1] else [c]
def escS (l : List UInt8) : List UInt8 := l.flatMap escB ++ [0]
theorem escB_pos (c : UInt8) : ∃ u r, escB c = u :: r ∧ 0 < u.toNat := by
  unfold escB
  by_cases h : c.toNat ≤ 1
  · exact ⟨1, [c + 1], by rw [if_pos h], by decide⟩
  · exact ⟨c, [], by rw [if_neg h], by omega⟩
theorem sep_escB (x y : UInt8) : Sep (cmpI x.toNat y.toNat) (escB x) (escB y) := by
  by_cases hx : x.toNat ≤ 1
  · by_cases hy : y.toNat ≤ 1
    · have ex : (x + 1).toNat = x.toNat + 1 := by rw [UInt8.toNat_add]; simp; omega
      have ey : (y + 1).toNat = y.toNat + 1 := by rw [UInt8.toNat_add]; simp; omega
      unfold escB
      rw [if_pos hx, if_pos hy]
      have s := Sep.app (Sep.same [1]) (Sep.byte (x + 1) (y + 1))
      rw [thenC_zero, ex, ey] at s
      have : cmpI ((x.toNat + 1 : Nat) : Int) ((y.toNat + 1 : Nat) : Int) = cmpI x.toNat y.toNat := by unfold cmpI; simp
      rw [this] at s
      exact s
    · unfold escB
      rw [if_pos hx, if_neg hy]
      have : cmpI (x.toNat : Int) y.toNat = -1 := by unfold cmpI; rw [if_pos (by omega)]
      rw [this]
      exact Or.inr (Or.inl ⟨rfl, [], 1, y, [x + 1], [], rfl, rfl, UInt8.lt_iff_toNat_lt.2 (by simp; omega)⟩)
  · by_cases hy : y.toNat ≤ 1
    · unfold escB
      rw [if_neg hx, if_pos hy]
      have : cmpI (x.toNat : Int) y.toNat = 1 := by unfold cmpI; rw [if_neg (by omega), if_pos (by omega)]
      rw [this]
      exact Or.inr (Or.inr ⟨rfl, [], x, 1, [], [y + 1], rfl, rfl, UInt8.lt_iff_toNat_lt.2 (by simp; omega)⟩)
    · unfold escB
      rw [if_neg hx, if_neg hy]
      exact Sep.byte x y
theorem sep_esc : ∀ (a b : List UInt8), Sep (cmpL a b) (escS a) (escS b)
  | [], [] => Sep.same _
  | [], y :: b => by
    obtain ⟨u, r, e, hu⟩ := escB_pos y
    rw [cmpL_left]
    refine Or.inr (Or.inl ⟨rfl, [], 0, u, [], r ++ escS b, rfl, ?_, UInt8.lt_iff_toNat_lt.2 hu⟩)
    simp [escS, e]
  | x :: a, [] => by
    obtain ⟨u, r, e, hu⟩ := escB_pos x
    rw [cmpL_right]
    refine Or.inr (Or.inr ⟨rfl, [], u, 0, r ++ escS a, [], ?_, rfl, UInt8.lt_iff_toNat_lt.2 hu⟩)
    simp [escS, e]
  | x :: a, y :: b => by
    have h := Sep.app (sep_escB x y) (sep_esc a b)
    rw [cmpL_cons]
    simpa [escS] using h

/-- Values. -/
def sizeE (h : Bool) (v : Val) : List UInt8 := (if h then [UInt8.ofNat v.rank] else []) ++ (beN 8 (v.exp + 4611686018427387904).toNat ++ (v.digits ++ [0]))
def valE (h : Bool) (v : Val) : List UInt8 :=
  if v.cls = 96 then UInt8.ofNat v.cls :: sizeE h v
  else if v.cls = 64 then UInt8.ofNat v.cls :: (sizeE h v).map (255 - ·)
  else [UInt8.ofNat v.cls]
/-- What a value's parts keep to. -/
structure ValOk (h : Bool) (v : Val) : Prop where
  cls : v.cls ≤ 255
  rank : v.rank ≤ 255
  norank : h = false → v.rank = 0
  explo : -4611686018427387904 ≤ v.exp
  exphi : v.exp < 4611686018427387904
  digs : ∀ x ∈ v.digits, 0 < x.toNat
  none : v.cls ≠ 96 → v.cls ≠ 64 → v.rank = 0 ∧ v.exp = 0 ∧ v.digits = []
theorem sep_size {h : Bool} {v w : Val} (hv : ValOk h v) (hw : ValOk h w) : Sep (cmpSize v w) (sizeE h v) (sizeE h w) := by
  have a1 := hv.explo; have a2 := hv.exphi; have b1 := hw.explo; have b2 := hw.exphi
  have sb := sep_be 8 (v.exp + 4611686018427387904).toNat (w.exp + 4611686018427387904).toNat (by omega) (by omega)
  have e : cmpI ((v.exp + 4611686018427387904).toNat : Int) ((w.exp + 4611686018427387904).toNat : Int) = cmpI v.exp w.exp := by
    unfold cmpI
    by_cases c1 : v.exp < w.exp
    · rw [if_pos (by omega), if_pos c1]
    · rw [if_neg (by omega), if_neg c1]
      by_cases c2 : w.exp < v.exp
      · rw [if_pos (by omega), if_pos c2]
      · rw [if_neg (by omega), if_neg c2]
  rw [e] at sb
  unfold cmpSize sizeE
  refine Sep.app ?_ (Sep.app sb (sep_digits _ _ hv.digs hw.digs))
  cases h with
  | true =>
    have s := Sep.byte (UInt8.ofNat v.rank) (UInt8.ofNat w.rank)
    have e1 : (UInt8.ofNat v.rank).toNat = v.rank := by have := hv.rank; simp; omega
    have e2 : (UInt8.ofNat w.rank).toNat = w.rank := by have := hw.rank; simp; omega
    rw [e1, e2] at s
    exact s
  | false =>
    rw [hv.norank rfl, hw.norank rfl]
    exact Sep.nil
theorem sep_val {h : Bool} {v w : Val} (hv : ValOk h v) (hw : ValOk h w) : Sep (cmpVal v w) (valE h v) (valE h w) := by
  have sc := Sep.byte (UInt8.ofNat v.cls) (UInt8.ofNat w.cls)
  have e1 : (UInt8.ofNat v.cls).toNat = v.cls := by have := hv.cls; simp; omega
  have e2 : (UInt8.ofNat w.cls).toNat = w.cls := by have := hw.cls; simp; omega
  rw [e1, e2] at sc
  have hd : ∀ u : Val, ∃ r, valE h u = [UInt8.ofNat u.cls] ++ r := fun u => by
    unfold valE
    split
    · exact ⟨_, rfl⟩
    · split
      · exact ⟨_, rfl⟩
      · exact ⟨[], rfl⟩
  unfold cmpVal
  by_cases e : v.cls = w.cls
  · have z : cmpI (v.cls : Int) w.cls = 0 := by rw [e]; exact cmpI_is.refl _
    rw [z] at sc ⊢
    by_cases c64 : v.cls = 64
    · rw [if_pos c64]
      have ev : valE h v = [UInt8.ofNat v.cls] ++ (sizeE h v).map (255 - ·) := by unfold valE; rw [if_neg (by omega), if_pos c64]; rfl
      have ew : valE h w = [UInt8.ofNat w.cls] ++ (sizeE h w).map (255 - ·) := by unfold valE; rw [if_neg (by omega), if_pos (by omega)]; rfl
      rw [ev, ew]
      have t := (sep_size hw hv).turn.swap
      rw [Int.neg_neg] at t
      exact Sep.app sc t
    · rw [if_neg c64]
      by_cases c96 : v.cls = 96
      · have ev : valE h v = [UInt8.ofNat v.cls] ++ sizeE h v := by unfold valE; rw [if_pos c96]; rfl
        have ew : valE h w = [UInt8.ofNat w.cls] ++ sizeE h w := by unfold valE; rw [if_pos (by omega)]; rfl
        rw [ev, ew]
        exact Sep.app sc (sep_size hv hw)
      · have ev : valE h v = [UInt8.ofNat v.cls] := by unfold valE; rw [if_neg c96, if_neg c64]
        have ew : valE h w = [UInt8.ofNat w.cls] := by unfold valE; rw [if_neg (by omega), if_neg (by omega)]
        obtain ⟨r1, x1, d1⟩ := hv.none c96 c64
        obtain ⟨r2, x2, d2⟩ := hw.none (by omega) (by omega)
        have : cmpSize v w = 0 := by
          unfold cmpSize
          rw [r1, r2, x1, x2, d1, d2]; rfl
        rw [this, ev, ew, thenC_zero]
        exact sc
  · have ne : cmpI (v.cls : Int) w.cls ≠ 0 := fun h => e (by have := cmpI_zero h; omega)
    obtain ⟨r1, x1⟩ := hd v
    obtain ⟨r2, x2⟩ := hd w
    rw [x1, x2]
    have : thenC (cmpI (v.cls : Int) w.cls) (if v.cls = 64 then cmpSize w v else cmpSize v w) = cmpI (v.cls : Int) w.cls := by
      conv => lhs; unfold thenC
      rw [if_pos ne]
    rw [this]
    exact sc.more ne r1 r2

/-- Embed. -/
def embS (kind : Nat) (l : List UInt8) : List UInt8 :=
  if kind = 16 ∨ kind = 32 ∨ kind = 64 then valE (kind == 64) (valS kind l)
  else if kind = 128 then [UInt8.ofNat (monthS l)]
  else if kind = 256 then verN l.length l
  else escS l
end
end Go.Proofs.YtnpnccjeapejdaaGreatDoor.Num
