/- Embed turns the order of each kind into the bytewise one: the plain mathematics. No program is named. -/
import Derived.Test.YtpbbgmfjdachnaaDoorOrder
namespace Go.Proofs.YtpbbgmfjdachnaaDoor

theorem thenC_zero (y : Int) : thenC 0 y = y := by simp [thenC]
theorem thenC_right (x : Int) : thenC x 0 = x := by unfold thenC; split <;> omega
theorem thenC_ne {x : Int} (h : x ≠ 0) (y : Int) : thenC x y = x := by unfold thenC; rw [if_pos h]
theorem thenC_assoc (x y z : Int) : thenC (thenC x y) z = thenC x (thenC y z) := by
  unfold thenC; by_cases h : x = 0 <;> simp [h]
theorem firstN_head {g : Nat → Int} : ∀ n, firstN (n + 1) g = thenC (g 0) (firstN n (fun i => g (i + 1)))
  | 0 => by simp [firstN, thenC]
  | n + 1 => by
    have ih := firstN_head (g := g) n
    show thenC (firstN (n + 1) g) (g (n + 1)) = thenC (g 0) (thenC (firstN n (fun i => g (i + 1))) (g (n + 1)))
    rw [ih, thenC_assoc]

theorem cmpL_nil : cmpL [] [] = 0 := rfl
theorem cmpL_cons (x y : UInt8) (a b : List UInt8) : cmpL (x :: a) (y :: b) = thenC (cmpI x.toNat y.toNat) (cmpL a b) := by
  unfold cmpL
  have e : max (x :: a).length (y :: b).length = max a.length b.length + 1 := by simp only [List.length_cons]; omega
  rw [e, firstN_head]
  congr 1
  · simp [digAt, cmpI]
  · refine firstN_congr _ (fun i _ => ?_)
    simp [digAt]
theorem cmpL_left (y : UInt8) (b : List UInt8) : cmpL [] (y :: b) = -1 := by
  unfold cmpL
  have e : max ([] : List UInt8).length (y :: b).length = b.length + 1 := by simp
  rw [e, firstN_head]
  have : cmpI (digAt [] 0) (digAt (y :: b) 0) = -1 := by
    unfold digAt cmpI; simp; try omega
  rw [this]; rfl
theorem cmpL_right (x : UInt8) (a : List UInt8) : cmpL (x :: a) [] = 1 := by
  have := cmpL_is.anti [] (x :: a)
  rw [this, cmpL_left]; rfl

/-- Digits, and a 0 behind them. -/
theorem sep_digits : ∀ (a b : List UInt8), (∀ x ∈ a, 0 < x.toNat) → (∀ x ∈ b, 0 < x.toNat) → Sep (cmpL a b) (a ++ [0]) (b ++ [0])
  | [], [], _, _ => Sep.same _
  | [], y :: b, _, h => by
    rw [cmpL_left]
    exact Or.inr (Or.inl ⟨rfl, [], 0, y, [], b ++ [0], rfl, rfl, UInt8.lt_iff_toNat_lt.2 (h y (List.mem_cons_self ..))⟩)
  | x :: a, [], h, _ => by
    rw [cmpL_right]
    exact Or.inr (Or.inr ⟨rfl, [], x, 0, a ++ [0], [], rfl, rfl, UInt8.lt_iff_toNat_lt.2 (h x (List.mem_cons_self ..))⟩)
  | x :: a, y :: b, h, k => by
    rw [cmpL_cons]
    exact Sep.app (x := [x]) (y := [y]) (Sep.byte x y) (sep_digits a b (fun z hz => h z (List.mem_cons_of_mem _ hz)) (fun z hz => k z (List.mem_cons_of_mem _ hz)))

/-- The same width: bytes compared alone. -/
theorem sep_width : ∀ (a b : List UInt8), a.length = b.length → Sep (cmpL a b) a b
  | [], [], _ => Sep.nil
  | [], y :: b, h => by simp at h
  | x :: a, [], h => by simp at h
  | x :: a, y :: b, h => by
    rw [cmpL_cons]
    exact Sep.app (x := [x]) (y := [y]) (Sep.byte x y) (sep_width a b (by simpa using h))

/-- The n lowest bytes of a number, the highest first. -/
def beN : Nat → Nat → List UInt8
  | 0, _ => []
  | n + 1, m => UInt8.ofNat (m / 256 ^ n % 256) :: beN n (m % 256 ^ n)

theorem sep_be : ∀ (n a b : Nat), a < 256 ^ n → b < 256 ^ n → Sep (cmpI a b) (beN n a) (beN n b)
  | 0, a, b, ha, hb => by
    have : a = b := by simp at ha hb; omega
    subst this
    have : cmpI a a = 0 := cmpI_is.refl _
    rw [this]; exact Sep.nil
  | n + 1, a, b, ha, hb => by
    have hp : 0 < 256 ^ n := Nat.pow_pos (by omega)
    have ih := sep_be n (a % 256 ^ n) (b % 256 ^ n) (Nat.mod_lt _ hp) (Nat.mod_lt _ hp)
    have qa : a / 256 ^ n < 256 := by rw [Nat.div_lt_iff_lt_mul hp]; rw [Nat.pow_succ] at ha; omega
    have qb : b / 256 ^ n < 256 := by rw [Nat.div_lt_iff_lt_mul hp]; rw [Nat.pow_succ] at hb; omega
    have h := Sep.app (Sep.byte (UInt8.ofNat (a / 256 ^ n % 256)) (UInt8.ofNat (b / 256 ^ n % 256))) ih
    have e : cmpI (a : Int) (b : Int) = thenC (cmpI ((UInt8.ofNat (a / 256 ^ n % 256)).toNat : Int) ((UInt8.ofNat (b / 256 ^ n % 256)).toNat : Int)) (cmpI ((a % 256 ^ n : Nat) : Int) ((b % 256 ^ n : Nat) : Int)) := by
      have ta : (UInt8.ofNat (a / 256 ^ n % 256)).toNat = a / 256 ^ n := by simp; omega
      have tb : (UInt8.ofNat (b / 256 ^ n % 256)).toNat = b / 256 ^ n := by simp; omega
      rw [ta, tb]
      have da := Nat.div_add_mod a (256 ^ n)
      have db := Nat.div_add_mod b (256 ^ n)
      have ma := Nat.mod_lt a hp
      have mb := Nat.mod_lt b hp
      generalize 256 ^ n = p at *
      generalize a / p = u at *
      generalize b / p = v at *
      generalize a % p = r at *
      generalize b % p = t at *
      by_cases c1 : u < v
      · have := Nat.mul_le_mul_left p (show u + 1 ≤ v from c1)
        rw [Nat.mul_add, Nat.mul_one] at this
        unfold cmpI
        rw [if_pos (show (a : Int) < b by omega), if_pos (show (u : Int) < v by omega)]; rfl
      · by_cases c2 : v < u
        · have := Nat.mul_le_mul_left p (show v + 1 ≤ u from c2)
          rw [Nat.mul_add, Nat.mul_one] at this
          unfold cmpI
          rw [if_neg (show ¬ (a : Int) < b by omega), if_pos (show (b : Int) < a by omega), if_neg (show ¬ (u : Int) < v by omega), if_pos (show (v : Int) < u by omega)]; rfl
        · have e : u = v := by omega
          subst e
          have : cmpI (u : Int) (u : Int) = 0 := cmpI_is.refl _
          rw [this, thenC_zero]
          unfold cmpI
          by_cases c3 : r < t
          · rw [if_pos (show (a : Int) < b by omega), if_pos (show (r : Int) < t by omega)]
          · rw [if_neg (show ¬ (a : Int) < b by omega), if_neg (show ¬ (r : Int) < t by omega)]
            by_cases c4 : t < r
            · rw [if_pos (show (b : Int) < a by omega), if_pos (show (t : Int) < r by omega)]
            · rw [if_neg (show ¬ (b : Int) < a by omega), if_neg (show ¬ (t : Int) < r by omega)]
    rw [e]; exact h

/-- Ranks, and the end's own behind them. -/
theorem rankB_ne {c : UInt8} (_ : notDig c = true) : rankB c ≠ 2 := by
  have hc := c.toNat_lt
  unfold rankB
  simp only
  split
  · omega
  split
  · rename_i h1 h2; omega
  split
  · omega
  split
  · omega
  split
  · omega
  split
  · omega
  split
  · omega
  · omega
theorem rankB_lt (c : UInt8) : rankB c < 256 := by
  have hc := c.toNat_lt
  unfold rankB
  simp only
  repeat' split
  all_goals omega
theorem rankB_byte (c : UInt8) : (UInt8.ofNat (rankB c)).toNat = rankB c := by
  have := rankB_lt c
  simp; omega
theorem cmpPlain_cons (x y : UInt8) (a b : List UInt8) : cmpPlain (x :: a) (y :: b) = thenC (cmpI (rankB x) (rankB y)) (cmpPlain a b) := by
  unfold cmpPlain
  have e : max (x :: a).length (y :: b).length = max a.length b.length + 1 := by simp only [List.length_cons]; omega
  rw [e, firstN_head]
  congr 1
  refine firstN_congr _ (fun i _ => ?_)
  simp [rankAtS]
theorem cmpPlain_left (y : UInt8) (b : List UInt8) : cmpPlain [] (y :: b) = thenC (cmpI 2 (rankB y)) (cmpPlain [] b) := by
  unfold cmpPlain
  have e : max ([] : List UInt8).length (y :: b).length = b.length + 1 := by simp
  have e' : max ([] : List UInt8).length b.length = b.length := by simp
  rw [e, e', firstN_head]
  congr 1
  refine firstN_congr _ (fun i _ => ?_)
  simp [rankAtS]
theorem sep_plain_left (y : UInt8) (b : List UInt8) (hy : notDig y = true) : Sep (cmpPlain [] (y :: b)) [2] ((y :: b).map (fun c => UInt8.ofNat (rankB c)) ++ [2]) := by
  have hr := rankB_ne hy
  have s := Sep.byte 2 (UInt8.ofNat (rankB y))
  rw [rankB_byte y] at s
  have s' : Sep (cmpI 2 (rankB y)) [2] [UInt8.ofNat (rankB y)] := s
  have ne : cmpI 2 (rankB y) ≠ 0 := fun h => hr (by have := cmpI_zero h; omega)
  rw [cmpPlain_left, thenC_ne ne]
  exact s'.more ne [] (b.map (fun c => UInt8.ofNat (rankB c)) ++ [2])
theorem sep_plain : ∀ (a b : List UInt8), (∀ x ∈ a, notDig x = true) → (∀ x ∈ b, notDig x = true) → Sep (cmpPlain a b) (a.map (fun c => UInt8.ofNat (rankB c)) ++ [2]) (b.map (fun c => UInt8.ofNat (rankB c)) ++ [2])
  | [], [], _, _ => Sep.same _
  | [], y :: b, _, h => sep_plain_left y b (h y (List.mem_cons_self ..))
  | x :: a, [], h, _ => by
    rw [cmpPlain_is.anti [] (x :: a)]
    exact (sep_plain_left x a (h x (List.mem_cons_self ..))).swap
  | x :: a, y :: b, h, k => by
    rw [cmpPlain_cons, ← rankB_byte x, ← rankB_byte y]
    exact Sep.app (x := [_]) (y := [_]) (Sep.byte _ _) (sep_plain a b (fun z hz => h z (List.mem_cons_of_mem _ hz)) (fun z hz => k z (List.mem_cons_of_mem _ hz)))

/-- A run of digits. -/
def numsE (d : List UInt8) : List UInt8 := if d = [] then [0] else [1] ++ (beN 8 (trimL d).length ++ trimL d)
theorem trimL_le (d : List UInt8) : (trimL d).length ≤ d.length := by
  unfold trimL Lib.trimLeftS
  exact (List.dropWhile_sublist _).length_le
theorem sep_nums (a b : List UInt8) (ha : a.length < 2 ^ 64) (hb : b.length < 2 ^ 64) : Sep (cmpNums a b) (numsE a) (numsE b) := by
  have ta := trimL_le a
  have tb := trimL_le b
  have e64 : (256 : Nat) ^ 8 = 2 ^ 64 := by decide
  unfold cmpNums numsE
  by_cases h1 : a = []
  · by_cases h2 : b = []
    · subst h1 h2; exact Sep.same _
    · rw [if_pos (Or.inl h1), if_pos h1, if_neg h2]
      have : cmpI (a.length : Int) b.length = -1 := by
        have : 0 < b.length := List.length_pos_iff.2 h2
        subst h1; unfold cmpI; rw [if_pos (by simp; omega)]
      rw [this]
      exact Or.inr (Or.inl ⟨rfl, [], 0, 1, [], _, rfl, rfl, by decide⟩)
  · by_cases h2 : b = []
    · rw [if_pos (Or.inr h2), if_neg h1, if_pos h2]
      have : cmpI (a.length : Int) b.length = 1 := by
        have : 0 < a.length := List.length_pos_iff.2 h1
        subst h2; unfold cmpI; rw [if_neg (by simp), if_pos (by simp; omega)]
      rw [this]
      exact Or.inr (Or.inr ⟨rfl, [], 1, 0, _, [], rfl, rfl, by decide⟩)
    · rw [if_neg (by simp [h1, h2]), if_neg h1, if_neg h2, ← thenC_zero (thenC _ _)]
      refine Sep.app (Sep.same [1]) ?_
      by_cases e : (trimL a).length = (trimL b).length
      · exact Sep.app (sep_be 8 _ _ (by omega) (by omega)) (sep_width _ _ e)
      · have ne : cmpI ((trimL a).length : Int) (trimL b).length ≠ 0 := fun h => e (by have := cmpI_zero h; omega)
        have : thenC (cmpI ((trimL a).length : Int) (trimL b).length) (cmpL (trimL a) (trimL b)) = cmpI ((trimL a).length : Int) (trimL b).length := by
          unfold thenC; rw [if_pos ne]
        rw [this]
        exact (sep_be 8 _ _ (by omega) (by omega)).more ne _ _

/-- Versions. -/
def pairE (l : List UInt8) : List UInt8 := ((plainOf l).map (fun c => UInt8.ofNat (rankB c)) ++ [2]) ++ numsE (digsOf l)
/-- The pairs of l, at most n of them, and an empty one behind. -/
def verN : Nat → List UInt8 → List UInt8
  | 0, _ => [2, 0]
  | n + 1, l => if l = [] then [2, 0] else pairE l ++ verN n (restOf l)
theorem mem_takeWhile {p : UInt8 → Bool} : ∀ {l : List UInt8} {x : UInt8}, x ∈ l.takeWhile p → p x = true
  | [], _, h => by simp at h
  | y :: l, x, h => by
    by_cases e : p y = true
    · simp only [List.takeWhile, e, List.mem_cons] at h
      rcases h with rfl | h
      · exact e
      · exact mem_takeWhile h
    · simp [List.takeWhile, e] at h
theorem digsOf_le (l : List UInt8) : (digsOf l).length ≤ l.length := by
  unfold digsOf
  have h1 := (List.dropWhile_sublist (l := l) notDig).length_le
  have h2 := (List.takeWhile_sublist (l := l.dropWhile notDig) isDig).length_le
  omega
theorem sep_pair (a b : List UInt8) (ha : a.length < 2 ^ 64) (hb : b.length < 2 ^ 64) : Sep (cmpPair a b) (pairE a) (pairE b) :=
  Sep.app (sep_plain _ _ (fun _ h => mem_takeWhile h) (fun _ h => mem_takeWhile h)) (sep_nums _ _ (by have := digsOf_le a; omega) (by have := digsOf_le b; omega))
theorem pairE_nil : pairE [] = [2, 0] := rfl
theorem cmpVer_step (a b : List UInt8) (h : a ≠ [] ∨ b ≠ []) : cmpVer a b = thenC (cmpPair a b) (cmpVer (restOf a) (restOf b)) := by
  have h0 : 0 < max a.length b.length := by
    rcases h with h | h
    · have := List.length_pos_iff.2 h; omega
    · have := List.length_pos_iff.2 h; omega
  obtain ⟨n, hn⟩ : ∃ n, max a.length b.length = n + 1 := ⟨max a.length b.length - 1, by omega⟩
  have k : ∀ l : List UInt8, l.length ≤ n + 1 → (restOf l).length ≤ n := fun l hl => by
    by_cases e : l = []
    · subst e; simp [restOf]
    · have := restOf_lt e; omega
  unfold cmpVer
  rw [hn, firstN_head]
  congr 1
  have ka := k a (by omega)
  have kb := k b (by omega)
  refine (firstN_more (max (restOf a).length (restOf b).length) n (by omega) (fun i hi => ?_))
  show cmpPair (restN i (restOf a)) (restN i (restOf b)) = 0
  rw [restN_end i _ (by omega), restN_end i _ (by omega)]
  exact cmpPair_is.refl _
/-- Of two, one of which has ended: the empty pair stands for it. -/
theorem sep_ver : ∀ (n m : Nat) (a b : List UInt8), a.length ≤ n → b.length ≤ m → a.length < 2 ^ 64 → b.length < 2 ^ 64 → Sep (cmpVer a b) (verN n a) (verN m b)
  | n, m, a, b, hn, hm, ha, hb => by
    by_cases h : a ≠ [] ∨ b ≠ []
    · have sp := sep_pair a b ha hb
      rw [cmpVer_step a b h]
      by_cases ea : a = []
      · subst ea
        have hbn : b ≠ [] := by rcases h with h | h; exact absurd rfl h; exact h
        obtain ⟨m', rfl⟩ : ∃ m', m = m' + 1 := ⟨m - 1, by have := List.length_pos_iff.2 hbn; omega⟩
        have e1 : verN n ([] : List UInt8) = pairE [] := by cases n <;> rfl
        have e2 : verN (m' + 1) b = pairE b ++ verN m' (restOf b) := by simp only [verN, if_neg hbn]
        have ne : cmpPair [] b ≠ 0 := by
          cases b with
          | nil => exact absurd rfl hbn
          | cons y b =>
            intro hz
            have hz' : thenC (cmpPlain (plainOf []) (plainOf (y :: b))) (cmpNums (digsOf []) (digsOf (y :: b))) = 0 := hz
            by_cases hy : notDig y = true
            · have : plainOf (y :: b) = y :: plainOf b := by simp [plainOf, List.takeWhile, hy]
              rw [this] at hz'
              have r := rankB_ne hy
              have : cmpPlain (plainOf []) (y :: plainOf b) ≠ 0 := by
                show cmpPlain [] (y :: plainOf b) ≠ 0
                rw [cmpPlain_left]
                have ne : cmpI 2 (rankB y) ≠ 0 := fun h => r (by have := cmpI_zero h; omega)
                rw [thenC_ne ne]
                exact ne
              rw [thenC_ne this] at hz'
              exact this hz'
            · have hd : isDig y = true := by simpa [notDig] using hy
              have e3 : plainOf (y :: b) = [] := by simp [plainOf, List.takeWhile, hy]
              have e4 : digsOf (y :: b) = y :: b.takeWhile isDig := by simp [digsOf, List.dropWhile, hy, hd]
              rw [e3, e4] at hz'
              have : thenC (cmpPlain (plainOf []) []) (cmpNums (digsOf []) (y :: b.takeWhile isDig)) = -1 := by
                show thenC (cmpPlain [] []) (cmpNums [] (y :: b.takeWhile isDig)) = -1
                have : cmpPlain [] [] = 0 := rfl
                rw [this, thenC_zero]
                unfold cmpNums
                rw [if_pos (Or.inl rfl)]
                unfold cmpI
                rw [if_pos (by simp; try omega)]
              omega
        rw [e1, e2]
        have e3 : thenC (cmpPair [] b) (cmpVer (restOf []) (restOf b)) = cmpPair [] b := by unfold thenC; rw [if_pos ne]
        rw [e3]
        simpa using sp.more ne [] (verN m' (restOf b))
      · obtain ⟨n', rfl⟩ : ∃ n', n = n' + 1 := ⟨n - 1, by have := List.length_pos_iff.2 ea; omega⟩
        by_cases eb : b = []
        · subst eb
          have s := sep_ver m (n' + 1) [] a (by simp) hn hb ha
          rw [cmpVer_is.anti a []] at s
          have s' := s.swap
          rw [Int.neg_neg] at s'
          rw [← cmpVer_step a [] h]
          exact s'
        · obtain ⟨m', rfl⟩ : ∃ m', m = m' + 1 := ⟨m - 1, by have := List.length_pos_iff.2 eb; omega⟩
          have e1 : verN (n' + 1) a = pairE a ++ verN n' (restOf a) := by simp only [verN, if_neg ea]
          have e2 : verN (m' + 1) b = pairE b ++ verN m' (restOf b) := by simp only [verN, if_neg eb]
          have la := restOf_lt ea
          have lb := restOf_lt eb
          rw [e1, e2]
          exact Sep.app sp (sep_ver n' m' (restOf a) (restOf b) (by omega) (by omega) (by omega) (by omega))
    · have e1 : a = [] := Classical.byContradiction fun e => h (Or.inl e)
      have e2 : b = [] := Classical.byContradiction fun e => h (Or.inr e)
      subst e1 e2
      have e3 : verN n ([] : List UInt8) = [2, 0] := by cases n <;> rfl
      have e4 : verN m ([] : List UInt8) = [2, 0] := by cases m <;> rfl
      rw [e3, e4]
      exact Sep.same _
termination_by _ _ a b => (if a = [] then 0 else 1) + 2 * (a.length + b.length)
decreasing_by
  · subst eb; simp [ea]
    try omega
  · split <;> omega

/-- Escaped bytes. -/
def escB (c : UInt8) : List UInt8 := if c.toNat ≤ 1 then [1, c + 1] else [c]
def escS (l : List UInt8) : List UInt8 := l.flatMap escB ++ [0]
theorem escB_pos (c : UInt8) : ∃ u r, escB c = u :: r ∧ 0 < u.toNat := by
  unfold escB
  by_cases h : c.toNat ≤ 1
  · exact ⟨1, [c + 1], by rw [if_pos h], by decide⟩
  · exact ⟨c, [], by rw [if_neg h], by omega⟩
theorem sep_escB (x y : UInt8) : Sep (cmpI x.toNat y.toNat) (escB x) (escB y) := by
  by_cases hx : x.toNat ≤ 1
  · by_cases hy : y.toNat ≤ 1
    · have ex : (x + 1).toNat = x.toNat + 1 := by rw [UInt8.toNat_add]; simp; omega
      have ey : (y + 1).toNat = y.toNat + 1 := by rw [UInt8.toNat_add]; simp; omega
      unfold escB
      rw [if_pos hx, if_pos hy]
      have s := Sep.app (Sep.same [1]) (Sep.byte (x + 1) (y + 1))
      rw [thenC_zero, ex, ey] at s
      have : cmpI ((x.toNat + 1 : Nat) : Int) ((y.toNat + 1 : Nat) : Int) = cmpI x.toNat y.toNat := by unfold cmpI; simp
      rw [this] at s
      exact s
    · unfold escB
      rw [if_pos hx, if_neg hy]
      have : cmpI (x.toNat : Int) y.toNat = -1 := by unfold cmpI; rw [if_pos (by omega)]
      rw [this]
      exact Or.inr (Or.inl ⟨rfl, [], 1, y, [x + 1], [], rfl, rfl, UInt8.lt_iff_toNat_lt.2 (by simp; omega)⟩)
  · by_cases hy : y.toNat ≤ 1
    · unfold escB
      rw [if_neg hx, if_pos hy]
      have : cmpI (x.toNat : Int) y.toNat = 1 := by unfold cmpI; rw [if_neg (by omega), if_pos (by omega)]
      rw [this]
      exact Or.inr (Or.inr ⟨rfl, [], x, 1, [], [y + 1], rfl, rfl, UInt8.lt_iff_toNat_lt.2 (by simp; omega)⟩)
    · unfold escB
      rw [if_neg hx, if_neg hy]
      exact Sep.byte x y
theorem sep_esc : ∀ (a b : List UInt8), Sep (cmpL a b) (escS a) (escS b)
  | [], [] => Sep.same _
  | [], y :: b => by
    obtain ⟨u, r, e, hu⟩ := escB_pos y
    rw [cmpL_left]
    refine Or.inr (Or.inl ⟨rfl, [], 0, u, [], r ++ escS b, rfl, ?_, UInt8.lt_iff_toNat_lt.2 hu⟩)
    simp [escS, e]
  | x :: a, [] => by
    obtain ⟨u, r, e, hu⟩ := escB_pos x
    rw [cmpL_right]
    refine Or.inr (Or.inr ⟨rfl, [], u, 0, r ++ escS a, [], ?_, rfl, UInt8.lt_iff_toNat_lt.2 hu⟩)
    simp [escS, e]
  | x :: a, y :: b => by
    have h := Sep.app (sep_escB x y) (sep_esc a b)
    rw [cmpL_cons]
    simpa [escS] using h

/-- Values. -/
def sizeE (h : Bool) (v : Val) : List UInt8 := (if h then [UInt8.ofNat v.rank] else []) ++ (beN 8 (v.exp + 4611686018427387904).toNat ++ (v.digits ++ [0]))
def valE (h : Bool) (v : Val) : List UInt8 :=
  if v.cls = 96 then UInt8.ofNat v.cls :: sizeE h v
  else if v.cls = 64 then UInt8.ofNat v.cls :: (sizeE h v).map (255 - ·)
  else [UInt8.ofNat v.cls]
/-- What a value's parts keep to. -/
structure ValOk (h : Bool) (v : Val) : Prop where
  cls : v.cls ≤ 255
  rank : v.rank ≤ 255
  norank : h = false → v.rank = 0
  explo : -4611686018427387904 ≤ v.exp
  exphi : v.exp < 4611686018427387904
  digs : ∀ x ∈ v.digits, 0 < x.toNat
  none : v.cls ≠ 96 → v.cls ≠ 64 → v.rank = 0 ∧ v.exp = 0 ∧ v.digits = []
theorem sep_size {h : Bool} {v w : Val} (hv : ValOk h v) (hw : ValOk h w) : Sep (cmpSize v w) (sizeE h v) (sizeE h w) := by
  have a1 := hv.explo; have a2 := hv.exphi; have b1 := hw.explo; have b2 := hw.exphi
  have sb := sep_be 8 (v.exp + 4611686018427387904).toNat (w.exp + 4611686018427387904).toNat (by omega) (by omega)
  have e : cmpI ((v.exp + 4611686018427387904).toNat : Int) ((w.exp + 4611686018427387904).toNat : Int) = cmpI v.exp w.exp := by
    unfold cmpI
    by_cases c1 : v.exp < w.exp
    · rw [if_pos (by omega), if_pos c1]
    · rw [if_neg (by omega), if_neg c1]
      by_cases c2 : w.exp < v.exp
      · rw [if_pos (by omega), if_pos c2]
      · rw [if_neg (by omega), if_neg c2]
  rw [e] at sb
  unfold cmpSize sizeE
  refine Sep.app ?_ (Sep.app sb (sep_digits _ _ hv.digs hw.digs))
  cases h with
  | true =>
    have s := Sep.byte (UInt8.ofNat v.rank) (UInt8.ofNat w.rank)
    have e1 : (UInt8.ofNat v.rank).toNat = v.rank := by have := hv.rank; simp; omega
    have e2 : (UInt8.ofNat w.rank).toNat = w.rank := by have := hw.rank; simp; omega
    rw [e1, e2] at s
    exact s
  | false =>
    rw [hv.norank rfl, hw.norank rfl]
    exact Sep.nil
theorem sep_val {h : Bool} {v w : Val} (hv : ValOk h v) (hw : ValOk h w) : Sep (cmpVal v w) (valE h v) (valE h w) := by
  have sc := Sep.byte (UInt8.ofNat v.cls) (UInt8.ofNat w.cls)
  have e1 : (UInt8.ofNat v.cls).toNat = v.cls := by have := hv.cls; simp; omega
  have e2 : (UInt8.ofNat w.cls).toNat = w.cls := by have := hw.cls; simp; omega
  rw [e1, e2] at sc
  have hd : ∀ u : Val, ∃ r, valE h u = [UInt8.ofNat u.cls] ++ r := fun u => by
    unfold valE
    split
    · exact ⟨_, rfl⟩
    · split
      · exact ⟨_, rfl⟩
      · exact ⟨[], rfl⟩
  unfold cmpVal
  by_cases e : v.cls = w.cls
  · have z : cmpI (v.cls : Int) w.cls = 0 := by rw [e]; exact cmpI_is.refl _
    rw [z] at sc ⊢
    by_cases c64 : v.cls = 64
    · rw [if_pos c64]
      have ev : valE h v = [UInt8.ofNat v.cls] ++ (sizeE h v).map (255 - ·) := by unfold valE; rw [if_neg (by omega), if_pos c64]; rfl
      have ew : valE h w = [UInt8.ofNat w.cls] ++ (sizeE h w).map (255 - ·) := by unfold valE; rw [if_neg (by omega), if_pos (by omega)]; rfl
      rw [ev, ew]
      have t := (sep_size hw hv).turn.swap
      rw [Int.neg_neg] at t
      exact Sep.app sc t
    · rw [if_neg c64]
      by_cases c96 : v.cls = 96
      · have ev : valE h v = [UInt8.ofNat v.cls] ++ sizeE h v := by unfold valE; rw [if_pos c96]; rfl
        have ew : valE h w = [UInt8.ofNat w.cls] ++ sizeE h w := by unfold valE; rw [if_pos (by omega)]; rfl
        rw [ev, ew]
        exact Sep.app sc (sep_size hv hw)
      · have ev : valE h v = [UInt8.ofNat v.cls] := by unfold valE; rw [if_neg c96, if_neg c64]
        have ew : valE h w = [UInt8.ofNat w.cls] := by unfold valE; rw [if_neg (by omega), if_neg (by omega)]
        obtain ⟨r1, x1, d1⟩ := hv.none c96 c64
        obtain ⟨r2, x2, d2⟩ := hw.none (by omega) (by omega)
        have : cmpSize v w = 0 := by
          unfold cmpSize
          rw [r1, r2, x1, x2, d1, d2]; rfl
        rw [this, ev, ew, thenC_zero]
        exact sc
  · have ne : cmpI (v.cls : Int) w.cls ≠ 0 := fun h => e (by have := cmpI_zero h; omega)
    obtain ⟨r1, x1⟩ := hd v
    obtain ⟨r2, x2⟩ := hd w
    rw [x1, x2]
    have : thenC (cmpI (v.cls : Int) w.cls) (if v.cls = 64 then cmpSize w v else cmpSize v w) = cmpI (v.cls : Int) w.cls := by
      conv => lhs; unfold thenC
      rw [if_pos ne]
    rw [this]
    exact sc.more ne r1 r2

/-- Embed. -/
def embS (kind : Nat) (l : List UInt8) : List UInt8 :=
  if kind = 16 ∨ kind = 32 ∨ kind = 64 then valE (kind == 64) (valS kind l)
  else if kind = 128 then [UInt8.ofNat (monthS l)]
  else if kind = 256 then verN l.length l
  else escS l
end Go.Proofs.YtpbbgmfjdachnaaDoor
