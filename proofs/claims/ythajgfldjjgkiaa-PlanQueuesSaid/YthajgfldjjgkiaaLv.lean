/- How deep a plan of runs of one weight is. No program. -/
import Derived.Test.YthajgfldjjgkiaaMp
import Derived.Test.YthajgfldjjgkiaaCm
namespace Go.Proofs.Ythajgfldjjgkiaa

/-- How many of the numbers are taken behind s steps. -/
def lo (n fan s : Nat) : Nat := n + s - left n fan s
theorem left_le2 {n fan : Nat} (h : 2 ≤ fan) (hn : 2 ≤ n) : ∀ s, s ≤ need n fan → left n fan s ≤ n + s
  | 0, _ => by unfold left; rw [if_pos rfl]; omega
  | s + 1, hs => by
    have := left_le2 h hn s (by omega)
    have := (left_step (s := s) h hn (by omega)).2
    omega
theorem lo_step {n fan s : Nat} (h : 2 ≤ fan) (hn : 2 ≤ n) (hs : s < need n fan) : lo n fan (s + 1) = lo n fan s + tkn n fan s ∧ lo n fan s + tkn n fan s ≤ n + s := by
  have a := left_le2 h hn s (by omega)
  have b := left_le2 h hn (s + 1) (by omega)
  obtain ⟨c, d⟩ := left_step (s := s) h hn hs
  unfold lo
  omega
theorem lo_zero (n fan : Nat) : lo n fan 0 = 0 := by unfold lo left; rw [if_pos rfl]; omega
/-- All below p are gone, the others rise. -/
structure Row (A : List Int) (p m : Nat) : Prop where
  len : A.length = m
  gone : ∀ x, x < p → A.getD x (-1) = -1
  pos : ∀ x, p ≤ x → x < m → 0 ≤ A.getD x (-1)
  up : ∀ x y, p ≤ x → x ≤ y → y < m → A.getD x (-1) ≤ A.getD y (-1)
def addN (A : List Int) (p : Nat) (i : Nat) : Int := sumZ (fun j => A.getD (p + j) (-1)) i
theorem Row.isL {A : List Int} {p m : Nat} (h : Row A p m) (hp : p < m) : ls A = p := by
  have : IsL A p := by
    refine ⟨h.pos p (Nat.le_refl _) hp, fun j hj => ?_⟩
    have hl := getD_out hj
    rw [h.len] at hl
    have hpj : p ≤ j := by
      rcases Nat.lt_or_ge j p with q | q
      · have := h.gone j q; omega
      · exact q
    have := h.up p j (Nat.le_refl _) hpj hl
    omega
  exact this.ls.symm
/-- They are picked in their order. -/
theorem Row.pick {A : List Int} {p m : Nat} (h : Row A p m) : ∀ {i}, p + i ≤ m → Row (pkA A i) (p + i) m ∧ (∀ x, p + i ≤ x → (pkA A i).getD x (-1) = A.getD x (-1)) ∧ (∀ x : Int, x ∈ pkL A i ↔ (p : Int) ≤ x ∧ x < ((p + i : Nat) : Int)) ∧ pkS A i = addN A p i
  | 0, _ => ⟨h, fun x _ => rfl, (fun x => ⟨(fun q => by cases q), fun q => by omega⟩), rfl⟩
  | i + 1, hi => by
    obtain ⟨h1, h2, h3, h4⟩ := Row.pick h (i := i) (by omega)
    have hl : ls (pkA A i) = p + i := h1.isL (by omega)
    have hd : ∀ x, (pkA A (i + 1)).getD x (-1) = if p + i = x then -1 else (pkA A i).getD x (-1) := fun x => by rw [pkA, hl, getD_set]
    refine ⟨⟨by rw [pkA_len]; exact h.len, fun x hx => ?_, fun x hx hm => ?_, fun x y hx hxy hy => ?_⟩, fun x hx => ?_, fun x => ?_, ?_⟩
    · rw [hd]
      by_cases e : p + i = x
      · rw [if_pos e]
      · rw [if_neg e]; exact h1.gone x (by omega)
    · rw [hd, if_neg (by omega)]; exact h1.pos x (by omega) hm
    · rw [hd, hd, if_neg (by omega), if_neg (by omega)]; exact h1.up x y (by omega) hxy hy
    · rw [hd, if_neg (by omega)]; exact h2 x (by omega)
    · rw [pkL, List.mem_append, h3, List.mem_singleton, hl]; omega
    · rw [pkS, h4, hl, h2 _ (Nat.le_refl _)]; rfl
theorem addN_ge {A : List Int} {p m : Nat} (h : Row A p m) {i j : Nat} (hj : j < i) (hi : p + i ≤ m) : A.getD (p + j) (-1) ≤ addN A p i := by
  unfold addN
  have h1 := sumZ_one (fun k => A.getD (p + k) (-1)) j i
  rw [if_pos hj] at h1
  rw [← h1]
  refine sumZ_le _ fun k hk => ?_
  split
  · exact Int.le_refl _
  · exact h.pos _ (by omega) (by omega)
theorem addN_mono {A B : List Int} {p q m r : Nat} (hB : Row B q r) {i j : Nat} (hij : i ≤ j) (hj : q + j ≤ r) (ht : ∀ k, k < i → A.getD (p + k) (-1) ≤ B.getD (q + k) (-1)) (_ : m = m) : addN A p i ≤ addN B q j := by
  have h1 : addN A p i ≤ addN B q i := sumZ_le _ ht
  have h2 : ∀ d, i + d ≤ j → addN B q i ≤ addN B q (i + d) := fun d => by
    induction d with
    | zero => intro _; exact Int.le_refl _
    | succ d ih =>
      intro hd
      have := ih (by omega)
      have := hB.pos (q + (i + d)) (by omega) (by omega)
      show _ ≤ sumZ _ (i + d + 1)
      rw [sumZ]
      unfold addN at *
      omega
  have := h2 (j - i) (by omega)
  rw [show i + (j - i) = j by omega] at this
  omega
/-- The steps of one weight take the numbers in their order. -/
theorem alike {W : List Int} {fan : Nat} {z : Int} (hz : 0 ≤ z) (hW : ∀ x ∈ W, x = z) (hf : 2 ≤ fan) (hn : 2 ≤ W.length) : ∀ s, s ≤ need W.length fan → Row (mkA W fan s) (lo W.length fan s) (W.length + s) ∧ (s < need W.length fan → (mkA W fan s).getD (W.length + s - 1) (-1) ≤ addN (mkA W fan s) (lo W.length fan s) (tkn W.length fan s))
  | 0, _ => by
    have hg : ∀ x, x < W.length → W.getD x (-1) = z := fun x hx => by
      rw [List.getD_eq_getElem?_getD, List.getElem?_eq_getElem hx]
      exact hW _ (List.getElem_mem hx)
    have R : Row (mkA W fan 0) (lo W.length fan 0) (W.length + 0) := by
      rw [lo_zero]
      refine ⟨rfl, fun x hx => by omega, fun x _ hx => ?_, fun x y _ hxy hy => ?_⟩
      · rw [mkA, hg x (by omega)]; exact hz
      · rw [mkA, hg x (by omega), hg y (by omega)]; exact Int.le_refl _
    refine ⟨R, fun hs => ?_⟩
    have ht := tkn_ge W.length fan 0 hf
    have hl := (lo_step (s := 0) hf hn hs).2
    have := addN_ge R (i := tkn W.length fan 0) (j := 0) (by omega) hl
    rw [lo_zero] at this ⊢
    have e1 : (mkA W fan 0).getD (W.length + 0 - 1) (-1) = z := hg _ (by omega)
    have e2 : (mkA W fan 0).getD (0 + 0) (-1) = z := hg _ (by omega)
    rw [e2] at this
    rw [e1]
    exact this
  | s + 1, h => by
    obtain ⟨R, B⟩ := alike hz hW hf hn s (by omega)
    have B := B (by omega)
    obtain ⟨l1, l2⟩ := lo_step (s := s) hf hn (by omega)
    obtain ⟨R2, same, _, sum⟩ := R.pick (i := tkn W.length fan s) l2
    have hA : mkA W fan (s + 1) = pkA (mkA W fan s) (tkn W.length fan s) ++ [addN (mkA W fan s) (lo W.length fan s) (tkn W.length fan s)] := by rw [mkA, sum]
    have ht := tkn_ge W.length fan s hf
    have low : ∀ x, x < W.length + s → (mkA W fan (s + 1)).getD x (-1) = (pkA (mkA W fan s) (tkn W.length fan s)).getD x (-1) := fun x hx => by
      rw [hA, List.getD_eq_getElem?_getD, List.getElem?_append_left (by rw [R2.len]; exact hx), ← List.getD_eq_getElem?_getD]
    have top : (mkA W fan (s + 1)).getD (W.length + s) (-1) = addN (mkA W fan s) (lo W.length fan s) (tkn W.length fan s) := by
      rw [hA, List.getD_eq_getElem?_getD, List.getElem?_append_right (by rw [R2.len]; omega), R2.len, Nat.sub_self]
      rfl
    have vpos : 0 ≤ addN (mkA W fan s) (lo W.length fan s) (tkn W.length fan s) := Int.le_trans (R.pos _ (by omega) (by omega)) (addN_ge R (j := 0) (by omega) l2)
    have hi : ∀ x, lo W.length fan s ≤ x → x < W.length + s → (mkA W fan s).getD x (-1) ≤ addN (mkA W fan s) (lo W.length fan s) (tkn W.length fan s) := fun x h1 h2 => Int.le_trans (R.up x (W.length + s - 1) h1 (by omega) (by omega)) B
    have R3 : Row (mkA W fan (s + 1)) (lo W.length fan (s + 1)) (W.length + (s + 1)) := by
      rw [l1]
      refine ⟨mkA_len W fan (s + 1), fun x hx => ?_, fun x hx hm => ?_, fun x y hx hxy hy => ?_⟩
      · rw [low x (by omega)]; exact R2.gone x hx
      · by_cases e : x = W.length + s
        · rw [e, top]; exact vpos
        · rw [low x (by omega)]; exact R2.pos x hx (by omega)
      · by_cases e : y = W.length + s
        · by_cases e2 : x = W.length + s
          · rw [e, e2]; exact Int.le_refl _
          · rw [e, top, low x (by omega), same x hx]
            exact hi x (by omega) (by omega)
        · rw [low x (by omega), low y (by omega)]
          exact R2.up x y hx hxy (by omega)
    refine ⟨R3, fun hs => ?_⟩
    obtain ⟨l3, l4⟩ := lo_step (s := s + 1) hf hn hs
    rw [show W.length + (s + 1) - 1 = W.length + s by omega, top]
    refine addN_mono R3 (i := tkn W.length fan s) (j := tkn W.length fan (s + 1)) ?_ l4 (fun k hk => ?_) (rfl : (0 : Nat) = 0)
    · have := tkn_le W.length fan s hf
      unfold tkn
      rw [if_neg (show ¬ s + 1 = 0 by omega)]
      exact this
    · rw [l1]
      by_cases e : lo W.length fan s + tkn W.length fan s + k = W.length + s
      · rw [e, top]
        exact addN_ge R hk l2
      · have ht2 : tkn W.length fan s ≤ tkn W.length fan (s + 1) := by
          have := tkn_le W.length fan s hf
          unfold tkn
          rw [if_neg (show ¬ s + 1 = 0 by omega)]
          exact this
        rw [low _ (by omega), same _ (by omega)]
        exact R.up _ _ (by omega) (by omega) (by omega)
theorem alike_in {W : List Int} {fan : Nat} {z : Int} (hz : 0 ≤ z) (hW : ∀ x ∈ W, x = z) (hf : 2 ≤ fan) (hn : 2 ≤ W.length) {k : Nat} (hk : k < need W.length fan) (x : Int) : x ∈ inOf (mkS W fan (need W.length fan)) k ↔ (lo W.length fan k : Int) ≤ x ∧ x < ((lo W.length fan k + tkn W.length fan k : Nat) : Int) := by
  have hl : k < (mkS W fan (need W.length fan)).length := by rw [mkS_len]; exact hk
  rw [inOf_get hl, mkS_at]
  simp only
  rw [(srt_perm _).mem_iff]
  obtain ⟨R, _⟩ := alike hz hW hf hn k (by omega)
  exact (R.pick (i := tkn W.length fan k) (lo_step hf hn hk).2).2.2.1 x
/-- How far from the top, in a tree as full as can be. -/
def far (f : Nat) : Nat → Nat
  | 0 => 0
  | r + 1 => 1 + far f (r / f)
decreasing_by exact Nat.lt_succ_of_le (Nat.div_le_self r f)
def uu (f : Nat) : Nat → Nat
  | 0 => 0
  | d + 1 => f * uu f d + 1
theorem far_le {f : Nat} (hf : 2 ≤ f) : ∀ d r, far f r ≤ d ↔ r ≤ f * uu f d
  | d, 0 => by rw [far]; simp
  | 0, r + 1 => by rw [far, uu]; omega
  | d + 1, r + 1 => by
    rw [far, uu]
    have ih := far_le hf d (r / f)
    have : r / f ≤ f * uu f d ↔ r + 1 ≤ f * (f * uu f d + 1) := by
      rw [← Nat.lt_succ_iff, Nat.div_lt_iff_lt_mul (by omega), Nat.succ_eq_add_one, Nat.mul_comm (f * uu f d + 1) f]
      omega
    omega
theorem uu_pow {f : Nat} (hf : 2 ≤ f) : ∀ d, f ^ d = 1 + (f - 1) * uu f d
  | 0 => by simp [uu]
  | d + 1 => by
    obtain ⟨g, rfl⟩ : ∃ g, f = g + 1 := ⟨f - 1, by omega⟩
    rw [Nat.pow_succ, uu_pow hf d, uu, Nat.add_sub_cancel]
    generalize uu (g + 1) d = u
    have e1 : (g + 1) * u = g * u + u := Nat.succ_mul g u
    have e2 : g * (g * u + u + 1) = g * (g * u) + g * u + g := by rw [Nat.mul_add, Nat.mul_add, Nat.mul_one]
    have e3 : (1 + g * u) * (g + 1) = g + g * u * g + (1 + g * u) := by rw [Nat.mul_succ, Nat.add_mul, Nat.one_mul]
    have e4 : g * u * g = g * (g * u) := Nat.mul_comm _ _
    rw [e1, e2, e3, e4]
    omega
/-- Each leaf is as deep as it is far from the top. -/
theorem alike_far {W : List Int} {fan : Nat} {z : Int} (hz : 0 ≤ z) (hW : ∀ x ∈ W, x = z) (hf : 2 ≤ fan) (hn : 2 ≤ W.length) (i : Nat) (hi : i < W.length) : ∀ k, k ≤ need W.length fan → curF W.length (mkS W fan (need W.length fan)) i k < W.length + k ∧ lo W.length fan k ≤ curF W.length (mkS W fan (need W.length fan)) i k ∧ cntF W.length (mkS W fan (need W.length fan)) i k + far fan (W.length + need W.length fan - 1 - curF W.length (mkS W fan (need W.length fan)) i k) = far fan (W.length + need W.length fan - 1 - i)
  | 0, _ => by rw [lo_zero]; exact ⟨hi, Nat.zero_le _, by simp [cntF, curF]⟩
  | k + 1, h => by
    obtain ⟨h1, h2, h3⟩ := alike_far hz hW hf hn i hi k (by omega)
    have hin := alike_in hz hW hf hn (k := k) (by omega) (curF W.length (mkS W fan (need W.length fan)) i k : Int)
    obtain ⟨l1, l2⟩ := lo_step (s := k) hf hn (by omega)
    have hcur : curF W.length (mkS W fan (need W.length fan)) i (k + 1) = if (curF W.length (mkS W fan (need W.length fan)) i k : Int) ∈ inOf (mkS W fan (need W.length fan)) k then W.length + k else curF W.length (mkS W fan (need W.length fan)) i k := rfl
    have hcnt : cntF W.length (mkS W fan (need W.length fan)) i (k + 1) = if (curF W.length (mkS W fan (need W.length fan)) i k : Int) ∈ inOf (mkS W fan (need W.length fan)) k then cntF W.length (mkS W fan (need W.length fan)) i k + 1 else cntF W.length (mkS W fan (need W.length fan)) i k := rfl
    generalize cntF W.length (mkS W fan (need W.length fan)) i (k + 1) = c2 at *
    generalize curF W.length (mkS W fan (need W.length fan)) i (k + 1) = x2 at *
    generalize cntF W.length (mkS W fan (need W.length fan)) i k = c1 at *
    generalize curF W.length (mkS W fan (need W.length fan)) i k = x1 at *
    by_cases m : (x1 : Int) ∈ inOf (mkS W fan (need W.length fan)) k
    · rw [if_pos m] at hcur hcnt
      obtain ⟨m1, m2⟩ := hin.1 m
      subst hcur hcnt
      refine ⟨by omega, by omega, ?_⟩
      rw [← h3, Nat.add_assoc]
      congr 1
      obtain ⟨q, q1, q2⟩ := need_spec hf hn
      have ll : left W.length fan (k + 1) = 1 + (fan - 1) * (need W.length fan - (k + 1)) := if_neg (by omega)
      have hle := left_le2 hf hn (k + 1) h
      have hlo : lo W.length fan (k + 1) + left W.length fan (k + 1) = W.length + (k + 1) := by unfold lo; omega
      obtain ⟨d, hd⟩ : ∃ d, need W.length fan = k + 1 + d := ⟨need W.length fan - (k + 1), by omega⟩
      have hd2 : need W.length fan - (k + 1) = d := by omega
      rw [hd2] at ll
      obtain ⟨g, rfl⟩ : ∃ g, fan = g + 1 := ⟨fan - 1, by omega⟩
      rw [Nat.add_sub_cancel] at ll
      have tk := tkn_le W.length (g + 1) k hf
      -- how far it is: between (g+1)*d + 1 and (g+1)*(d+1)
      have f1 : (g + 1) * d = g * d + d := Nat.succ_mul g d
      obtain ⟨r, hr⟩ : ∃ r, W.length + need W.length (g + 1) - 1 - x1 = r + 1 := ⟨W.length + need W.length (g + 1) - 1 - x1 - 1, by omega⟩
      have hr2 : r / (g + 1) = d := by
        rw [Nat.div_eq_iff (by omega)]
        rw [Nat.mul_comm d (g + 1), f1]
        omega
      have hp : W.length + need W.length (g + 1) - 1 - (W.length + k) = d := by omega
      rw [hp, hr, far, hr2]
    · rw [if_neg m] at hcur hcnt
      subst hcur hcnt
      refine ⟨by omega, ?_, h3⟩
      rw [l1]
      rcases Nat.lt_or_ge x2 (lo W.length fan k + tkn W.length fan k) with q | q
      · exact absurd (hin.2 ⟨by omega, by omega⟩) m
      · exact q
theorem alike_deep {W : List Int} {fan : Nat} {z : Int} (hz : 0 ≤ z) (hW : ∀ x ∈ W, x = z) (hf : 2 ≤ fan) (hn : 2 ≤ W.length) : mxN (fun i => cntF W.length (mkS W fan (need W.length fan)) i (need W.length fan)) W.length = far fan (W.length + need W.length fan - 1) := by
  have nl := need_le hf hn
  obtain ⟨q, _, q2⟩ := need_spec hf hn
  have last : ∀ i, i < W.length → cntF W.length (mkS W fan (need W.length fan)) i (need W.length fan) = far fan (W.length + need W.length fan - 1 - i) := fun i hi => by
    obtain ⟨a, b, c⟩ := alike_far hz hW hf hn i hi _ (Nat.le_refl _)
    have e : lo W.length fan (need W.length fan) = W.length + need W.length fan - 1 := by unfold lo; rw [left_end hf hn]
    rw [e] at b
    have : W.length + need W.length fan - 1 - curF W.length (mkS W fan (need W.length fan)) i (need W.length fan) = 0 := by omega
    rw [this, far] at c
    exact c
  refine mxN_is (fun i hi => ?_) (Or.inr ⟨0, by omega, by rw [last 0 (by omega)]; rfl⟩)
  rw [last i hi]
  rw [far_le hf]
  have := (far_le hf _ (W.length + need W.length fan - 1)).1 (Nat.le_refl _)
  omega
/-- So deep: as many steps as the fan-in has to be taken with itself. -/
theorem deep_le {n f : Nat} (hf : 2 ≤ f) (hn : 2 ≤ n) (d : Nat) : far f (n + need n f - 1) ≤ d ↔ n ≤ f ^ d := by
  obtain ⟨q, q1, q2⟩ := need_spec hf hn
  rw [far_le hf, uu_pow hf]
  have hr := Nat.mod_lt (n - 2) (show 0 < f - 1 by omega)
  obtain ⟨g, rfl⟩ : ∃ g, f = g + 1 := ⟨f - 1, by omega⟩
  rw [Nat.add_sub_cancel] at *
  generalize uu (g + 1) d = u at *
  generalize (n - 2) % g = r at *
  rw [q2]
  have f1 : (g + 1) * u = g * u + u := Nat.succ_mul g u
  rw [f1]
  constructor
  · intro h
    rcases Nat.lt_or_ge q u with a | a
    · have := Nat.mul_le_mul_left g (show q + 1 ≤ u from a)
      rw [Nat.mul_succ] at this
      omega
    · have := Nat.mul_le_mul_left g a
      omega
  · intro h
    rcases Nat.lt_or_ge q u with a | a
    · have := Nat.mul_le_mul_left g (show q + 1 ≤ u from a)
      rw [Nat.mul_succ] at this
      omega
    · have := Nat.mul_le_mul_left g a
      omega
end Go.Proofs.Ythajgfldjjgkiaa
