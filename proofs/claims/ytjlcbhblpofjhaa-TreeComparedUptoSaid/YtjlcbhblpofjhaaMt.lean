/- The tournament: no walk. -/
import Derived.Test.YtjlcbhblpofjhaaPl
namespace Go.Proofs.Ytjlcbhblpofjhaa
/-- Is what one has in hand ahead of what another has? -/
def aheadB (H : Nat → Option It) (one other : Nat) : Bool := match H one, H other with
  | some x, some y => decide (x.key < y.key) || (decide (x.key = y.key) && decide (one < other))
  | some _, none => true
  | none, _ => false
def ltI (H : Nat → Option It) (i j : Nat) : Prop := aheadB H i j = true
theorem ahead_asym {H : Nat → Option It} {i j : Nat} (h : aheadB H i j = true) : aheadB H j i = false := by
  unfold aheadB at *
  cases hi : H i <;> cases hj : H j <;> simp_all <;> omega
theorem ahead_ntrans {H : Nat → Option It} {i j l : Nat} (h : aheadB H i j = false) (k : aheadB H j l = false) : aheadB H i l = false := by
  unfold aheadB at *
  cases hi : H i <;> cases hj : H j <;> cases hl : H l <;> simp_all <;> omega
theorem ahead_irrefl (H : Nat → Option It) (i : Nat) : aheadB H i i = false := by
  unfold aheadB
  cases hi : H i <;> simp
/-- Under a node. -/
def Und (n m : Nat) : Prop := ∃ d, m / 2 ^ d = n
theorem Und.refl (n : Nat) : Und n n := ⟨0, by simp⟩
theorem Und.up {c m : Nat} (h : Und c m) : Und (c / 2) m := by
  obtain ⟨d, h⟩ := h
  exact ⟨d + 1, by rw [Nat.pow_succ, ← Nat.div_div_eq_div_mul, h]⟩
theorem Und.left {n m : Nat} (h : Und (2 * n) m) : Und n m := by have := h.up; rwa [show 2 * n / 2 = n by omega] at this
theorem Und.right {n m : Nat} (h : Und (2 * n + 1) m) : Und n m := by have := h.up; rwa [show (2 * n + 1) / 2 = n by omega] at this
theorem Und.le {n m : Nat} (h : Und n m) : n ≤ m := by
  obtain ⟨d, rfl⟩ := h
  exact Nat.div_le_self _ _
theorem und_comp {n m d e : Nat} (hd : m / 2 ^ d = n) (h : d ≤ e) : m / 2 ^ e = n / 2 ^ (e - d) := by
  rw [← hd, Nat.div_div_eq_div_mul, ← Nat.pow_add, show d + (e - d) = e by omega]
theorem und_apart {n m : Nat} (h0 : 0 < n) (h : Und (2 * n) m) (k : Und (2 * n + 1) m) : False := by
  obtain ⟨d, hd⟩ := h
  obtain ⟨e, he⟩ := k
  rcases Nat.lt_trichotomy d e with c | c | c
  · have := und_comp hd (Nat.le_of_lt c)
    have p : 2 * n / 2 ^ (e - d) ≤ 2 * n / 2 := Nat.div_le_div_left (by have := Nat.pow_le_pow_right (n := 2) (by omega) (show 1 ≤ e - d by omega); omega) (by omega)
    omega
  · subst c; omega
  · have := und_comp he (Nat.le_of_lt c)
    have p : (2 * n + 1) / 2 ^ (d - e) ≤ (2 * n + 1) / 2 := Nat.div_le_div_left (by have := Nat.pow_le_pow_right (n := 2) (by omega) (show 1 ≤ d - e by omega); omega) (by omega)
    omega
theorem und_kids {n m : Nat} (h : Und n m) : m = n ∨ Und (2 * n) m ∨ Und (2 * n + 1) m := by
  obtain ⟨d, h⟩ := h
  cases d with
  | zero => left; simpa using h
  | succ d =>
    right
    rw [Nat.pow_succ, ← Nat.div_div_eq_div_mul] at h
    have : m / 2 ^ d = 2 * n ∨ m / 2 ^ d = 2 * n + 1 := by omega
    exact this.elim (fun e => Or.inl ⟨d, e⟩) (fun e => Or.inr ⟨d, e⟩)
theorem und_one : ∀ (m : Nat), 0 < m → Und 1 m := by
  intro m
  induction m using Nat.strongRecOn with
  | ind m ih =>
    intro h
    by_cases h1 : m = 1
    · subst h1; exact Und.refl 1
    · obtain ⟨d, hd⟩ := ih (m / 2) (by omega) (by omega)
      exact ⟨d + 1, by rw [Nat.pow_succ, Nat.mul_comm, ← Nat.div_div_eq_div_mul]; exact hd⟩
/-- One loses at none of the nodes at and under this one. -/
inductive Tour (k : Nat) (H : Nat → Option It) (L : Nat → Nat) : Nat → Nat → Prop
  | leaf (s : Nat) : s < k → Tour k H L (k + s) s
  | left (n a b : Nat) : 0 < n → n < k → Tour k H L (2 * n) a → Tour k H L (2 * n + 1) b → L n = b → aheadB H b a = false → Tour k H L n a
  | right (n a b : Nat) : 0 < n → n < k → Tour k H L (2 * n) a → Tour k H L (2 * n + 1) b → L n = a → aheadB H a b = false → Tour k H L n b
theorem Tour.und {k : Nat} {H : Nat → Option It} {L : Nat → Nat} {n s : Nat} (h : Tour k H L n s) : Und n (k + s) ∧ s < k := by
  induction h with
  | leaf s h => exact ⟨Und.refl _, h⟩
  | left n a b _ _ _ _ _ _ iha _ => exact ⟨iha.1.left, iha.2⟩
  | right n a b _ _ _ _ _ _ _ ihb => exact ⟨ihb.1.right, ihb.2⟩
theorem Tour.congr {k : Nat} {H H' : Nat → Option It} {L L' : Nat → Nat} {n s : Nat} (h : Tour k H L n s) (hl : ∀ m, m < k → Und n m → L' m = L m) (hh : ∀ i, i < k → Und n (k + i) → H' i = H i) : Tour k H' L' n s := by
  have ahd : ∀ {i j}, H' i = H i → H' j = H j → aheadB H' i j = aheadB H i j := fun hi hj => by unfold aheadB; rw [hi, hj]
  induction h with
  | leaf s h => exact Tour.leaf s h
  | left n a b h0 hk ta tb hL hn iha ihb =>
    have ua := ta.und
    have ub := tb.und
    exact Tour.left n a b h0 hk (iha (fun m hm hu => hl m hm hu.left) (fun i hi hu => hh i hi hu.left)) (ihb (fun m hm hu => hl m hm hu.right) (fun i hi hu => hh i hi hu.right)) ((hl n hk (Und.refl n)).trans hL) ((ahd (hh b ub.2 ub.1.right) (hh a ua.2 ua.1.left)).trans hn)
  | right n a b h0 hk ta tb hL hn iha ihb =>
    have ua := ta.und
    have ub := tb.und
    exact Tour.right n a b h0 hk (iha (fun m hm hu => hl m hm hu.left) (fun i hi hu => hh i hi hu.left)) (ihb (fun m hm hu => hl m hm hu.right) (fun i hi hu => hh i hi hu.right)) ((hl n hk (Und.refl n)).trans hL) ((ahd (hh a ua.2 ua.1.left) (hh b ub.2 ub.1.right)).trans hn)
theorem Tour.least {k : Nat} {H : Nat → Option It} {L : Nat → Nat} {n s : Nat} (h : Tour k H L n s) : ∀ i, i < k → Und n (k + i) → aheadB H i s = false := by
  induction h with
  | leaf s h =>
    intro i hi hu
    have : i = s := by
      obtain ⟨d, hd⟩ := hu
      cases d with
      | zero => simp at hd; exact hd
      | succ d =>
        have : (k + i) / 2 ^ (d + 1) ≤ (k + i) / 2 := Nat.div_le_div_left (by have := Nat.pow_le_pow_right (n := 2) (by omega) (show 1 ≤ d + 1 by omega); omega) (by omega)
        omega
    subst this
    exact ahead_irrefl H i
  | left n a b h0 hk ta tb hL hn iha ihb =>
    intro i hi hu
    rcases und_kids hu with e | e | e
    · omega
    · exact iha i hi e
    · exact ahead_ntrans (ihb i hi e) hn
  | right n a b h0 hk ta tb hL hn iha ihb =>
    intro i hi hu
    rcases und_kids hu with e | e | e
    · omega
    · exact ahead_ntrans (iha i hi e) hn
    · exact ihb i hi e
/-- The order is by the keys. -/
def ByKeys {σ : Type} (E : Env σ) : Prop := ∀ s x y, (E.nO s x y).1 = if x.key < y.key then -1 else if y.key < x.key then 1 else 0
theorem aheadM_by {σ : Type} {E : Env σ} (hE : ByKeys E) (T : TS σ) (one other : Nat) : (aheadM E T one other).1 = aheadB T.H one other ∧ (aheadM E T one other).2.H = T.H ∧ (aheadM E T one other).2.L = T.L ∧ (aheadM E T one other).2.first = T.first ∧ (aheadM E T one other).2.due = T.due ∧ (aheadM E T one other).2.dueEnd = T.dueEnd := by
  unfold aheadM aheadB
  cases h1 : T.H one with
  | none => exact ⟨rfl, rfl, rfl, rfl, rfl, rfl⟩
  | some x =>
    cases h2 : T.H other with
    | none => exact ⟨rfl, rfl, rfl, rfl, rfl, rfl⟩
    | some y =>
      refine ⟨?_, rfl, rfl, rfl, rfl, rfl⟩
      show (decide ((E.nO T.s x y).1 < 0) || (decide ((E.nO T.s x y).1 = 0) && decide (one < other))) = _
      rw [hE]
      by_cases c1 : x.key < y.key
      · simp [c1]
      · by_cases c2 : y.key < x.key
        · have c3 : ¬ x.key = y.key := by omega
          simp [c1, c2, c3]
        · have c3 : x.key = y.key := by omega
          simp [c1, c2, c3]
/-- What no step of a tournament changes. -/
structure Kept {σ : Type} (T T' : TS σ) : Prop where
  H : T'.H = T.H
  due : T'.due = T.due
  dueEnd : T'.dueEnd = T.dueEnd
theorem Kept.trans {σ : Type} {a b c : TS σ} (h : Kept a b) (k : Kept b c) : Kept a c := ⟨k.H.trans h.H, k.due.trans h.due, k.dueEnd.trans h.dueEnd⟩
theorem winM_tour {σ : Type} {E : Env σ} (hE : ByKeys E) {k : Nat} : ∀ (f n : Nat) (T : TS σ), 0 < n → n < 2 * k → k ≤ n * 2 ^ f → Tour k T.H (winM E k f n T).2.L n (winM E k f n T).1 ∧ Kept T (winM E k f n T).2 ∧ ∀ m, ¬ Und n m → (winM E k f n T).2.L m = T.L m
  | 0, n, T, h0, h1, h2 => by
    rw [winM_leaf (by simpa using h2)]
    have e : n = k + (n - k) := by have : k ≤ n := by simpa using h2
                                   omega
    refine ⟨?_, ⟨rfl, rfl, rfl⟩, fun m _ => rfl⟩
    have := Tour.leaf (k := k) (H := T.H) (L := T.L) (n - k) (by omega)
    rwa [← e] at this
  | f + 1, n, T, h0, h1, h2 => by
    by_cases h : k ≤ n
    · rw [winM_leaf h]
      have e : n = k + (n - k) := by omega
      refine ⟨?_, ⟨rfl, rfl, rfl⟩, fun m _ => rfl⟩
      have := Tour.leaf (k := k) (H := T.H) (L := T.L) (n - k) (by omega)
      rwa [← e] at this
    · have p : 2 ^ (f + 1) = 2 ^ f + 2 ^ f := by rw [Nat.pow_succ]; omega
      have q1 : k ≤ 2 * n * 2 ^ f := by rw [p, Nat.mul_add] at h2; rw [Nat.mul_assoc, Nat.two_mul]; omega
      have q2 : k ≤ (2 * n + 1) * 2 ^ f := by rw [Nat.add_mul]; omega
      rcases e1 : winM E k f (2 * n) T with ⟨a, T1⟩
      have i1 := winM_tour hE f (2 * n) T (by omega) (by omega) q1
      rw [e1] at i1
      obtain ⟨t1, k1, l1⟩ := i1
      simp only at t1 k1 l1
      rcases e2 : winM E k f (2 * n + 1) T1 with ⟨b, T2⟩
      have i2 := winM_tour hE f (2 * n + 1) T1 (by omega) (by omega) q2
      rw [e2] at i2
      obtain ⟨t2, k2, l2⟩ := i2
      simp only at t2 k2 l2
      rcases e3 : aheadM E T2 b a with ⟨c, T3⟩
      have i3 := aheadM_by hE T2 b a
      rw [e3] at i3
      obtain ⟨c3, H3, L3, _, d3, d4⟩ := i3
      simp only at c3 H3 L3 d3 d4
      rw [winM_node h e1 e2 e3]
      have H2 : T2.H = T.H := k2.H.trans k1.H
      have ta : Tour k T.H T2.L (2 * n) a := t1.congr (fun m _ hu => l2 m (fun hv => und_apart h0 hu hv)) (fun _ _ _ => rfl)
      have tb : Tour k T.H T2.L (2 * n + 1) b := by rw [k1.H] at t2; exact t2
      have up : ∀ (x : Nat), ∀ m, m ≠ n → upN T3.L n x m = T2.L m := fun x m hm => (upN_other _ _ _ _ hm).trans (by rw [L3])
      have nu1 : ∀ m, Und (2 * n) m → m ≠ n := fun m hu e => by have := hu.le; omega
      have nu2 : ∀ m, Und (2 * n + 1) m → m ≠ n := fun m hu e => by have := hu.le; omega
      have out : ∀ m, ¬ Und n m → T2.L m = T.L m := fun m hm => (l2 m (fun hu => hm hu.right)).trans (l1 m (fun hu => hm hu.left))
      rw [H2] at c3
      cases c with
      | true =>
        refine ⟨Tour.right n a b h0 (by omega) (ta.congr (fun m _ hu => up _ m (nu1 m hu)) (fun _ _ _ => rfl)) (tb.congr (fun m _ hu => up _ m (nu2 m hu)) (fun _ _ _ => rfl)) (upN_same _ _ _) (ahead_asym c3.symm), ⟨H3.trans H2, d3.trans (k2.due.trans k1.due), d4.trans (k2.dueEnd.trans k1.dueEnd)⟩, fun m hm => ?_⟩
        exact (up _ m (fun e => hm (e ▸ Und.refl n))).trans (out m hm)
      | false =>
        refine ⟨Tour.left n a b h0 (by omega) (ta.congr (fun m _ hu => up _ m (nu1 m hu)) (fun _ _ _ => rfl)) (tb.congr (fun m _ hu => up _ m (nu2 m hu)) (fun _ _ _ => rfl)) (upN_same _ _ _) c3.symm, ⟨H3.trans H2, d3.trans (k2.due.trans k1.due), d4.trans (k2.dueEnd.trans k1.dueEnd)⟩, fun m hm => ?_⟩
        exact (up _ m (fun e => hm (e ▸ Und.refl n))).trans (out m hm)
/-- From the leaf of the one that lost nowhere up to a node. -/
theorem rise_tour {σ : Type} {E : Env σ} (hE : ByKeys E) {k : Nat} {H0 : Nat → Option It} {L0 : Nat → Nat} {n s0 : Nat} (h : Tour k H0 L0 n s0) (T : TS σ) (hH : ∀ i, i < k → i ≠ s0 → T.H i = H0 i) (hL : ∀ m, m < k → Und n m → T.L m = L0 m) :
    ∃ (d s' : Nat) (T' : TS σ), (∀ f, riseM E (f + d) ((k + s0) / 2) s0 T = riseM E f (n / 2) s' T') ∧ Tour k T.H T'.L n s' ∧ Kept T T' ∧ ∀ m, ¬ Und n m → T'.L m = T.L m := by
  induction h generalizing T with
  | leaf s h => exact ⟨0, s, T, fun f => rfl, Tour.leaf s h, ⟨rfl, rfl, rfl⟩, fun _ _ => rfl⟩
  | left n a b h0 hk ta tb hLn hn iha ihb =>
    obtain ⟨d, s', T', hr, t', k', l'⟩ := iha T hH (fun m hm hu => hL m hm hu.left)
    have ub := tb.und
    have ua := ta.und
    have hba : b ≠ a := fun e => by subst e; exact und_apart h0 ua.1 ub.1
    have tb' : Tour k T.H T'.L (2 * n + 1) b := tb.congr (fun m hm hu => (l' m (fun hv => und_apart h0 hv hu)).trans (hL m hm hu.right)) (fun i hi hu => hH i hi (fun e => by subst e; exact und_apart h0 ua.1 hu))
    have Ln : T'.L n = b := (l' n (fun hu => by have := hu.le; omega)).trans ((hL n hk (Und.refl n)).trans hLn)
    have i3 := aheadM_by hE T' b s'
    rcases e3 : aheadM E T' b s' with ⟨c, T3⟩
    rw [e3] at i3
    obtain ⟨c3, H3, L3, _, d3, d4⟩ := i3
    simp only at c3 H3 L3 d3 d4
    rw [k'.H] at c3
    cases c with
    | true =>
      refine ⟨d + 1, b, { T3 with L := upN T3.L n s' }, fun f => ?_, ?_, ⟨H3.trans k'.H, d3.trans k'.due, d4.trans k'.dueEnd⟩, fun m hm => ?_⟩
      · rw [show f + (d + 1) = (f + 1) + d by omega, hr, show 2 * n / 2 = n by omega, ← Ln] 
        rw [← Ln] at e3
        exact riseM_up (by omega) e3
      · refine Tour.right n s' b h0 hk (t'.congr (fun m _ hu => ?_) (fun _ _ _ => rfl)) (tb'.congr (fun m _ hu => ?_) (fun _ _ _ => rfl)) (upN_same _ _ _) (ahead_asym c3.symm)
        · exact (upN_other _ _ _ _ (fun e => by have := hu.le; omega)).trans (by rw [L3])
        · exact (upN_other _ _ _ _ (fun e => by have := hu.le; omega)).trans (by rw [L3])
      · exact (upN_other _ _ _ _ (fun e => hm ((show m = n from e) ▸ Und.refl n))).trans ((congrFun L3 m).trans (l' m (fun hu => hm hu.left)))
    | false =>
      refine ⟨d + 1, s', T3, fun f => ?_, ?_, ⟨H3.trans k'.H, d3.trans k'.due, d4.trans k'.dueEnd⟩, fun m hm => (congrFun L3 m).trans (l' m (fun hu => hm hu.left))⟩
      · rw [show f + (d + 1) = (f + 1) + d by omega, hr, show 2 * n / 2 = n by omega]
        rw [← Ln] at e3
        exact riseM_stay (by omega) e3
      · rw [L3]
        exact Tour.left n s' b h0 hk t' tb' Ln c3.symm
  | right n a b h0 hk ta tb hLn hn iha ihb =>
    obtain ⟨d, s', T', hr, t', k', l'⟩ := ihb T hH (fun m hm hu => hL m hm hu.right)
    have ub := tb.und
    have ua := ta.und
    have ta' : Tour k T.H T'.L (2 * n) a := ta.congr (fun m hm hu => (l' m (fun hv => und_apart h0 hu hv)).trans (hL m hm hu.left)) (fun i hi hu => hH i hi (fun e => by subst e; exact und_apart h0 hu ub.1))
    have Ln : T'.L n = a := (l' n (fun hu => by have := hu.le; omega)).trans ((hL n hk (Und.refl n)).trans hLn)
    have i3 := aheadM_by hE T' a s'
    rcases e3 : aheadM E T' a s' with ⟨c, T3⟩
    rw [e3] at i3
    obtain ⟨c3, H3, L3, _, d3, d4⟩ := i3
    simp only at c3 H3 L3 d3 d4
    rw [k'.H] at c3
    cases c with
    | true =>
      refine ⟨d + 1, a, { T3 with L := upN T3.L n s' }, fun f => ?_, ?_, ⟨H3.trans k'.H, d3.trans k'.due, d4.trans k'.dueEnd⟩, fun m hm => ?_⟩
      · rw [show f + (d + 1) = (f + 1) + d by omega, hr, show (2 * n + 1) / 2 = n by omega, ← Ln]
        rw [← Ln] at e3
        exact riseM_up (by omega) e3
      · refine Tour.left n a s' h0 hk (ta'.congr (fun m _ hu => ?_) (fun _ _ _ => rfl)) (t'.congr (fun m _ hu => ?_) (fun _ _ _ => rfl)) (upN_same _ _ _) (ahead_asym c3.symm)
        · exact (upN_other _ _ _ _ (fun e => by have := hu.le; omega)).trans (by rw [L3])
        · exact (upN_other _ _ _ _ (fun e => by have := hu.le; omega)).trans (by rw [L3])
      · exact (upN_other _ _ _ _ (fun e => hm ((show m = n from e) ▸ Und.refl n))).trans ((congrFun L3 m).trans (l' m (fun hu => hm hu.right)))
    | false =>
      refine ⟨d + 1, s', T3, fun f => ?_, ?_, ⟨H3.trans k'.H, d3.trans k'.due, d4.trans k'.dueEnd⟩, fun m hm => (congrFun L3 m).trans (l' m (fun hu => hm hu.right))⟩
      · rw [show f + (d + 1) = (f + 1) + d by omega, hr, show (2 * n + 1) / 2 = n by omega]
        rw [← Ln] at e3
        exact riseM_stay (by omega) e3
      · rw [L3]
        exact Tour.right n a s' h0 hk ta' t' Ln c3.symm
end Go.Proofs.Ytjlcbhblpofjhaa
