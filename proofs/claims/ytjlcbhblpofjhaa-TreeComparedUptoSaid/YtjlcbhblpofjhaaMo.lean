/- A tree over lists: what is left, how many. No walk. -/
import Derived.Test.YtjlcbhblpofjhaaMp
import Derived.Test.YtjlcbhblpofjhaaNx0
import Derived.Test.YtjlcbhblpofjhaaOf
namespace Go.Proofs.Ytjlcbhblpofjhaa
/-- What the sources of lists and an order that counts know. -/
structure OS where
  rest : Nat → List It
  calls : Nat
def nsOf (s : OS) (i : Nat) : Ans × OS := (ansOf (s.rest i), { s with rest := upN s.rest i (s.rest i).tail })
/-- Its sources are lists; its order is by the keys, and counts, or does nothing else. -/
structure OfEnv (E : Env OS) : Prop where
  key : ByKeys E
  keeps : ∀ s x y, (E.nO s x y).2.rest = s.rest
  src : ∀ s i, E.nS s i = nsOf s i
theorem askM_lists {E : Env OS} (hE : OfEnv E) : ∀ (f : Nat) (T : TS OS), ∃ T1, askM E f T = .live T1 ∧ T1.L = T.L ∧ T1.first = T.first ∧ T1.played = T.played ∧ T1.due = T.due + f ∧ T1.dueEnd = T.dueEnd ∧ T1.cmpd = T.cmpd ∧ T1.s.calls = T.s.calls ∧
    ∀ i, T1.H i = (if T.due ≤ i ∧ i < T.due + f then (match T.s.rest i with | x :: _ => some x | [] => T.H i) else T.H i) ∧ T1.s.rest i = (if T.due ≤ i ∧ i < T.due + f then (T.s.rest i).tail else T.s.rest i)
  | 0, T => ⟨T, rfl, rfl, rfl, rfl, rfl, rfl, rfl, rfl, fun i => by rw [if_neg (by omega), if_neg (by omega)]; exact ⟨rfl, rfl⟩⟩
  | f + 1, T => by
    have hq : E.nS T.s T.due = nsOf T.s T.due := hE.src _ _
    unfold nsOf ansOf at hq
    rcases hr : T.s.rest T.due with _ | ⟨x, r⟩
    · rw [hr] at hq
      obtain ⟨T1, h1, h2, h3, h4, h5, h6, h7, h8, h9⟩ := askM_lists hE f { T with due := T.due + 1, s := { T.s with rest := upN T.s.rest T.due [] } }
      refine ⟨T1, by rw [askM_end hq]; exact h1, h2, h3, h4, by rw [h5]; show T.due + 1 + f = _; omega, h6, h7, h8, fun i => ?_⟩
      have hh := h9 i
      change T1.H i = (if T.due + 1 ≤ i ∧ i < T.due + 1 + f then (match upN T.s.rest T.due [] i with | x :: _ => some x | [] => T.H i) else T.H i) ∧ T1.s.rest i = (if T.due + 1 ≤ i ∧ i < T.due + 1 + f then (upN T.s.rest T.due [] i).tail else upN T.s.rest T.due [] i) at hh
      rw [hh.1, hh.2]
      by_cases e : i = T.due
      · subst e
        have q1 : ¬ (T.due + 1 ≤ T.due ∧ T.due < T.due + 1 + f) := by omega
        have q2 : T.due ≤ T.due ∧ T.due < T.due + (f + 1) := by omega
        rw [if_neg q1, if_neg q1, if_pos q2, if_pos q2, upN_same, hr]
        exact ⟨rfl, rfl⟩
      · rw [upN_other _ _ _ _ e]
        by_cases c : T.due + 1 ≤ i ∧ i < T.due + 1 + f
        · have q2 : T.due ≤ i ∧ i < T.due + (f + 1) := by omega
          rw [if_pos c, if_pos c, if_pos q2, if_pos q2]; exact ⟨rfl, rfl⟩
        · have q2 : ¬ (T.due ≤ i ∧ i < T.due + (f + 1)) := by omega
          rw [if_neg c, if_neg c, if_neg q2, if_neg q2]; exact ⟨rfl, rfl⟩
    · rw [hr] at hq
      obtain ⟨T1, h1, h2, h3, h4, h5, h6, h7, h8, h9⟩ := askM_lists hE f { T with H := upN T.H T.due (some x), due := T.due + 1, s := { T.s with rest := upN T.s.rest T.due r } }
      refine ⟨T1, by rw [askM_got hq]; exact h1, h2, h3, h4, by rw [h5]; show T.due + 1 + f = _; omega, h6, h7, h8, fun i => ?_⟩
      have hh := h9 i
      change T1.H i = (if T.due + 1 ≤ i ∧ i < T.due + 1 + f then (match upN T.s.rest T.due r i with | x :: _ => some x | [] => upN T.H T.due (some x) i) else upN T.H T.due (some x) i) ∧ T1.s.rest i = (if T.due + 1 ≤ i ∧ i < T.due + 1 + f then (upN T.s.rest T.due r i).tail else upN T.s.rest T.due r i) at hh
      rw [hh.1, hh.2]
      by_cases e : i = T.due
      · subst e
        have q1 : ¬ (T.due + 1 ≤ T.due ∧ T.due < T.due + 1 + f) := by omega
        have q2 : T.due ≤ T.due ∧ T.due < T.due + (f + 1) := by omega
        rw [if_neg q1, if_neg q1, if_pos q2, if_pos q2, upN_same, upN_same, hr]
        exact ⟨rfl, rfl⟩
      · rw [upN_other _ _ _ _ e, upN_other _ _ _ _ e]
        by_cases c : T.due + 1 ≤ i ∧ i < T.due + 1 + f
        · have q2 : T.due ≤ i ∧ i < T.due + (f + 1) := by omega
          rw [if_pos c, if_pos c, if_pos q2, if_pos q2]; exact ⟨rfl, rfl⟩
        · have q2 : ¬ (T.due ≤ i ∧ i < T.due + (f + 1)) := by omega
          rw [if_neg c, if_neg c, if_neg q2, if_neg q2]; exact ⟨rfl, rfl⟩
def tot (f : Nat → Nat) : Nat → Nat
  | 0 => 0
  | k + 1 => tot f k + f k
theorem tot_congr {f g : Nat → Nat} : ∀ k, (∀ i, i < k → f i = g i) → tot f k = tot g k
  | 0, _ => rfl
  | k + 1, h => by unfold tot; rw [tot_congr k fun i hi => h i (by omega), h k (by omega)]
theorem tot_one {f g : Nat → Nat} : ∀ k j, j < k → (∀ i, i < k → i ≠ j → f i = g i) → f j = g j + 1 → tot f k = tot g k + 1
  | 0, j, h, _, _ => by omega
  | k + 1, j, h, hh, hj => by
    unfold tot
    by_cases e : j = k
    · subst e
      rw [tot_congr (f := f) (g := g) j fun i hi => hh i (by omega) (by omega), hj]; omega
    · rw [tot_one k j (by omega) (fun i hi hij => hh i (by omega) hij) hj, hh k (by omega) (by omega)]; omega
theorem tot_zero {f : Nat → Nat} : ∀ k, (∀ i, i < k → f i = 0) → tot f k = 0
  | 0, _ => rfl
  | k + 1, h => by unfold tot; rw [tot_zero k fun i hi => h i (by omega), h k (by omega)]
theorem tot_all {f : Nat → Nat} : ∀ k, tot f k = 0 → ∀ i, i < k → f i = 0
  | 0, _, i, hi => by omega
  | k + 1, h, i, hi => by
    unfold tot at h
    by_cases e : i = k
    · subst e; omega
    · exact tot_all k (by omega) i (by omega)
/-- How many are left of one source: in hand, and behind. -/
def left1 (T : TS OS) (i : Nat) : Nat := (match T.H i with | some _ => 1 | none => 0) + (T.s.rest i).length
def rem (k : Nat) (T : TS OS) : Nat := tot (left1 T) k
/-- A tree of lists between two Nexts. -/
structure Iv (k : Nat) (T : TS OS) : Prop where
  lost : Lost k T
  fst : T.played = true → T.first < k
  span : T.dueEnd ≤ k ∧ T.due ≤ T.dueEnd
  owed : ∀ i, i < k → T.H i = none → T.s.rest i = [] ∨ (T.due ≤ i ∧ i < T.dueEnd)
  free : ∀ i, T.due ≤ i → i < T.dueEnd → T.H i = none
  kind : (T.played = false ∧ T.due = 0 ∧ T.dueEnd = k) ∨ (T.played = true ∧ (T.due = T.dueEnd ∨ (T.due = T.first ∧ T.dueEnd = T.first + 1)))
/-- What a Next does to a tree of lists. -/
theorem next_lists {E : Env OS} (hE : OfEnv E) {k : Nat} (h0 : 0 < k) (h64 : k ≤ 64) {T : TS OS} (hI : Iv k T) :
    ∃ (T1 T2 : TS OS) (s : Nat), askM E (T.dueEnd - T.due) T = .live T1 ∧ playM E k T1 = T2 ∧ s = T2.first ∧ s < k ∧ T2.H = T1.H ∧ T2.s.rest = T1.s.rest ∧ (∀ i, i < k → aheadB T1.H i s = false) ∧ (T1.H s = none → ∀ i, i < k → T1.H i = none) ∧
      (∀ i, T1.H i = (if T.due ≤ i ∧ i < T.dueEnd then (match T.s.rest i with | x :: _ => some x | [] => none) else T.H i) ∧ T1.s.rest i = (if T.due ≤ i ∧ i < T.dueEnd then (T.s.rest i).tail else T.s.rest i)) ∧
      rem k T1 = rem k T ∧ (∀ i, i < k → T1.H i = none → T1.s.rest i = []) ∧ T2.cmpd ≤ T.cmpd + (if T.played = true then dgf 7 (k - 1) else k - 1) ∧ T2.played = true ∧ T2.due = T.dueEnd ∧ T2.dueEnd = T.dueEnd ∧ Tour k T1.H T2.L 1 s ∧ T1.cmpd = T.cmpd ∧ T1.s.calls = T.s.calls := by
  obtain ⟨T1, h1, h2, h3, h4, h5, h6, h7, h8, h9⟩ := askM_lists hE (T.dueEnd - T.due) T
  have hd : T.due + (T.dueEnd - T.due) = T.dueEnd := by have := hI.span.2; omega
  have h9' : ∀ i, T1.H i = (if T.due ≤ i ∧ i < T.dueEnd then (match T.s.rest i with | x :: _ => some x | [] => none) else T.H i) ∧ T1.s.rest i = (if T.due ≤ i ∧ i < T.dueEnd then (T.s.rest i).tail else T.s.rest i) := fun i => by
    have h := h9 i
    rw [hd] at h
    refine ⟨h.1.trans ?_, h.2⟩
    by_cases c : T.due ≤ i ∧ i < T.dueEnd
    · rw [if_pos c, if_pos c]
      cases T.s.rest i with
      | nil => exact hI.free i c.1 c.2
      | cons x r => rfl
    · rw [if_neg c, if_neg c]
  have hL : Lost k T1 := fun hp => by
    rw [h4] at hp
    obtain ⟨H0, ht, hh⟩ := hI.lost hp
    rw [h2, h3]
    refine ⟨H0, ht, fun i hi hne => ?_⟩
    rw [(h9' i).1, if_neg]
    · exact hh i hi hne
    · intro c
      rcases hI.kind with q | q
      · rw [q.1] at hp; cases hp
      · rcases q.2 with q | q <;> omega
  obtain ⟨pt, pk, pp⟩ := play_tour hE.key h0 h64 hL
  have tf := tour_first pt
  have keep := play_keeps (E := E) (fun _ s => s.rest = T1.s.rest) (fun c s x y h => (hE.keeps s x y).trans h) (k := k) T1 rfl
  have hc := play_cmpd (E := E) h0 h64 T1 (fun hp => by rw [h3]; exact hI.fst (h4 ▸ hp))
  rw [h4, h7] at hc
  refine ⟨T1, _, _, h1, rfl, rfl, tf.1, pk.H, keep, tf.2.1, tf.2.2, h9', ?_, fun i hi hn => ?_, hc, pp, pk.due.trans (h5.trans hd), pk.dueEnd.trans h6, pt, h7, h8⟩
  · refine tot_congr k fun i hi => ?_
    unfold left1
    rw [(h9' i).1, (h9' i).2]
    by_cases c : T.due ≤ i ∧ i < T.dueEnd
    · rw [if_pos c, if_pos c, hI.free i c.1 c.2]
      cases T.s.rest i with
      | nil => rfl
      | cons x r => simp only [List.tail_cons, List.length_cons]; omega
    · rw [if_neg c, if_neg c]
  · rw [(h9' i).1] at hn
    rw [(h9' i).2]
    by_cases c : T.due ≤ i ∧ i < T.dueEnd
    · rw [if_pos c] at hn ⊢
      cases hr : T.s.rest i with
      | nil => rfl
      | cons x r => rw [hr] at hn; cases hn
    · rw [if_neg c] at hn ⊢
      exact (hI.owed i hi hn).elim id (fun q => absurd q c)
/-- A Next, in short: it gives one while there are some. -/
theorem next_count {E : Env OS} (hE : OfEnv E) {k : Nat} (h0 : 0 < k) (h64 : k ≤ 64) {T : TS OS} (hI : Iv k T) :
    ∃ (a : NAns) (T' : TS OS), nextM E k T = (a, .live T') ∧ Iv k T' ∧ T'.played = true ∧ T'.cmpd ≤ T.cmpd + (if T.played = true then dgf 7 (k - 1) else k - 1) ∧ a.err = 0 ∧ ((rem k T = rem k T' + 1 ∧ ∃ x, a.it = some x) ∨ (rem k T = 0 ∧ rem k T' = 0 ∧ a.it = none)) ∧
      ∀ (P : Nat → OS → Prop), (∀ c s x y, P c s → P (c + 1) (E.nO s x y).2) → (∀ c s s', s'.calls = s.calls → P c s → P c s') → P T.cmpd T.s → P T'.cmpd T'.s := by
  obtain ⟨T1, T2, s, h1, rfl, hs, hsk, hH, hR, hl, hn, h9, hrem, hex, hc, hp, hd1, hd2, ht, hc1, hc2⟩ := next_lists hE h0 h64 hI
  have KP : ∀ (P : Nat → OS → Prop), (∀ c s x y, P c s → P (c + 1) (E.nO s x y).2) → (∀ c s s', s'.calls = s.calls → P c s → P c s') → P T.cmpd T.s → P (playM E k T1).cmpd (playM E k T1).s := fun P h1 h2 h3 => play_keeps P h1 T1 (by rw [hc1]; exact h2 _ _ _ hc2 h3)
  rcases hx : T1.H s with _ | x
  · have hx2 : (playM E k T1).H (playM E k T1).first = none := by rw [hH, ← hs]; exact hx
    have r0 : rem k T1 = 0 := tot_zero k fun i hi => by
      unfold left1
      rw [hn hx i hi, hex i hi (hn hx i hi)]; rfl
    refine ⟨_, _, nextM_none h1 hx2, ⟨fun _ => ⟨_, by rw [← hs]; exact ht, fun i hi _ => congrFun hH i⟩, fun _ => by rw [← hs]; exact hsk, by rw [hd1, hd2]; exact ⟨hI.span.1, Nat.le_refl _⟩, fun i hi h => ?_, fun i a b => by rw [hd1] at a; rw [hd2] at b; omega, Or.inr ⟨hp, Or.inl (by rw [hd1, hd2])⟩⟩, hp, hc, rfl, Or.inr ⟨hrem.symm.trans r0, ?_, rfl⟩, KP⟩
    · left; rw [hR]; rw [hH] at h; exact hex i hi h
    · refine Eq.trans (tot_congr k fun i hi => ?_) r0
      unfold left1; rw [hH, hR]
  · have hx2 : (playM E k T1).H (playM E k T1).first = some x := by rw [hH, ← hs]; exact hx
    have tk : takeM (playM E k T1) = { playM E k T1 with H := upN (playM E k T1).H (playM E k T1).first none, due := (playM E k T1).first, dueEnd := (playM E k T1).first + 1 } := by unfold takeM; rw [hx2]
    refine ⟨_, _, nextM_some h1 hx2, ?_, ?_, ?_, rfl, Or.inl ⟨?_, x, rfl⟩, by rw [tk]; exact KP⟩
    · rw [tk, ← hs]
      refine ⟨fun _ => ⟨T1.H, (by show Tour k T1.H (playM E k T1).L 1 (playM E k T1).first; rw [← hs]; exact ht), fun i hi hne => ?_⟩, fun _ => by show (playM E k T1).first < k; rw [← hs]; exact hsk, ⟨by show s + 1 ≤ k; omega, by show s ≤ s + 1; omega⟩, fun i hi h => ?_, fun i a b => ?_, Or.inr ⟨hp, Or.inr ⟨hs, congrArg (· + 1) hs⟩⟩⟩
      · exact (upN_other _ _ _ _ (fun e => hne (e.trans hs))).trans (congrFun hH i)
      · by_cases e : i = s
        · subst e; right; exact ⟨Nat.le_refl _, Nat.lt_succ_self _⟩
        · left
          have h' : (playM E k T1).H i = none := (upN_other _ _ _ _ e).symm.trans h
          rw [hH] at h'
          show (playM E k T1).s.rest i = []
          rw [hR]; exact hex i hi h'
      · have e : i = s := by have a' : s ≤ i := a; have b' : i < s + 1 := b; omega
        subst e; exact upN_same _ _ _
    · rw [tk]; exact hp
    · rw [tk]; exact hc
    · rw [← hrem]
      refine tot_one k s hsk (fun i hi hne => ?_) ?_
      · unfold left1
        rw [tk, ← hs]
        simp only
        rw [upN_other _ _ _ _ hne, hH, hR]
      · unfold left1
        rw [tk, ← hs]
        simp only
        rw [upN_same, hx, hR]
        show 1 + (T1.s.rest s).length = 0 + (T1.s.rest s).length + 1
        omega
theorem Iv.new {k : Nat} (s : OS) : Iv k (T0 k s) :=
  ⟨fun h => (by cases h), fun h => (by cases h), ⟨Nat.le_refl _, Nat.zero_le _⟩, fun i hi _ => Or.inr ⟨Nat.zero_le _, hi⟩, fun _ _ _ => rfl, Or.inl ⟨rfl, rfl, rfl⟩⟩
end Go.Proofs.Ytjlcbhblpofjhaa
