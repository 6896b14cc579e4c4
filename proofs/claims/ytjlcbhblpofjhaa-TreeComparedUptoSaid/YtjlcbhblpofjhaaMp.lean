/- play: who is first; how often the order is called. No walk. -/
import Derived.Test.YtjlcbhblpofjhaaMt
namespace Go.Proofs.Ytjlcbhblpofjhaa
theorem riseM_enough {σ : Type} {E : Env σ} : ∀ (f j n s : Nat) (T : TS σ), n < 2 ^ f → riseM E (f + j) n s T = riseM E f n s T
  | 0, j, n, s, T, h => by
    obtain rfl : n = 0 := by simpa using h
    rw [riseM_zero, riseM_zero]
  | f + 1, j, n, s, T, h => by
    by_cases h0 : n = 0
    · subst h0; rw [riseM_zero, riseM_zero]
    · have h2 : n / 2 < 2 ^ f := by rw [Nat.pow_succ] at h; omega
      rw [show f + 1 + j = (f + j) + 1 by omega]
      rcases e : aheadM E T (T.L n) s with ⟨c, T'⟩
      cases c with
      | true => rw [riseM_up h0 e, riseM_up h0 e]; exact riseM_enough f j _ _ _ h2
      | false => rw [riseM_stay h0 e, riseM_stay h0 e]; exact riseM_enough f j _ _ _ h2
/-- What holds of a tree between two Nexts: who lost where, before the last one was taken. -/
def Lost {σ : Type} (k : Nat) (T : TS σ) : Prop := T.played = true → ∃ H0, Tour k H0 T.L 1 T.first ∧ ∀ i, i < k → i ≠ T.first → T.H i = H0 i
theorem play_tour {σ : Type} {E : Env σ} (hE : ByKeys E) {k : Nat} (h0 : 0 < k) (h64 : k ≤ 64) {T : TS σ} (hI : Lost k T) : Tour k T.H (playM E k T).L 1 (playM E k T).first ∧ Kept T (playM E k T) ∧ (playM E k T).played = true := by
  unfold playM
  by_cases hp : T.played = true
  · rw [if_pos hp]
    obtain ⟨H0, ht, hh⟩ := hI hp
    have sk := ht.und.2
    obtain ⟨d, s', T', hr, t', k', _⟩ := rise_tour hE ht { T with played := false } hh (fun _ _ _ => rfl)
    have r7 := hr 7
    rw [show 1 / 2 = 0 by omega, riseM_zero, riseM_enough 7 d _ _ _ (by omega)] at r7
    rw [r7]
    exact ⟨t', ⟨k'.H, k'.due, k'.dueEnd⟩, rfl⟩
  · rw [if_neg hp]
    obtain ⟨t', k', _⟩ := winM_tour hE (k := k) 7 1 { T with played := false } (by omega) (by omega) (by omega)
    exact ⟨t', ⟨k'.H, k'.due, k'.dueEnd⟩, rfl⟩
/-- The first one is ahead of all, and is there if one is. -/
theorem tour_first {k : Nat} {H : Nat → Option It} {L : Nat → Nat} {s : Nat} (h : Tour k H L 1 s) : s < k ∧ (∀ i, i < k → aheadB H i s = false) ∧ (H s = none → ∀ i, i < k → H i = none) := by
  have hl : ∀ i, i < k → aheadB H i s = false := fun i hi => h.least i hi (und_one _ (by omega))
  refine ⟨h.und.2, hl, fun hn i hi => ?_⟩
  have := hl i hi
  unfold aheadB at this
  rw [hn] at this
  cases hx : H i with
  | none => rfl
  | some x => rw [hx] at this; simp at this
/-- Binary digits. -/
def dgf : Nat → Nat → Nat
  | 0, _ => 0
  | f + 1, n => if n = 0 then 0 else dgf f (n / 2) + 1
theorem dgf_mono : ∀ (f n m : Nat), n ≤ m → dgf f n ≤ dgf f m
  | 0, _, _, _ => Nat.le_refl _
  | f + 1, n, m, h => by
    unfold dgf
    by_cases h0 : n = 0
    · rw [if_pos h0]; omega
    · rw [if_neg h0, if_neg (by omega)]
      have := dgf_mono f (n / 2) (m / 2) (by omega)
      omega
theorem riseM_cmpd {σ : Type} {E : Env σ} : ∀ (f n s : Nat) (T : TS σ), (riseM E f n s T).2.cmpd ≤ T.cmpd + dgf f n
  | 0, n, s, T => by rw [riseM]; exact Nat.le_add_right _ _
  | f + 1, n, s, T => by
    by_cases h0 : n = 0
    · subst h0; rw [riseM_zero]; exact Nat.le_add_right _ _
    · have m := ahead_more E T (T.L n) s
      have e2 : dgf (f + 1) n = dgf f (n / 2) + 1 := by rw [dgf, if_neg h0]
      rcases e : aheadM E T (T.L n) s with ⟨c, T'⟩
      rw [e] at m
      cases c with
      | true =>
        rw [riseM_up h0 e]
        have := riseM_cmpd (E := E) f (n / 2) (T.L n) { T' with L := upN T'.L n s }
        simp only at this m
        omega
      | false =>
        rw [riseM_stay h0 e]
        have := riseM_cmpd (E := E) f (n / 2) s T'
        simp only at m
        omega
def cntW (k : Nat) : Nat → Nat → Nat
  | 0, _ => 0
  | f + 1, n => if k ≤ n then 0 else cntW k f (2 * n) + cntW k f (2 * n + 1) + 1
theorem cntW_le : ∀ k, k < 65 → cntW k 7 1 ≤ k - 1 := by decide
theorem winM_cmpd {σ : Type} {E : Env σ} {k : Nat} : ∀ (f n : Nat) (T : TS σ), k ≤ n * 2 ^ f → (winM E k f n T).2.cmpd ≤ T.cmpd + cntW k f n
  | 0, n, T, h => by rw [winM_leaf (by simpa using h)]; exact Nat.le_add_right _ _
  | f + 1, n, T, h2 => by
    by_cases h : k ≤ n
    · rw [winM_leaf h]; exact Nat.le_add_right _ _
    · have p : 2 ^ (f + 1) = 2 ^ f + 2 ^ f := by rw [Nat.pow_succ]; omega
      have q1 : k ≤ 2 * n * 2 ^ f := by rw [p, Nat.mul_add] at h2; rw [Nat.mul_assoc, Nat.two_mul]; omega
      have q2 : k ≤ (2 * n + 1) * 2 ^ f := by rw [Nat.add_mul]; omega
      have e0 : cntW k (f + 1) n = cntW k f (2 * n) + cntW k f (2 * n + 1) + 1 := by rw [cntW, if_neg h]
      rcases e1 : winM E k f (2 * n) T with ⟨a, T1⟩
      have i1 := winM_cmpd (E := E) f (2 * n) T q1
      rw [e1] at i1
      rcases e2 : winM E k f (2 * n + 1) T1 with ⟨b, T2⟩
      have i2 := winM_cmpd (E := E) f (2 * n + 1) T1 q2
      rw [e2] at i2
      rcases e3 : aheadM E T2 b a with ⟨c, T3⟩
      have i3 := ahead_more E T2 b a
      rw [e3] at i3
      rw [winM_node h e1 e2 e3]
      simp only at i1 i2 i3
      cases c with
      | true => show T3.cmpd ≤ _; omega
      | false => show T3.cmpd ≤ _; omega
theorem play_cmpd {σ : Type} {E : Env σ} {k : Nat} (h0 : 0 < k) (h64 : k ≤ 64) (T : TS σ) (hf : T.played = true → T.first < k) : (playM E k T).cmpd ≤ T.cmpd + (if T.played = true then dgf 7 (k - 1) else k - 1) := by
  unfold playM
  by_cases hp : T.played = true
  · rw [if_pos hp, if_pos hp]
    have := riseM_cmpd (E := E) 7 ((k + T.first) / 2) T.first { T with played := false }
    have m := dgf_mono 7 ((k + T.first) / 2) (k - 1) (by have := hf hp; omega)
    show (riseM E 7 ((k + T.first) / 2) T.first { T with played := false }).2.cmpd ≤ _
    simp only at this
    omega
  · rw [if_neg hp, if_neg hp]
    have := winM_cmpd (E := E) (k := k) 7 1 { T with played := false } (by omega)
    have c := cntW_le k (by omega)
    show (winM E k 7 1 { T with played := false }).2.cmpd ≤ _
    simp only at this
    omega
/-- What each call of the order keeps, all keep. -/
theorem play_keeps {σ : Type} {E : Env σ} (P : Nat → σ → Prop) (hP : ∀ c s x y, P c s → P (c + 1) (E.nO s x y).2) {k : Nat} (T : TS σ) (h : P T.cmpd T.s) : P (playM E k T).cmpd (playM E k T).s := by
  have ha : ∀ (T : TS σ) i j, P T.cmpd T.s → P (aheadM E T i j).2.cmpd (aheadM E T i j).2.s := fun T i j h => by
    unfold aheadM
    split
    · exact hP _ _ _ _ h
    · exact h
    · exact h
  have hw : ∀ (f n : Nat) (T : TS σ), P T.cmpd T.s → P (winM E k f n T).2.cmpd (winM E k f n T).2.s := by
    intro f
    induction f with
    | zero => intro n T h; exact h
    | succ f ih =>
      intro n T h
      by_cases hk : k ≤ n
      · rw [winM_leaf hk]; exact h
      · rcases e1 : winM E k f (2 * n) T with ⟨a, T1⟩
        have i1 := ih (2 * n) T h
        rw [e1] at i1
        rcases e2 : winM E k f (2 * n + 1) T1 with ⟨b, T2⟩
        have i2 := ih (2 * n + 1) T1 i1
        rw [e2] at i2
        rcases e3 : aheadM E T2 b a with ⟨c, T3⟩
        have i3 := ha T2 b a i2
        rw [e3] at i3
        rw [winM_node hk e1 e2 e3]
        cases c <;> exact i3
  have hr : ∀ (f n s : Nat) (T : TS σ), P T.cmpd T.s → P (riseM E f n s T).2.cmpd (riseM E f n s T).2.s := by
    intro f
    induction f with
    | zero => intro n s T h; exact h
    | succ f ih =>
      intro n s T h
      by_cases h0 : n = 0
      · subst h0; rw [riseM_zero]; exact h
      · rcases e : aheadM E T (T.L n) s with ⟨c, T'⟩
        have i3 := ha T (T.L n) s h
        rw [e] at i3
        cases c with
        | true => rw [riseM_up h0 e]; exact ih _ _ _ i3
        | false => rw [riseM_stay h0 e]; exact ih _ _ _ i3
  unfold playM
  split
  · exact hr 7 _ _ _ h
  · exact hw 7 _ _ h
end Go.Proofs.Ytjlcbhblpofjhaa
