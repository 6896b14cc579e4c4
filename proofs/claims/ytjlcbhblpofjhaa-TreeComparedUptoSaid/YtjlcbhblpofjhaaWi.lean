/- The tree of losers: winner. -/
import Derived.Test.YtjlcbhblpofjhaaAh
namespace Go.Proofs.Ytjlcbhblpofjhaa
open Go.RowKit
set_option maxRecDepth 100000
/-- All meet at a node and below it: who lost at none of these. -/
def winM {σ : Type} (E : Env σ) (k : Nat) : Nat → Nat → TS σ → Nat × TS σ
  | 0, n, T => (n - k, T)
  | f + 1, n, T =>
    if k ≤ n then (n - k, T) else
      if (aheadM E (winM E k f (2 * n + 1) (winM E k f (2 * n) T).2).2 (winM E k f (2 * n + 1) (winM E k f (2 * n) T).2).1 (winM E k f (2 * n) T).1).1 = true
      then ((winM E k f (2 * n + 1) (winM E k f (2 * n) T).2).1, { (aheadM E (winM E k f (2 * n + 1) (winM E k f (2 * n) T).2).2 (winM E k f (2 * n + 1) (winM E k f (2 * n) T).2).1 (winM E k f (2 * n) T).1).2 with L := upN (aheadM E (winM E k f (2 * n + 1) (winM E k f (2 * n) T).2).2 (winM E k f (2 * n + 1) (winM E k f (2 * n) T).2).1 (winM E k f (2 * n) T).1).2.L n (winM E k f (2 * n) T).1 })
      else ((winM E k f (2 * n) T).1, { (aheadM E (winM E k f (2 * n + 1) (winM E k f (2 * n) T).2).2 (winM E k f (2 * n + 1) (winM E k f (2 * n) T).2).1 (winM E k f (2 * n) T).1).2 with L := upN (aheadM E (winM E k f (2 * n + 1) (winM E k f (2 * n) T).2).2 (winM E k f (2 * n + 1) (winM E k f (2 * n) T).2).1 (winM E k f (2 * n) T).1).2.L n (winM E k f (2 * n + 1) (winM E k f (2 * n) T).2).1 })
theorem winM_leaf {σ : Type} {E : Env σ} {k f n : Nat} {T : TS σ} (h : k ≤ n) : winM E k f n T = (n - k, T) := by
  cases f with
  | zero => rfl
  | succ f => rw [winM, if_pos h]
theorem winM_node {σ : Type} {E : Env σ} {k f n : Nat} {T : TS σ} (h : ¬ k ≤ n) {a b : Nat} {c : Bool} {T1 T2 T3 : TS σ} (h1 : winM E k f (2 * n) T = (a, T1)) (h2 : winM E k f (2 * n + 1) T1 = (b, T2)) (h3 : aheadM E T2 b a = (c, T3)) :
    winM E k (f + 1) n T = if c = true then (b, { T3 with L := upN T3.L n a }) else (a, { T3 with L := upN T3.L n b }) := by
  rw [winM, if_neg h, h1, h2, h3]
theorem ahead_more {σ : Type} (E : Env σ) (T : TS σ) (one other : Nat) : (aheadM E T one other).2.cmpd ≤ T.cmpd + 1 := by
  unfold aheadM
  split <;> simp
theorem winM_lt {σ : Type} {E : Env σ} {k : Nat} : ∀ (f n : Nat) (T : TS σ), 0 < n → n < 2 * k → k ≤ n * 2 ^ f → (winM E k f n T).1 < k ∧ (winM E k f n T).2.cmpd + 1 ≤ T.cmpd + 2 ^ f
  | 0, n, T, h0, h1, h2 => by
    rw [winM_leaf (by simpa using h2)]
    exact ⟨by show n - k < k; omega, by show T.cmpd + 1 ≤ T.cmpd + 2 ^ 0; simp⟩
  | f + 1, n, T, h0, h1, h2 => by
    by_cases h : k ≤ n
    · rw [winM_leaf h]
      exact ⟨by show n - k < k; omega, by show T.cmpd + 1 ≤ _; have := Nat.two_pow_pos (f + 1); omega⟩
    · rcases e1 : winM E k f (2 * n) T with ⟨a, T1⟩
      rcases e2 : winM E k f (2 * n + 1) T1 with ⟨b, T2⟩
      rcases e3 : aheadM E T2 b a with ⟨c, T3⟩
      have p : 2 ^ (f + 1) = 2 ^ f + 2 ^ f := by rw [Nat.pow_succ]; omega
      have i1 := winM_lt (E := E) (k := k) f (2 * n) T (by omega) (by omega) (by rw [p] at h2; rw [Nat.mul_assoc, Nat.mul_comm 2, Nat.mul_assoc]; rw [Nat.mul_add] at h2; rw [Nat.mul_two, Nat.mul_add]; exact h2)
      have i2 := winM_lt (E := E) (k := k) f (2 * n + 1) T1 (by omega) (by omega) (by rw [p, Nat.mul_add] at h2; rw [Nat.add_mul, Nat.mul_assoc, Nat.two_mul]; omega)
      have i3 := ahead_more E T2 b a
      rw [e1] at i1
      rw [e2] at i2
      rw [e3] at i3
      rw [winM_node h e1 e2 e3]
      cases c with
      | true => exact ⟨i2.1, by show T3.cmpd + 1 ≤ _; have := i1.2; have := i2.2; simp only at *; omega⟩
      | false => exact ⟨i1.1, by show T3.cmpd + 1 ≤ _; have := i1.2; have := i2.2; simp only at *; omega⟩
set_option maxHeartbeats 4000000 in
theorem winner_ok {σ : Type} {E : Env σ} {G : Geo} {busy : Bool} (ok : E.Ok G.k) : ∀ (f n : Nat) (T : TS σ) (w : World) (Y : Nat → Prop), 0 < n → n < 2 * G.k → G.k ≤ n * 2 ^ f → T.cmpd + 2 ^ f ≤ 1099511627776 → TreeAt E G busy w Y T →
    Calls Try.prog 50 #[.pointer (some ⟨G.t, 0, none⟩), .int .i64 (n : Int)] w (StepR E G busy w Y (.int .i64 ((winM E G.k f n T).1 : Int)) (winM E G.k f n T).2)
  | f, n, T, w, Y, h0, h1, h2, hb, h => by
    have HH := Lib.hid h
    have k64 := h.geo.k64
    have c1 := h.tree.cell 1 _ rfl
    have lt := h.tree.lt
    by_cases hl : G.k ≤ n
    · rw [winM_leaf hl, show ((n - G.k : Nat) : Int) = (n : Int) - (G.k : Int) by omega]
      have t1 : decide ((G.k : Int) ≤ (n : Int)) = true := decide_eq_true (by omega)
      have t1n : decide (G.k ≤ n) = true := decide_eq_true hl
      have i1 : (n : Int) < 128 := by omega
      have i2 : (G.k : Int) ≤ 64 := by omega
      have i3 : (G.k : Int) ≤ (n : Int) := by omega
      clear h h2 hb
      go_enter Try.func50, Try.ntmps50
      go_wp2_with fail
      go_ret
      exact ⟨rfl, Y, HH.out, Moves.refl _ _⟩
    · obtain ⟨f, rfl⟩ : ∃ g, f = g + 1 := by
        cases f with
        | zero => exact absurd (by simpa using h2) hl
        | succ f => exact ⟨f, rfl⟩
      have p : 2 ^ (f + 1) = 2 ^ f + 2 ^ f := by rw [Nat.pow_succ]; omega
      have q1 : G.k ≤ 2 * n * 2 ^ f := by rw [p, Nat.mul_add] at h2; rw [Nat.mul_assoc, Nat.two_mul]; omega
      have q2 : G.k ≤ (2 * n + 1) * 2 ^ f := by rw [Nat.add_mul]; omega
      rw [p] at hb
      have pp := Nat.two_pow_pos f
      have I1 := winner_ok (busy := busy) ok f (2 * n) T w Y (by omega) (by omega) q1 (by omega) h
      have L1 := winM_lt (E := E) f (2 * n) T (by omega) (by omega) q1
      rcases e1 : winM E G.k f (2 * n) T with ⟨a, T1⟩
      rw [e1] at I1 L1
      simp only at I1 L1
      have I2 := fun (w' : World) (Y' : Nat → Prop) (h' : TreeAt E G busy w' Y' T1) => winner_ok (busy := busy) ok f (2 * n + 1) T1 w' Y' (by omega) (by omega) q2 (by have := L1.2; omega) h'
      have L2 := winM_lt (E := E) f (2 * n + 1) T1 (by omega) (by omega) q2
      rcases e2 : winM E G.k f (2 * n + 1) T1 with ⟨b, T2⟩
      rw [e2] at L2
      simp only [e2] at I2 L2
      have I3 := fun (w' : World) (Y' : Nat → Prop) (h' : TreeAt E G busy w' Y' T2) => ahead_ok ok h' b a L2.1 L1.1 (by have := L1.2; have := L2.2; omega)
      rcases e3 : aheadM E T2 b a with ⟨c, T3⟩
      simp only [e3] at I3
      rw [winM_node hl e1 e2 e3]
      generalize hr : (if c = true then (b, ({ T3 with L := upN T3.L n a } : TS σ)) else (a, { T3 with L := upN T3.L n b })) = R
      have HR := Lib.hid hr
      clear hr
      have n1 : ((2 * n : Nat) : Int) = 2 * (n : Int) := by omega
      have n2 : ((2 * n + 1 : Nat) : Int) = 2 * (n : Int) + 1 := by omega
      rw [n1] at I1
      simp only [n2] at I2
      have J1 := Lib.hid I1
      have J2 := Lib.hid I2
      have J3 := Lib.hid I3
      have A1 := Lib.hid L1.1
      have A2 := Lib.hid L2.1
      have OK := Lib.hid ok
      have t1 : decide ((G.k : Int) ≤ (n : Int)) = false := decide_eq_false (by omega)
      have t1n : decide (G.k ≤ n) = false := decide_eq_false hl
      have i1 : (n : Int) < 64 := by omega
      have i2 : (0 : Int) ≤ (n : Int) := by omega
      have i3 : (n : Int) < (G.k : Int) := by omega
      have HN := Lib.hid (show n < G.k by omega)
      clear h h2 hb I1 I2 I3 L1 L2 e1 e2 e3 n1 n2 p q1 q2 pp ok h1 hl k64
      go_enter Try.func50, Try.ntmps50
      go_wp2_with fail
      refine J1.out.mono ?_
      rintro e w1 ⟨rfl, Y1, t1', m1⟩
      have S1 := Lib.hid t1'
      have M1 := Lib.hid m1
      clear t1' m1 J1 HH c1 lt
      go_wp2_with fail
      refine (J2.out _ _ S1.out).mono ?_
      rintro e w2 ⟨rfl, Y2, t2', m2⟩
      have S2 := Lib.hid t2'
      have M2 := Lib.hid (M1.out.trans m2)
      clear t2' m2 J2 S1 M1
      go_wp2_with fail
      refine (J3.out _ _ S2.out).mono ?_
      rintro e w3 ⟨rfl, Y3, t3', m3⟩
      have S3 := Lib.hid t3'
      have M3 := Lib.hid (M2.out.trans m3)
      clear t3' m3 J3 S2 M2
      have c3 := S3.out.tree.cell 3 _ rfl
      have l0 := S3.out.l0 n HN.out
      have lf := S3.out.lfree n
      have lt := S3.out.tree.lt
      have ll := S3.out.llt
      cases c with
      | true =>
        have FIN := Lib.hid (S3.out.setL OK.out n a HN.out A1.out)
        have FM := Lib.hid (M3.out.set (a := ⟨G.lb, n, none⟩) (own_l G Y3) (.int .i64 (a : Int)))
        go_wp2_with fail
        go_ret
        rw [← HR.out]
        exact ⟨rfl, Y3, FIN.out, FM.out⟩
      | false =>
        have FIN := Lib.hid (S3.out.setL OK.out n b HN.out A2.out)
        have FM := Lib.hid (M3.out.set (a := ⟨G.lb, n, none⟩) (own_l G Y3) (.int .i64 (b : Int)))
        go_wp2_with fail
        go_ret
        rw [← HR.out]
        exact ⟨rfl, Y3, FIN.out, FM.out⟩
end Go.Proofs.Ytjlcbhblpofjhaa
