/- The heap in memory; ahead. -/
import Derived.Test.YthajgfldjjgkiaaHp
import Derived.ProofKit
import Derived.Scope
import Derived.Deep.Cut
import Derived.Deep.RegionHeld3
import Derived.StillTailTactics
import Derived.LoopTactic
import Derived.Laws.EntriesVeiled
namespace Go.Proofs.Ythajgfldjjgkiaa
open Go.RowKit
set_option maxRecDepth 100000

def rnC (x : Rn) : List Value := [.int .i64 (x.wt : Int), .int .i64 (x.num : Int)]
def rnV (F : Nat → Rn) : Nat → List Value
  | 0 => []
  | n + 1 => rnV F n ++ rnC (F n)
theorem rnV_len (F : Nat → Rn) : ∀ n, (rnV F n).length = n * 2
  | 0 => rfl
  | n + 1 => by rw [rnV, List.length_append, rnV_len F n]; show n * 2 + 2 = _; omega
theorem rnV_congr {F G : Nat → Rn} : ∀ n, (∀ i, i < n → F i = G i) → rnV F n = rnV G n
  | 0, _ => rfl
  | n + 1, h => by rw [rnV, rnV, rnV_congr n fun i hi => h i (by omega), h n (by omega)]
theorem rnV_at (F : Nat → Rn) : ∀ n i, i < n → (rnV F n)[i * 2]? = some (.int .i64 ((F i).wt : Int)) ∧ (rnV F n)[i * 2 + 1]? = some (.int .i64 ((F i).num : Int))
  | 0, _, h => by omega
  | n + 1, i, h => by
    rw [rnV]
    by_cases e : i = n
    · subst e
      rw [List.getElem?_append_right (by rw [rnV_len]; omega), List.getElem?_append_right (by rw [rnV_len]; omega), rnV_len]
      rw [show i * 2 - i * 2 = 0 by omega, show i * 2 + 1 - i * 2 = 1 by omega]
      exact ⟨rfl, rfl⟩
    · rw [List.getElem?_append_left (by rw [rnV_len]; omega), List.getElem?_append_left (by rw [rnV_len]; omega)]
      exact rnV_at F n i (by omega)
theorem rnV_set (F : Nat → Rn) (x : Rn) : ∀ n i, i < n → ((rnV F n).set (i * 2) (.int .i64 (x.wt : Int))).set (i * 2 + 1) (.int .i64 (x.num : Int)) = rnV (upR F i x) n
  | 0, _, h => by omega
  | n + 1, i, h => by
    rw [rnV, rnV]
    by_cases e : i = n
    · subst e
      rw [upR_same, rnV_congr (F := upR F i x) (G := F) i fun k hk => upR_other _ _ _ _ (by omega)]
      rw [List.set_append_right _ _ (by rw [rnV_len]; omega), List.set_append_right _ _ (by rw [rnV_len]; omega), rnV_len]
      rw [show i * 2 - i * 2 = 0 by omega, show i * 2 + 1 - i * 2 = 1 by omega]
      rfl
    · rw [upR_other _ _ _ _ (fun e' => e e'.symm)]
      rw [List.set_append_left _ _ (by rw [rnV_len]; omega), List.set_append_left _ _ (by simp [rnV_len]; omega)]
      rw [rnV_set F x n i (by omega)]
/-- One run is written. -/
theorem blk_put {w : World} {g N : Nat} {F : Nat → Rn} (h : BlkAt w g 70 (rnV F N)) (i : Nat) (hi : i < N) (x : Rn) :
    BlkAt ((w.setCell ⟨g, i * 2, none⟩ (.int .i64 (x.wt : Int))).setCell ⟨g, i * 2 + 1, none⟩ (.int .i64 (x.num : Int))) g 70 (rnV (upR F i x) N) := by
  have := (h.set (i * 2) (.int .i64 (x.wt : Int))).set (i * 2 + 1) (.int .i64 (x.num : Int))
  rw [rnV_set F x N i hi] at this
  exact this
theorem blk_swap {w : World} {g N : Nat} {F : Nat → Rn} (h : BlkAt w g 70 (rnV F N)) (p q : Nat) (hp : p < N) (hq : q < N) :
    BlkAt ((((w.setCell ⟨g, p * 2, none⟩ (.int .i64 ((F q).wt : Int))).setCell ⟨g, p * 2 + 1, none⟩ (.int .i64 ((F q).num : Int))).setCell ⟨g, q * 2, none⟩ (.int .i64 ((F p).wt : Int))).setCell ⟨g, q * 2 + 1, none⟩ (.int .i64 ((F p).num : Int))) g 70 (rnV (swp F p q) N) ∧
    Kp w ((((w.setCell ⟨g, p * 2, none⟩ (.int .i64 ((F q).wt : Int))).setCell ⟨g, p * 2 + 1, none⟩ (.int .i64 ((F q).num : Int))).setCell ⟨g, q * 2, none⟩ (.int .i64 ((F p).wt : Int))).setCell ⟨g, q * 2 + 1, none⟩ (.int .i64 ((F p).num : Int))) (fun k => k = g) := by
  have := blk_put (blk_put h p hp (F q)) q hq (F p)
  rw [swp_up] at this
  exact ⟨this, (((Kp.set _ _ _ _).tr (Kp.set _ _ _ _)).tr (Kp.set _ _ _ _)).tr (Kp.set _ _ _ _)⟩
theorem ahead_ok (x y : Rn) (w : World) : Calls Try.prog 47 #[.agg #[.int .i64 (x.wt : Int), .int .i64 (x.num : Int)], .agg #[.int .i64 (y.wt : Int), .int .i64 (y.num : Int)]] w (RetBelow w (.bool (ahd x y))) := by
  obtain ⟨xw, xn⟩ := x
  obtain ⟨yw, yn⟩ := y
  by_cases h1 : xw < yw
  · have e : ahd ⟨xw, xn⟩ ⟨yw, yn⟩ = true := by rw [ahd_iff]; exact Or.inl h1
    have t1 : decide ((xw : Int) < (yw : Int)) = true := decide_eq_true (by omega)
    have t1n : decide (xw < yw) = true := decide_eq_true h1
    rw [e]
    clear e h1
    go_enter Try.func47, Try.ntmps47
    go_wp2_with fail
    go_ret
    exact ⟨rfl, ((Below.refl _ _).alloc (Nat.le_refl _) _).alloc (by simp) _⟩
  · have t1 : decide ((xw : Int) < (yw : Int)) = false := decide_eq_false (by omega)
    have t1n : decide (xw < yw) = false := decide_eq_false h1
    by_cases h2 : xw = yw
    · subst h2
      have e : ahd ⟨xw, xn⟩ ⟨xw, yn⟩ = decide (xn < yn) := by
        by_cases h3 : xn < yn
        · rw [decide_eq_true h3, ahd_iff]; exact Or.inr ⟨rfl, h3⟩
        · rw [decide_eq_false h3, ahd_false]; exact Or.inr ⟨rfl, by show yn ≤ xn; omega⟩
      rw [e]
      clear e h1
      go_enter Try.func47, Try.ntmps47
      go_wp2_with fail
      go_ret
      refine ⟨?_, ((Below.refl _ _).alloc (Nat.le_refl _) _).alloc (by simp) _⟩
      simp
    · have e : ahd ⟨xw, xn⟩ ⟨yw, yn⟩ = false := by rw [ahd_false]; left; show yw < xw; omega
      have t2 : decide ((xw : Int) = (yw : Int)) = false := decide_eq_false (by omega)
      have t2n : decide (xw = yw) = false := decide_eq_false h2
      have t2b : ((xw : Int) == (yw : Int)) = false := by simp; omega
      have t2c : (xw == yw) = false := by simp; omega
      rw [e]
      clear e h1
      go_enter Try.func47, Try.ntmps47
      go_wp2_with fail
      go_ret
      exact ⟨rfl, ((Below.refl _ _).alloc (Nat.le_refl _) _).alloc (by simp) _⟩
end Go.Proofs.Ythajgfldjjgkiaa
