/- sameSpans over two rows that hold the same. -/
import Derived.Test.YthdejcoaledklaaDoorFields
import Derived.Deep.MidRow
import Derived.Deep.QuietTactic
import Derived.BigQuiet
namespace Go.Proofs.YthdejcoaledklaaDoor
open Go.RowKit

theorem spV_len (L : List (Nat × Nat)) : (spV L).length = L.length * 2 := by
  unfold spV
  induction L with
  | nil => rfl
  | cons k r ih => rw [List.flatMap_cons, List.length_append, ih, List.length_cons]; simp; omega
theorem spV_at (L : List (Nat × Nat)) (k : Nat) (h : k < L.length) : (spV L)[k * 2]? = some (.int .i64 L[k].1) ∧ (spV L)[k * 2 + 1]? = some (.int .i64 L[k].2) := by
  unfold spV
  induction L generalizing k with
  | nil => simp at h
  | cons x r ih =>
    rw [List.flatMap_cons]
    cases k with
    | zero => exact ⟨rfl, rfl⟩
    | succ k =>
      have := ih k (by simpa using h)
      rw [show (k + 1) * 2 = k * 2 + 2 by omega, show k * 2 + 2 + 1 = (k * 2 + 1) + 2 by omega]
      exact this
theorem own_row {w : World} {B : Nat} {e : TypeId} {size n : Nat} {v : Value} {xs : List Value} (h : w.ownsRow B e size v n xs) (hn : n ≠ 0) :
    ∃ g c, v = .slice (some ⟨g, 0, none⟩) n c ∧ B ≤ g ∧ g < w.heap.size ∧ w.rangeAt g 0 xs := by
  rcases h.2 with ⟨_, h0⟩ | ⟨g, cap, cur, hv, hb, hg, h1, h2, h3, h4⟩
  · exact absurd h0 hn
  · refine ⟨g, cap, hv, hb, (Array.getElem?_eq_some_iff.1 hg).1, fun j u hu => ?_⟩
    rw [cell_of_row w g (0 + j) cur e (0, 0) hg, Nat.zero_add]
    rw [← h4, List.getElem?_take] at hu
    split at hu
    · simpa using hu
    · cases hu
theorem own_slice {w : World} {B : Nat} {e : TypeId} {size n : Nat} {v : Value} {xs : List Value} (h : w.ownsRow B e size v n xs) : ∃ ao cap, v = .slice ao n cap := by
  rcases h.2 with ⟨rfl, rfl⟩ | ⟨g, cap, _, rfl, _⟩
  · exact ⟨none, 0, rfl⟩
  · exact ⟨_, cap, rfl⟩
theorem range_below {w w' : World} {C g o : Nat} {xs : List Value} (h : w.rangeAt g o xs) (k : Below C w w') (hg : g < C) : w'.rangeAt g o xs := fun j v hv => by
  rw [k.cell (p := ⟨g, o + j, none⟩) hg]; exact h j v hv
def RetBelow (w : World) (v : Value) (e : Ending) (w' : World) : Prop := e = .returned v ∧ Below w.heap.size w w'

set_option maxRecDepth 100000
theorem same_some (L : List (Nat × Nat)) (ga gb ca cb : Nat) (w : World) (hla : ga < w.heap.size) (hlb : gb < w.heap.size) (ha : w.rangeAt ga 0 (spV L)) (hb : w.rangeAt gb 0 (spV L)) (hn : L.length ≤ 140737488355328) :
    Calls Tryd.prog 7 #[.slice (some ⟨ga, 0, none⟩) L.length ca, .slice (some ⟨gb, 0, none⟩) L.length cb] w (RetBelow w (.bool true)) := by
  have HA := Lib.hid ha
  have HB := Lib.hid hb
  clear ha hb
  go_enter Tryd.func7, Tryd.ntmps7
  go_wp2_with fail
  go_loopw [5] (fun i wr => ∃ k : Nat, k ≤ L.length ∧ i = .int .i64 k ∧ Below w.heap.size w wr) (fun i _ => L.length - (intOf i).toNat)
  case atStart => exact ⟨0, by omega, rfl, Below.refl _ _⟩
  case round =>
    obtain ⟨k, hk, rfl, hbl⟩ := hrel
    have HBL := Lib.hid hbl
    clear hbl
    by_cases h1 : k < L.length
    · have t1 : decide ((k : Int) < (L.length : Int)) = true := by simpa using h1
      have A := range_below HA.out HBL.out hla
      have B := range_below HB.out HBL.out hlb
      have a0 := A (k * 2) _ (spV_at L k h1).1
      have a1 := A (k * 2 + 1) _ (spV_at L k h1).2
      have b0 := B (k * 2) _ (spV_at L k h1).1
      have b1 := B (k * 2 + 1) _ (spV_at L k h1).2
      rw [Nat.zero_add] at a0 b0 a1 b1
      clear A B
      generalize L[k] = P at *
      go_wp2_with fail
      go_quiet (fail)
      go_wp2_with fail
      go_roundw
      case rel => exact ⟨k + 1, by omega, by go_num, bdrew HBL.out _⟩
      case measure => simp [intOf]; omega
    · have t1 : decide ((k : Int) < (L.length : Int)) = false := by simpa using h1
      go_wp2_with fail
      go_ret
      exact ⟨rfl, HBL.out⟩
theorem same_none (a b : Option Addr) (ca cb : Nat) (w : World) : Calls Tryd.prog 7 #[.slice a 0 ca, .slice b 0 cb] w (RetBelow w (.bool true)) := by
  go_enter Tryd.func7, Tryd.ntmps7
  go_wp2_with fail
  refine wp_loop_rounds 1 ?_; rw [rounds_succ]
  go_wp2_with fail
  go_ret
  exact ⟨rfl, Below.refl _ _⟩
end Go.Proofs.YthdejcoaledklaaDoor
