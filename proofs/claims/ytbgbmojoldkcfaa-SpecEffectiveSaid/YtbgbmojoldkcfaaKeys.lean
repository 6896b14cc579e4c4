/- keys: two rows of keys of the call's own that hold the same. -/
import Derived.Test.YtbgbmojoldkcfaaTwin
import Derived.Deep.RegionHeld3
import Derived.WalkSpells
import Derived.WalkLawsBesides
import Derived.IntWalk
import Derived.Deep.QuietTactic
import Derived.BigQuiet
namespace Go.Proofs.Ytbgbmojoldkcfaa
open Go.RowKit

theorem ksV_at (ks : List KeyL) (k : Nat) (h : k < ks.length) (j : Nat) (hj : j < 6) : (ksV ks)[k * 6 + j]? = (kc ks[k])[j]? := by
  unfold ksV
  induction ks generalizing k with
  | nil => simp at h
  | cons x r ih =>
    have hl : (kc x).length = 6 := rfl
    rw [List.flatMap_cons]
    cases k with
    | zero => rw [List.getElem?_append_left (by omega)]; simp
    | succ k =>
      rw [List.getElem?_append_right (by omega), hl, show (k + 1) * 6 + j - 6 = k * 6 + j by omega, ih k (by simpa using h)]
      rfl
theorem ks_row {w : World} {g : Nat} {ks : List KeyL} (h : w.rangeAt g 0 (ksV ks)) (k : Nat) (hk : k < ks.length) : w.rangeAt g (k * 6) (kc ks[k]) := fun j v hv => by
  have hj : j < 6 := (List.getElem?_eq_some_iff.1 hv).1
  have := h (k * 6 + j) v (by rw [ksV_at ks k hk j hj]; exact hv)
  rwa [Nat.zero_add] at this
theorem range_below {w w' : World} {C g o : Nat} {xs : List Value} (h : w.rangeAt g o xs) (k : Below C w w') (hg : g < C) : w'.rangeAt g o xs := fun j v hv => by
  rw [k.cell (p := ⟨g, o + j, none⟩) hg]; exact h j v hv

theorem bdrewK {B : Nat} {a w : World} (h : Below B a w) (n : Nat) : Below B a (w.drewN n) := ⟨h.os, h.tape, h.output, h.size, h.block⟩
set_option maxRecDepth 100000
theorem keys_ok (ks : List KeyL) (ga gb ca cb : Nat) (w : World) (hla : ga < w.heap.size) (hlb : gb < w.heap.size) (ha : w.rangeAt ga 0 (ksV ks)) (hb : w.rangeAt gb 0 (ksV ks)) (hn : ks.length ≤ 140737488355328) :
    Calls Try.prog 6 #[.slice (some ⟨ga, 0, none⟩) ks.length ca, .slice (some ⟨gb, 0, none⟩) ks.length cb] w (fun e w' => e = .returned (.bool true) ∧ Below w.heap.size w w') := by
  have HA := Lib.hid ha
  have HB := Lib.hid hb
  clear ha hb
  go_enter Try.func6, Try.ntmps6
  go_wp2_with fail
  go_loopw [5] (fun i wr => ∃ k : Nat, k ≤ ks.length ∧ i = .int .i64 k ∧ Below w.heap.size w wr) (fun i _ => ks.length - (match i with | .int _ z => z.toNat | _ => 0))
  case atStart => exact ⟨0, by omega, rfl, Below.refl _ _⟩
  case round =>
    obtain ⟨k, hk, rfl, hbl⟩ := hrel
    have HBL := Lib.hid hbl
    clear hbl
    by_cases h1 : k < ks.length
    · have t1 : decide ((k : Int) < (ks.length : Int)) = true := by simpa using h1
      have A := ks_row (range_below HA.out HBL.out hla) k h1
      have B := ks_row (range_below HB.out HBL.out hlb) k h1
      have HAk := Lib.hid A
      have HBk := Lib.hid B
      have a0 := A 0 _ rfl
      have a1 := A 1 _ rfl
      have a2 := A 2 _ rfl
      have a3 := A 3 _ rfl
      have a4 := A 4 _ rfl
      have a5 := A 5 _ rfl
      have b0 := B 0 _ rfl
      have b1 := B 1 _ rfl
      have b2 := B 2 _ rfl
      have b3 := B 3 _ rfl
      have b4 := B 4 _ rfl
      have b5 := B 5 _ rfl
      rw [Nat.add_zero] at a0 b0
      clear A B
      go_wp2_with fail
      go_quiet (fail)
      go_wp2_with fail
      trace_state
      go_roundw
      case rel => exact ⟨k + 1, by omega, by go_num, bdrewK HBL.out _⟩
      case measure => simp; omega
    · have t1 : decide ((k : Int) < (ks.length : Int)) = false := by simpa using h1
      go_wp2_with fail
      go_ret
      exact ⟨rfl, HBL.out⟩
end Go.Proofs.Ytbgbmojoldkcfaa
