/- A list of keys that is turned place by place, and its row. -/
import Derived.Test.YtgpcmlbmmcnkjaaGreatDoorTwin
import Derived.Deep.RegionHeld3
import Derived.WalkSpells
import Derived.WalkLawsBesides
import Derived.IntWalk
import Derived.Deep.QuietTactic
import Derived.BigQuiet
namespace Go.Proofs.YtgpcmlbmmcnkjaaGreatDoor
open Go.RowKit
theorem ksV_at (ks : List KeyL) (k : Nat) (h : k < ks.length) (j : Nat) (hj : j < 6) : (ksV ks)[k * 6 + j]? = (kc ks[k])[j]? := by
  unfold ksV
  induction ks generalizing k with
  | nil => simp at h
  | cons x r ih =>
    have hl : (kc x).length = 6 := rfl
    rw [List.flatMap_cons]
    cases k with
    | zero => rw [List.getElem?_append_left (by omega)]; simp
    | succ k =>
      rw [List.getElem?_append_right (by omega), hl, show (k + 1) * 6 + j - 6 = k * 6 + j by omega, ih k (by simpa using h)]
      rfl
theorem ks_row {w : World} {g : Nat} {ks : List KeyL} (h : w.rangeAt g 0 (ksV ks)) (k : Nat) (hk : k < ks.length) : w.rangeAt g (k * 6) (kc ks[k]) := fun j v hv => by
  have hj : j < 6 := (List.getElem?_eq_some_iff.1 hv).1
  have := h (k * 6 + j) v (by rw [ksV_at ks k hk j hj]; exact hv)
  rwa [Nat.zero_add] at this
theorem range_below {w w' : World} {C g o : Nat} {xs : List Value} (h : w.rangeAt g o xs) (k : Below C w w') (hg : g < C) : w'.rangeAt g o xs := fun j v hv => by
  rw [k.cell (p := ⟨g, o + j, none⟩) hg]; exact h j v hv

theorem bdrewK {B : Nat} {a w : World} (h : Below B a w) (n : Nat) : Below B a (w.drewN n) := ⟨h.os, h.tape, h.output, h.size, h.block⟩

/-- The first k are turned. -/
def mid (f : KeyL → KeyL) (L : List KeyL) (k : Nat) : List KeyL := (L.take k).map f ++ L.drop k
theorem mid_zero (f : KeyL → KeyL) (L : List KeyL) : mid f L 0 = L := by simp [mid]
theorem mid_end (f : KeyL → KeyL) (L : List KeyL) : mid f L L.length = L.map f := by simp [mid]
theorem mid_len (f : KeyL → KeyL) (L : List KeyL) (k : Nat) : (mid f L k).length = L.length := by
  simp only [mid, List.length_append, List.length_map, List.length_take, List.length_drop]; omega
theorem mid_at (f : KeyL → KeyL) (L : List KeyL) (k : Nat) (h : k < L.length) : (mid f L k)[k]'(by rw [mid_len]; exact h) = L[k] := by
  have hl : ((L.take k).map f).length = k := by simp; omega
  unfold mid
  rw [List.getElem_append_right (by omega), List.getElem_drop]
  congr 1
  omega
theorem mid_set (f : KeyL → KeyL) (L : List KeyL) (k : Nat) (h : k < L.length) : (mid f L k).set k (f L[k]) = mid f L (k + 1) := by
  have hl : ((L.take k).map f).length = k := by simp; omega
  unfold mid
  rw [List.set_append_right _ _ (by omega), hl, Nat.sub_self, List.drop_eq_getElem_cons h, List.set_cons_zero, List.take_succ_eq_append_getElem h, List.map_append]
  simp
theorem mid_same (f : KeyL → KeyL) (L : List KeyL) (k : Nat) (h : k < L.length) (hf : f L[k] = L[k]) : mid f L (k + 1) = mid f L k := by
  rw [← mid_set f L k h, hf]
  have hk : k < (mid f L k).length := by rw [mid_len]; exact h
  have e := List.set_getElem_self hk
  rw [mid_at f L k h] at e
  exact e

def turn (k : KeyL) (m : Nat) (b : Bool) : KeyL := ⟨k.f, k.c, k.ef, k.ec, m, b⟩
/-- The two last cells of a key set. -/
theorem ks_set {w : World} {g : Nat} {L : List KeyL} (h : w.rangeAt g 0 (ksV L)) (k : Nat) (hk : k < L.length) (m : Nat) (b : Bool) :
    ((w.setCell ⟨g, k * 6 + 4, none⟩ (.int .u16 m)).setCell ⟨g, k * 6 + 5, none⟩ (.bool b)).rangeAt g 0 (ksV (L.set k (turn L[k] m b))) := by
  intro j v hv
  rw [Nat.zero_add]
  have hj : j < (ksV (L.set k (turn L[k] m b))).length := (List.getElem?_eq_some_iff.1 hv).1
  rw [ksV_len, List.length_set] at hj
  have hq : j / 6 < L.length := by omega
  have hr : j % 6 < 6 := by omega
  have ej : j = j / 6 * 6 + j % 6 := by omega
  have key : ∀ (M : List KeyL) (hM : j / 6 < M.length), (ksV M)[j]? = (kc M[j / 6])[j % 6]? := fun M hM => by
    have := ksV_at M (j / 6) hM (j % 6) hr
    rwa [← ej] at this
  have old : ∀ u, (kc L[j / 6])[j % 6]? = some u → w.cell? ⟨g, j, none⟩ = some u := fun u hu => by
    have := h j u ((key L hq).trans hu)
    rwa [Nat.zero_add] at this
  have hv' := (key _ (by rw [List.length_set]; exact hq)).symm.trans hv
  rw [List.getElem_set] at hv'
  have c4 : w.cell? ⟨g, k * 6 + 4, none⟩ = some (.int .u16 L[k].m) := by
    have := h (k * 6 + 4) (.int .u16 L[k].m) (by rw [ksV_at L k hk 4 (by omega)]; rfl)
    rwa [Nat.zero_add] at this
  have c5 : w.cell? ⟨g, k * 6 + 5, none⟩ = some (.bool L[k].b) := by
    have := h (k * 6 + 5) (.bool L[k].b) (by rw [ksV_at L k hk 5 (by omega)]; rfl)
    rwa [Nat.zero_add] at this
  by_cases e5 : j = k * 6 + 5
  · have eq : k = j / 6 := by omega
    have er : j % 6 = 5 := by omega
    rw [if_pos eq, er] at hv'
    cases hv'
    rw [e5]
    exact World.cell?_setCell_same _ _ _ (by rw [World.cell?_setCell_other _ _ _ _ (by simp)]; exact c5)
  · rw [World.cell?_setCell_other _ _ _ _ (by intro e; injection e; omega)]
    by_cases e4 : j = k * 6 + 4
    · have eq : k = j / 6 := by omega
      have er : j % 6 = 4 := by omega
      rw [if_pos eq, er] at hv'
      cases hv'
      rw [e4]
      exact World.cell?_setCell_same _ _ _ c4
    · rw [World.cell?_setCell_other _ _ _ _ (by intro e; injection e; omega)]
      refine old v ?_
      by_cases eq : k = j / 6
      · rw [if_pos eq] at hv'
        subst eq
        have hs : j % 6 = 0 ∨ j % 6 = 1 ∨ j % 6 = 2 ∨ j % 6 = 3 := by omega
        rcases hs with e | e | e | e <;> rw [e] at hv' ⊢ <;> exact hv'
      · rw [if_neg eq] at hv'
        exact hv'
end Go.Proofs.YtgpcmlbmmcnkjaaGreatDoor
