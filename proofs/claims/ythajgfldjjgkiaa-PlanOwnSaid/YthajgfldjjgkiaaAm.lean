/- The memory of six answers, written over. No walk. -/
import Derived.Test.YthajgfldjjgkiaaOw
namespace Go.Proofs.Ythajgfldjjgkiaa
open Go.RowKit

def nL6 (ss : Nat → List Stp) (i s : Nat) : Nat := ((ss i).getD s ⟨[], 0⟩).inn.length
/-- What stands in a step's list behind the writing. -/
def mkX (i s n : Nat) : List Int := (List.range n).map fun k : Nat => (100000 * (i : Int) + 100 * (s : Int) + (k : Int))
theorem mkX_len (i s n : Nat) : (mkX i s n).length = n := by simp [mkX]
theorem mkX_at {i s n k : Nat} (h : k < n) : (mkX i s n)[k]? = some (100000 * (i : Int) + 100 * (s : Int) + (k : Int)) := by simp [mkX, h]
def mkO (i s : Nat) : Int := -1000 * (i : Int) - (s : Int) - 1
def upd2 {α : Type} (X : Nat → Nat → α) (i s : Nat) (x : α) : Nat → Nat → α := fun a b => if a = i ∧ b = s then x else X a b
theorem upd2_same {α : Type} (X : Nat → Nat → α) (i s : Nat) (x : α) : upd2 X i s x i s = x := if_pos ⟨rfl, rfl⟩
theorem upd2_other {α : Type} (X : Nat → Nat → α) (i s : Nat) (x : α) {a b : Nat} (h : ¬ (a = i ∧ b = s)) : upd2 X i s x a b = X a b := if_neg h
structure Mem (w : World) (g : Nat) (vs : Nat → Value) (ss : Nat → List Stp) (G : Nat → Nat) (H : Nat → Nat → Nat) (B : Nat) (wr : World) (X : Nat → Nat → List Int) (O : Nat → Nat → Int) : Prop where
  all : BlkAt wr g 23 [vs 0, vs 1, vs 2, vs 3, vs 4, vs 5]
  row : ∀ i, i < 6 → BlkAt wr (G i) 46 (sV (fun s => .slice (some ⟨H i s, 0, none⟩) (nL6 ss i s) (nL6 ss i s)) (O i) (ss i).length)
  cel : ∀ i, i < 6 → ∀ s, s < (ss i).length → BlkAt wr (H i s) 3 (iV (X i s)) ∧ (X i s).length = nL6 ss i s
  bel : Below B w wr
/-- All their blocks are others. -/
structure Dist (g : Nat) (ss : Nat → List Stp) (G : Nat → Nat) (H : Nat → Nat → Nat) (B : Nat) : Prop where
  gg : ∀ i j, i < 6 → j < 6 → G i = G j → i = j
  hh : ∀ i j s t, i < 6 → j < 6 → s < (ss i).length → t < (ss j).length → H i s = H j t → i = j ∧ s = t
  gh : ∀ i j t, i < 6 → j < 6 → t < (ss j).length → G i ≠ H j t
  ga : ∀ i, i < 6 → G i ≠ g ∧ ∀ s, s < (ss i).length → H i s ≠ g
  lo : ∀ i, i < 6 → B ≤ G i ∧ ∀ s, s < (ss i).length → B ≤ H i s
theorem lo_up {lo : Nat → Nat} (h : ∀ i, i < 6 → lo i ≤ lo (i + 1)) : ∀ d i, i + d ≤ 6 → lo i ≤ lo (i + d)
  | 0, _, _ => Nat.le_refl _
  | d + 1, i, hi => Nat.le_trans (lo_up h d i (by omega)) (by have := h (i + d) (by omega); rw [← Nat.add_assoc]; exact this)
theorem Six.dist {w : World} {vs : Nat → Value} {ss : Nat → List Stp} {G : Nat → Nat} {H : Nat → Nat → Nat} {lo : Nat → Nat} {g : Nat} (h : Six w vs ss G H lo) (hg : lo 6 ≤ g) : Dist g ss G H (lo 0) := by
  have le : ∀ i j, i ≤ j → j ≤ 6 → lo i ≤ lo j := fun i j hij hj => by
    have := lo_up h.up (j - i) i (by omega)
    rwa [show i + (j - i) = j by omega] at this
  have gb : ∀ i, i < 6 → lo i ≤ G i ∧ G i < lo (i + 1) := fun i hi => ⟨(h.each i hi).ge, (h.top i hi).1⟩
  have hb : ∀ i s, i < 6 → s < (ss i).length → lo i ≤ H i s ∧ H i s < lo (i + 1) := fun i s hi hs => ⟨((h.each i hi).each s hs).2, (h.top i hi).2 s hs⟩
  have same : ∀ i j x, i < 6 → j < 6 → lo i ≤ x → x < lo (i + 1) → lo j ≤ x → x < lo (j + 1) → i = j := fun i j x hi hj a b c d => by
    rcases Nat.lt_trichotomy i j with q | q | q
    · have := le (i + 1) j q (by omega); omega
    · exact q
    · have := le (j + 1) i q (by omega); omega
  refine ⟨fun i j hi hj e => ?_, fun i j s t hi hj hs ht e => ?_, fun i j t hi hj ht e => ?_, fun i hi => ⟨?_, fun s hs => ?_⟩, fun i hi => ⟨?_, fun s hs => ?_⟩⟩
  · have a := gb i hi; have b := gb j hj; rw [e] at a
    exact same i j _ hi hj a.1 a.2 b.1 b.2
  · have a := hb i s hi hs; have b := hb j t hj ht; rw [e] at a
    have ij := same i j _ hi hj a.1 a.2 b.1 b.2
    subst ij
    exact ⟨rfl, (h.each i hi).inj s t hs ht e⟩
  · have a := (h.each i hi).row
    have b := ((h.each j hj).each t ht).1
    rw [e] at a
    have := a.symm.trans b
    injection this with this
    injection this with _ this
    cases this
  · have := gb i hi; have := le (i + 1) 6 (by omega) (by omega); omega
  · have := hb i s hi hs; have := le (i + 1) 6 (by omega) (by omega); omega
  · have := gb i hi; have := le 0 i (by omega) (by omega); omega
  · have := hb i s hi hs; have := le 0 i (by omega) (by omega); omega
theorem Six.mem {w : World} {vs : Nat → Value} {ss : Nat → List Stp} {G : Nat → Nat} {H : Nat → Nat → Nat} {lo : Nat → Nat} {g : Nat} (h : Six w vs ss G H lo) (ha : BlkAt w g 23 [vs 0, vs 1, vs 2, vs 3, vs 4, vs 5]) : Mem w g vs ss G H (lo 0) w (fun i s => ((ss i).getD s ⟨[], 0⟩).inn) (fun i => outs (ss i)) :=
  ⟨ha, fun i hi => (h.each i hi).row, fun i hi s hs => ⟨((h.each i hi).each s hs).1, rfl⟩, Below.refl _ _⟩
theorem Mem.below {w : World} {g : Nat} {vs : Nat → Value} {ss : Nat → List Stp} {G : Nat → Nat} {H : Nat → Nat → Nat} {B : Nat} {wr w' : World} {X : Nat → Nat → List Int} {O : Nat → Nat → Int} (h : Mem w g vs ss G H B wr X O) (k : Below wr.heap.size wr w') (hB : B ≤ w.heap.size) : Mem w g vs ss G H B w' X O :=
  ⟨h.all.below k, fun i hi => (h.row i hi).below k, fun i hi s hs => ⟨(h.cel i hi s hs).1.below k, (h.cel i hi s hs).2⟩, h.bel.trans (k.mono (Nat.le_trans hB h.bel.size))⟩
/-- One number of one list is written. -/
theorem Mem.setX {w : World} {g : Nat} {vs : Nat → Value} {ss : Nat → List Stp} {G : Nat → Nat} {H : Nat → Nat → Nat} {B : Nat} {wr : World} {X : Nat → Nat → List Int} {O : Nat → Nat → Int} (h : Mem w g vs ss G H B wr X O) (d : Dist g ss G H B) (hB : B ≤ w.heap.size) {i s : Nat} (hi : i < 6) (hs : s < (ss i).length) (j : Nat) (z : Int) :
    Mem w g vs ss G H B (wr.setCell ⟨H i s, j, none⟩ (.int .i64 z)) (upd2 X i s ((X i s).set j z)) O := by
  refine ⟨h.all.other ((d.ga i hi).2 s hs) j _, fun a ha => (h.row a ha).other (fun e => d.gh a i s ha hi hs e.symm) j _, fun a ha b hb => ?_, h.bel.trans ((Kp.set wr (H i s) j (.int .i64 z)).below (Nat.le_trans hB h.bel.size) (fun y e => by rw [e]; exact (d.lo i hi).2 s hs))⟩
  by_cases c : a = i ∧ b = s
  · obtain ⟨rfl, rfl⟩ := c
    rw [upd2_same]
    have := (h.cel a ha b hb).1.set j (.int .i64 z)
    rw [iV_set, List.length_set]
    exact ⟨this, (h.cel a ha b hb).2⟩
  · rw [upd2_other _ _ _ _ c]
    exact ⟨(h.cel a ha b hb).1.other (fun e => c (by have := d.hh i a s b hi ha hs hb e; omega)) j _, (h.cel a ha b hb).2⟩
theorem sV_out (f : Nat → Value) (o : Nat → Int) (z : Int) (n i : Nat) (h : i < n) : (sV f o n).set (i * 2 + 1) (.int .i64 z) = sV f (updF o i z) n := by
  have e := sV_set f o (f i) z n i h
  have e1 : (sV f o n).set (i * 2) (f i) = sV f o n := by
    apply List.ext_getElem?
    intro j
    rw [List.getElem?_set]
    by_cases c : i * 2 = j
    · rw [if_pos c, ← c, (sV_at f o n i h).1, if_pos (by rw [sV_len]; omega)]
    · rw [if_neg c]
  have e2 : updF f i (f i) = f := by
    funext y; unfold updF
    by_cases c : y = i
    · rw [if_pos c, c]
    · rw [if_neg c]
  rw [e1, e2] at e
  exact e
theorem Mem.setO {w : World} {g : Nat} {vs : Nat → Value} {ss : Nat → List Stp} {G : Nat → Nat} {H : Nat → Nat → Nat} {B : Nat} {wr : World} {X : Nat → Nat → List Int} {O : Nat → Nat → Int} (h : Mem w g vs ss G H B wr X O) (d : Dist g ss G H B) (hB : B ≤ w.heap.size) {i s : Nat} (hi : i < 6) (hs : s < (ss i).length) (z : Int) :
    Mem w g vs ss G H B (wr.setCell ⟨G i, s * 2 + 1, none⟩ (.int .i64 z)) X (upd2 O i s z) := by
  refine ⟨h.all.other (d.ga i hi).1 _ _, fun a ha => ?_, fun a ha b hb => ⟨(h.cel a ha b hb).1.other (d.gh i a b hi ha hb) _ _, (h.cel a ha b hb).2⟩, h.bel.trans ((Kp.set wr (G i) _ (.int .i64 z)).below (Nat.le_trans hB h.bel.size) (fun y e => by rw [e]; exact (d.lo i hi).1))⟩
  by_cases c : a = i
  · subst c
    have := (h.row a ha).set (s * 2 + 1) (.int .i64 z)
    rw [sV_out _ _ _ _ _ hs] at this
    have e : upd2 O a s z a = updF (O a) s z := by
      funext y; unfold upd2 updF
      by_cases c : y = s
      · rw [if_pos ⟨rfl, c⟩, if_pos c]
      · rw [if_neg (fun q => c q.2), if_neg c]
    rw [e]
    exact this
  · have e : upd2 O i s z a = O a := by
      funext y; exact upd2_other _ _ _ _ (fun q => c q.1)
    rw [e]
    exact (h.row a ha).other (fun e => c (d.gg i a hi ha e).symm) _ _
theorem Mem.val {w : World} {g : Nat} {vs : Nat → Value} {ss : Nat → List Stp} {G : Nat → Nat} {H : Nat → Nat → Nat} {B : Nat} {wr : World} {X : Nat → Nat → List Int} {O : Nat → Nat → Int} (h : Mem w g vs ss G H B wr X O) {i : Nat} (hi : i < 6) : wr.cell? ⟨g, i, none⟩ = some (vs i) := by
  refine h.all.cell i _ ?_
  match i, hi with
  | 0, _ => rfl
  | 1, _ => rfl
  | 2, _ => rfl
  | 3, _ => rfl
  | 4, _ => rfl
  | 5, _ => rfl
end Go.Proofs.Ythajgfldjjgkiaa
