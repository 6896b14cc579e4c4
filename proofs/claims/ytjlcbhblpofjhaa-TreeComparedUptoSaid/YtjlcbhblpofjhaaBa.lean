/- Keys, words and blocks in memory. -/
import Derived.Test.YtjlcbhblpofjhaaChecked
import Derived.WalkKit
import Derived.Below
import Derived.OwnWalk
import Derived.Laws.OwnMore
import Derived.Laws.AppendOwnNone
import Derived.Deep.AppendLies
import Derived.Lib.Hide
import Derived.RowKit3
import Derived.Deep.QuietTactic
import Derived.BigQuiet
namespace Go.Proofs.Ytjlcbhblpofjhaa
open Go.RowKit

theorem bcell {W w1 : World} {B : Nat} (hb : RowKit.Below B W w1) : (∀ b o, b < B → w1.cell? ⟨b, o, none⟩ = W.cell? ⟨b, o, none⟩) ∧ (∀ b o, b < B → w1.frozen? ⟨b, o, none⟩ = W.frozen? ⟨b, o, none⟩) :=
  ⟨fun b o h => hb.cell (p := ⟨b, o, none⟩) h, fun b o h => hb.frozen (p := ⟨b, o, none⟩) h⟩

/-- A block whose cells are known, and may be written. -/
structure CellsAt (w : World) (b : Nat) (vs : List Value) : Prop where
  lt : b < w.heap.size
  cell : ∀ (j : Nat) v, vs[j]? = some v → w.cell? ⟨b, j, none⟩ = some v
  free : ∀ j, w.frozen? ⟨b, j, none⟩ = false
theorem CellsAt.keep {w w' : World} {B b : Nat} {vs : List Value} (h : CellsAt w b vs) (k : Below B w w') (hb : b < B) : CellsAt w' b vs :=
  ⟨Nat.lt_of_lt_of_le h.lt k.size, fun j v hv => ((bcell k).1 b j hb).trans (h.cell j v hv), fun j => ((bcell k).2 b j hb).trans (h.free j)⟩
theorem CellsAt.step {w w' : World} {b : Nat} {vs : List Value} (h : CellsAt w b vs) (k : Below w.heap.size w w') : CellsAt w' b vs := h.keep k h.lt
theorem CellsAt.new (w : World) (vs : List Value) (t : TypeId) : CellsAt (w.alloc (.cells vs.toArray t)) w.heap.size vs :=
  ⟨by simp, fun j v hv => by rw [World.cell?_alloc_at _ _ _ _ rfl]; simpa using hv, fun j => by simp⟩
theorem CellsAt.set {w : World} {b : Nat} {vs : List Value} (h : CellsAt w b vs) (j : Nat) (x : Value) (hj : j < vs.length) : CellsAt (w.setCell ⟨b, j, none⟩ x) b (vs.set j x) := by
  refine ⟨by simpa using h.lt, fun i v hv => ?_, fun i => by rw [World.frozen?_setCell]; exact h.free i⟩
  rw [List.getElem?_set] at hv
  by_cases e : j = i
  · subst e
    rw [if_pos rfl, if_pos hj] at hv
    cases hv
    exact World.cell?_setCell_same _ _ _ (h.cell j vs[j] (List.getElem?_eq_getElem hj))
  · rw [if_neg e] at hv
    rw [World.cell?_setCell_other _ _ _ _ (by simp; try omega)]
    exact h.cell i v hv
theorem CellsAt.other {w : World} {b c : Nat} {vs : List Value} (h : CellsAt w b vs) (hc : c ≠ b) (j : Nat) (x : Value) : CellsAt (w.setCell ⟨c, j, none⟩ x) b vs :=
  ⟨by simpa using h.lt, fun i v hv => by rw [World.cell?_setCell_other _ _ _ _ (fun e => hc (congrArg Addr.block e))]; exact h.cell i v hv, fun i => by rw [World.frozen?_setCell]; exact h.free i⟩
theorem CellsAt.alloc {w : World} {b : Nat} {vs : List Value} (h : CellsAt w b vs) (o : Obj) : CellsAt (w.alloc o) b vs := h.step ((Below.refl _ _).alloc (Nat.le_refl _) o)

theorem add_plain (b off j : Nat) : (⟨b, off, none⟩ : Addr).add j = ⟨b, off + j, none⟩ := by unfold Addr.add; split <;> simp_all
def RetBelow (w : World) (v : Value) (e : Ending) (w' : World) : Prop := e = .returned v ∧ Below w.heap.size w w'
def Same (w : World) (v : Value) (e : Ending) (w' : World) : Prop := e = .returned v ∧ w = w'
theorem below_alloc (w : World) (o : Obj) : Below w.heap.size w (w.alloc o) := (Below.refl _ _).alloc (Nat.le_refl _) o
theorem below_drewN (w : World) (n : Nat) : Below w.heap.size w (w.drewN n) := ⟨rfl, rfl, rfl, Nat.le_refl _, fun _ _ => rfl⟩
theorem bdrewB {B : Nat} {a w : World} (h : Below B a w) (n : Nat) : Below B a (w.drewN n) := ⟨h.os, h.tape, h.output, h.size, h.block⟩
theorem lt_of_heap {w : World} {g : Nat} {o : Obj} (h : w.heap[g]? = some o) : g < w.heap.size := by
  rcases Nat.lt_or_ge g w.heap.size with h1 | h1
  · exact h1
  · rw [Array.getElem?_eq_none h1] at h; cases h
end Go.Proofs.Ytjlcbhblpofjhaa
