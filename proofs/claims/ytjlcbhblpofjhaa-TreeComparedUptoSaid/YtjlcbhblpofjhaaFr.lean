/- Footprints: what a call may change, and what it leaves. No walk. -/
import Derived.Test.YtjlcbhblpofjhaaBa
namespace Go.Proofs.Ytjlcbhblpofjhaa
open Go.RowKit

/-- From a world to another: of the blocks that were there, those of the first set alone may have changed; what the second set holds besides is new. -/
structure Moves (w : World) (X : Nat → Prop) (w' : World) (X' : Nat → Prop) : Prop where
  os : w'.os = w.os
  tape : w'.tape = w.tape
  output : w'.output = w.output
  size : w.heap.size ≤ w'.heap.size
  keep : ∀ b, b < w.heap.size → ¬ X b → w'.heap[b]? = w.heap[b]?
  foot : ∀ b, X' b → X b ∨ w.heap.size ≤ b
theorem Moves.refl (w : World) (X : Nat → Prop) : Moves w X w X := ⟨rfl, rfl, rfl, Nat.le_refl _, fun _ _ _ => rfl, fun _ h => Or.inl h⟩
theorem Moves.trans {a b c : World} {X Y Z : Nat → Prop} (h : Moves a X b Y) (k : Moves b Y c Z) : Moves a X c Z :=
  ⟨k.os.trans h.os, k.tape.trans h.tape, k.output.trans h.output, Nat.le_trans h.size k.size, fun i hi hx => (k.keep i (Nat.lt_of_lt_of_le hi h.size) (fun hy => (h.foot i hy).elim hx (fun hge => absurd hi (by omega)))).trans (h.keep i hi hx),
   fun i hz => (k.foot i hz).elim (fun hy => h.foot i hy) (fun hge => Or.inr (Nat.le_trans h.size hge))⟩
theorem Moves.below {w w' : World} (h : Below w.heap.size w w') (X : Nat → Prop) : Moves w X w' X := ⟨h.os, h.tape, h.output, h.size, fun b hb _ => h.block b hb, fun _ hx => Or.inl hx⟩
/-- More may change. -/
theorem Moves.wide {w w' : World} {X X' Z : Nat → Prop} (h : Moves w X w' X') : Moves w (fun b => Z b ∨ X b) w' (fun b => Z b ∨ X' b) :=
  ⟨h.os, h.tape, h.output, h.size, fun b hb hn => h.keep b hb (fun hx => hn (Or.inr hx)), fun b hx => hx.elim (fun hz => Or.inl (Or.inl hz)) (fun hx => (h.foot b hx).elim (fun k => Or.inl (Or.inr k)) Or.inr)⟩
/-- All that may change is from a number on. -/
theorem Moves.belowB {w w' : World} {X X' : Nat → Prop} {B : Nat} (h : Moves w X w' X') (hX : ∀ b, X b → B ≤ b) (hB : B ≤ w.heap.size) : Below B w w' :=
  ⟨h.os, h.tape, h.output, h.size, fun b hb => h.keep b (by omega) (fun hx => absurd (hX b hx) (by omega))⟩
theorem Moves.of_below {w w' : World} {X : Nat → Prop} {B : Nat} (h : Below B w w') (hX : ∀ b, B ≤ b → b < w.heap.size → X b) : Moves w X w' X :=
  ⟨h.os, h.tape, h.output, h.size, fun b hb hn => h.block b (by rcases Nat.lt_or_ge b B with k | k; exact k; exact absurd (hX b k hb) hn), fun _ hx => Or.inl hx⟩
theorem Moves.drew {w w' : World} {X X' : Nat → Prop} (h : Moves w X w' X') : Moves w X w'.drew X' := ⟨h.os, h.tape, h.output, h.size, h.keep, h.foot⟩
theorem Moves.alloc {w w' : World} {X X' : Nat → Prop} (h : Moves w X w' X') (o : Obj) : Moves w X (w'.alloc o) X' := h.trans (Moves.below (below_alloc w' o) X')
theorem Moves.set {w w' : World} {X X' : Nat → Prop} (h : Moves w X w' X') {a : Addr} (ha : X' a.block) (u : Value) : Moves w X (w'.setCell a u) X' :=
  h.trans ⟨rfl, rfl, rfl, by simp [World.setCell], fun b _ hn => Below.heap_setCell _ _ _ _ (fun e => hn (e ▸ ha)), fun _ hx => Or.inl hx⟩
/-- A new block may be written. -/
theorem Moves.setNew {w w' : World} {X X' : Nat → Prop} (h : Moves w X w' X') {a : Addr} (ha : w.heap.size ≤ a.block) (u : Value) : Moves w X (w'.setCell a u) X' :=
  ⟨h.os, h.tape, h.output, by simpa [World.setCell] using h.size, fun b hb hn => (Below.heap_setCell _ _ _ _ (by omega)).trans (h.keep b hb hn), h.foot⟩
theorem Moves.cell {w w' : World} {X X' : Nat → Prop} (h : Moves w X w' X') {b : Nat} (hb : b < w.heap.size) (hn : ¬ X b) (o : Nat) : w'.cell? ⟨b, o, none⟩ = w.cell? ⟨b, o, none⟩ := World.cell?_of_block (w := w) (a := ⟨b, o, none⟩) (h.keep b hb hn)
theorem Moves.frozen {w w' : World} {X X' : Nat → Prop} (h : Moves w X w' X') {b : Nat} (hb : b < w.heap.size) (hn : ¬ X b) (o : Nat) : w'.frozen? ⟨b, o, none⟩ = w.frozen? ⟨b, o, none⟩ := World.frozen?_of_block (w := w) (a := ⟨b, o, none⟩) (h.keep b hb hn)
theorem Moves.cells {w w' : World} {X X' : Nat → Prop} (h : Moves w X w' X') {b : Nat} {vs : List Value} (c : CellsAt w b vs) (hn : ¬ X b) : CellsAt w' b vs :=
  ⟨Nat.lt_of_lt_of_le c.lt h.size, fun j v hv => (h.cell c.lt hn j).trans (c.cell j v hv), fun j => (h.frozen c.lt hn j).trans (c.free j)⟩
theorem moves_drewN (w : World) (X : Nat → Prop) (n : Nat) : Moves w X (w.drewN n) X := Moves.below (below_drewN w n) X
end Go.Proofs.Ytjlcbhblpofjhaa
