/- takeHalf. -/
import Derived.Test.YtbgbmojoldkcfaaDoorNu
namespace Go.Proofs.YtbgbmojoldkcfaaDoor
open Go.RowKit

/-- All blocks that were there are as they were, but S. -/
structure KeepX (S : Nat) (w w' : World) : Prop where
  os : w'.os = w.os
  tape : w'.tape = w.tape
  output : w'.output = w.output
  size : w.heap.size ≤ w'.heap.size
  block : ∀ b, b < w.heap.size → b ≠ S → w'.heap[b]? = w.heap[b]?
theorem KeepX.refl (S : Nat) (w : World) : KeepX S w w := ⟨rfl, rfl, rfl, Nat.le_refl _, fun _ _ _ => rfl⟩
theorem KeepX.trans {S : Nat} {a b c : World} (h : KeepX S a b) (k : KeepX S b c) : KeepX S a c :=
  ⟨k.os.trans h.os, k.tape.trans h.tape, k.output.trans h.output, Nat.le_trans h.size k.size, fun i hi hn => (k.block i (Nat.lt_of_lt_of_le hi h.size) hn).trans (h.block i hi hn)⟩
theorem KeepX.alloc (S : Nat) (w : World) (o : Obj) : KeepX S w (w.alloc o) :=
  have h := (Below.refl w.heap.size w).alloc (Nat.le_refl _) o
  ⟨h.os, h.tape, h.output, h.size, fun b hb _ => h.block b hb⟩
theorem KeepX.drewN (S : Nat) (w : World) (n : Nat) : KeepX S w (w.drewN n) := ⟨rfl, rfl, rfl, Nat.le_refl _, fun _ _ _ => rfl⟩
theorem KeepX.setS (S : Nat) (w : World) (j : Nat) (x : Value) : KeepX S w (w.setCell ⟨S, j, none⟩ x) :=
  have h := (Below.refl 0 w).setCell (p := ⟨S, j, none⟩) (Nat.zero_le _) x
  ⟨h.os, h.tape, h.output, h.size, fun b _ hn => Below.heap_setCell w ⟨S, j, none⟩ x b (fun e => hn e)⟩
/-- A block beyond a bound is set: all below it stays. -/
theorem KeepX.setFar {S : Nat} {a w : World} (h : KeepX S a w) {H : Nat} (hH : a.heap.size ≤ H) (j : Nat) (x : Value) : KeepX S a (w.setCell ⟨H, j, none⟩ x) :=
  have h2 := (Below.refl 0 w).setCell (p := ⟨H, j, none⟩) (Nat.zero_le _) x
  ⟨h2.os.trans h.os, h2.tape.trans h.tape, h2.output.trans h.output, Nat.le_trans h.size h2.size, fun b hb hn => (Below.heap_setCell w ⟨H, j, none⟩ x b (fun e => by have : b = H := e; omega)).trans (h.block b hb hn)⟩
theorem CellsAt.drewN {w : World} {b : Nat} {vs : List Value} (h : CellsAt w b vs) (n : Nat) : CellsAt (w.drewN n) b vs := ⟨h.lt, h.cell, h.free⟩
/-- Within takeHalf: the result's block, the half's, the scanner's. -/
structure ThIn (w : World) (S : Nat) (t : ByteArray) (f c m k : Nat) (wr : World) : Prop where
  res : CellsAt wr w.heap.size (hfV 0 0 0)
  half : CellsAt wr (w.heap.size + 1) (hfV f c m)
  sc : CellsAt wr S (scV t k)
  keep : KeepX S w wr
theorem ThIn.drewN {w : World} {S : Nat} {t : ByteArray} {f c m k : Nat} {wr : World} (h : ThIn w S t f c m k wr) (n : Nat) : ThIn w S t f c m k (wr.drewN n) := ⟨h.res.drewN n, h.half.drewN n, h.sc.drewN n, h.keep.trans (KeepX.drewN S wr n)⟩
theorem ThIn.setH {w : World} {S : Nat} {t : ByteArray} {f c m k f' c' m' : Nat} {wr : World} (h : ThIn w S t f c m k wr) (hS : S < w.heap.size) (j : Nat) (x : Value) (hj : j < 3) (e : (hfV f c m).set j x = hfV f' c' m') : ThIn w S t f' c' m' k (wr.setCell ⟨w.heap.size + 1, j, none⟩ x) :=
  ⟨h.res.oneOther (by omega) j x, by have := h.half.set j x hj; rw [e] at this; exact this, h.sc.oneOther (by omega) j x, h.keep.setFar (Nat.le_succ _) j x⟩
theorem ThIn.setS {w : World} {S : Nat} {t : ByteArray} {f c m k k' : Nat} {wr : World} (h : ThIn w S t f c m k wr) (hS : S < w.heap.size) (x : Value) (e : x = .int .i64 (k' : Int)) : ThIn w S t f c m k' (wr.setCell ⟨S, 1, none⟩ x) :=
  ⟨h.res.oneOther (by omega) 1 x, h.half.oneOther (by omega) 1 x, by have := h.sc.set 1 x (by simp [scV]); rw [e] at this; rw [e]; exact this, h.keep.trans (KeepX.setS S wr 1 x)⟩
theorem ThIn.start (w : World) (S : Nat) (t : ByteArray) (k least : Nat) (hS : CellsAt w S (scV t k)) : ThIn w S t 0 least 0 k ((w.alloc (.cells (hfV 0 0 0).toArray 57)).alloc (.cells (hfV 0 least 0).toArray 57)) := by
  have Z := CellsAt.new (w.alloc (.cells (hfV 0 0 0).toArray 57)) (hfV 0 least 0) 57
  rw [show (w.alloc (.cells (hfV 0 0 0).toArray 57)).heap.size = w.heap.size + 1 by simp] at Z
  exact ⟨(CellsAt.new w (hfV 0 0 0) 57).alloc _, Z, (hS.alloc _).alloc _, (KeepX.alloc S w _).trans (KeepX.alloc S _ _)⟩
/-- What takeHalf gives: the scanner stands where the place ends, or at its fault. -/
def HalfPost (w : World) (S : Nat) (t : ByteArray) (p : PlaceR) (e : Ending) (w' : World) : Prop :=
  match p with
  | .bad a => (∃ f c m : Nat, e = .returned (.tuple #[.agg (hfV f c m).toArray, .bool false])) ∧ CellsAt w' S (scV t a) ∧ KeepX S w w'
  | .good f c ms a => e = .returned (.tuple #[.agg (hfV f c (orS 0 ms)).toArray, .bool true]) ∧ CellsAt w' S (scV t a) ∧ KeepX S w w'
theorem CellsAt.three {w : World} {b : Nat} {vs : List Value} (h : CellsAt w b vs) (hl : vs.length = 3) (x0 x1 x2 : Value) : CellsAt (((w.setCell ⟨b, 0, none⟩ x0).setCell ⟨b, 1, none⟩ x1).setCell ⟨b, 2, none⟩ x2) b [x0, x1, x2] := by
  match vs, hl with
  | [v0, v1, v2], _ => exact ((h.set 0 x0 (by simp)).set 1 x1 (by simp)).set 2 x2 (by simp)
end Go.Proofs.YtbgbmojoldkcfaaDoor
