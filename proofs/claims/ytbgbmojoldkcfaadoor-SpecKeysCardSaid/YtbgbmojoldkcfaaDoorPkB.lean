/- ParseKey, the program's: what stands between its steps. -/
import Derived.Test.YtbgbmojoldkcfaaDoorTk
import Derived.ScopeJumps
namespace Go.Proofs.YtbgbmojoldkcfaaDoor
open Go.RowKit
/-- A scope whose label is jumped to once at most. -/
theorem wp_scope_once {P : Program} {a : Act} {w : World} {Q : Exit → Act → World → Prop} {c rest : Code} (l : Nat) (hf : findLabel c l = some rest)
    (first : c.wp P (Exit.jump l (fun a w => rest.wp P (Exit.noGoto Q) a w) Q) a w) : (Code.scope c).wp P Q a w :=
  wp_scope_jumps l (fun a w => rest.wp P (Exit.noGoto Q) a w) (fun _ _ => 0) hf first fun _ _ h => Code.wp_mono (fun e _ _ he => by cases e <;> first | exact he.elim | exact he) h
theorem xcell {S : Nat} {w w' : World} (k : KeepX S w w') (b j : Nat) (hb : b < w.heap.size) (hS : b ≠ S) : w'.cell? ⟨b, j, none⟩ = w.cell? ⟨b, j, none⟩ ∧ w'.frozen? ⟨b, j, none⟩ = w.frozen? ⟨b, j, none⟩ := by
  have e := k.block b hb hS
  unfold World.cell? World.frozen?
  simp only [e, and_self]
theorem CellsAt.keepX {S : Nat} {w w' : World} {b : Nat} {vs : List Value} (h : CellsAt w b vs) (k : KeepX S w w') (hS : b ≠ S) : CellsAt w' b vs :=
  ⟨Nat.lt_of_lt_of_le h.lt k.size, fun j v hv => ((xcell k b j h.lt hS).1).trans (h.cell j v hv), fun j => ((xcell k b j h.lt hS).2).trans (h.free j)⟩
def hv2 (f0 c0 m0 f1 c1 m1 : Nat) : List Value := [.int .i64 (f0 : Int), .int .i64 (c0 : Int), .int .u16 (m0 : Int), .int .i64 (f1 : Int), .int .i64 (c1 : Int), .int .u16 (m1 : Int)]
/-- Within ParseKey: the answer's block, the scanner's, that of the halves. -/
structure PkIn (w : World) (t : ByteArray) (k : Nat) (hv : List Value) (wr : World) : Prop where
  res : CellsAt wr w.heap.size (kc6 zeroK)
  sc : CellsAt wr (w.heap.size + 1) (scV t k)
  two : CellsAt wr (w.heap.size + 1 + 1) hv
  below : Below w.heap.size w wr
  bits : BitsT wr
theorem lt2 {w : World} (T : BitsT w) : 2 < w.heap.size := by obtain ⟨t, fr, h⟩ := T; exact lt_of_block h
theorem PkIn.start (w : World) (t : ByteArray) (T : BitsT w) : PkIn w t 0 (hv2 0 0 0 0 0 0) (((w.alloc (.cells (kc6 zeroK).toArray 36)).alloc (.cells (scV t 0).toArray 55)).alloc (.cells (hv2 0 0 0 0 0 0).toArray 58)) := by
  have B1 := (Below.refl w.heap.size w).alloc (Nat.le_refl _) (.cells (kc6 zeroK).toArray 36)
  have B2 := B1.alloc (by simp) (.cells (scV t 0).toArray 55)
  have B3 := B2.alloc (by simp; omega) (.cells (hv2 0 0 0 0 0 0).toArray 58)
  have Z1 := CellsAt.new w (kc6 zeroK) 36
  have Z2 := CellsAt.new (w.alloc (.cells (kc6 zeroK).toArray 36)) (scV t 0) 55
  have Z3 := CellsAt.new ((w.alloc (.cells (kc6 zeroK).toArray 36)).alloc (.cells (scV t 0).toArray 55)) (hv2 0 0 0 0 0 0) 58
  rw [show (w.alloc (.cells (kc6 zeroK).toArray 36)).heap.size = w.heap.size + 1 by simp] at Z2
  rw [show ((w.alloc (.cells (kc6 zeroK).toArray 36)).alloc (.cells (scV t 0).toArray 55)).heap.size = w.heap.size + 1 + 1 by simp] at Z3
  exact ⟨(Z1.alloc _).alloc _, Z2.alloc _, Z3, B3, T.below B3⟩
theorem PkIn.half {w : World} {t : ByteArray} {k k' : Nat} {hv : List Value} {wr w' : World} (h : PkIn w t k hv wr) (hs : CellsAt w' (w.heap.size + 1) (scV t k')) (kx : KeepX (w.heap.size + 1) wr w') (h2 : 2 < w.heap.size) : PkIn w t k' hv w' :=
  ⟨h.res.keepX kx (by omega), hs, h.two.keepX kx (by omega), ⟨kx.os.trans h.below.os, kx.tape.trans h.below.tape, kx.output.trans h.below.output, Nat.le_trans h.below.size kx.size, fun b hb => (kx.block b (Nat.lt_of_lt_of_le hb h.below.size) (by omega)).trans (h.below.block b hb)⟩, h.bits.keepX kx (by omega)⟩
theorem PkIn.over {w : World} {t : ByteArray} {k : Nat} {hv : List Value} {wr w' : World} (h : PkIn w t k hv wr) (b : Below wr.heap.size wr w') : PkIn w t k hv w' :=
  ⟨h.res.step b, h.sc.step b, h.two.step b, h.below.trans (b.mono h.below.size), h.bits.below b⟩
theorem PkIn.drew {w : World} {t : ByteArray} {k : Nat} {hv : List Value} {wr : World} (h : PkIn w t k hv wr) : PkIn w t k hv wr.drew := h.over ⟨rfl, rfl, rfl, Nat.le_refl _, fun _ _ => rfl⟩
theorem PkIn.drewN {w : World} {t : ByteArray} {k : Nat} {hv : List Value} {wr : World} (h : PkIn w t k hv wr) (n : Nat) : PkIn w t k hv (wr.drewN n) := h.over ⟨rfl, rfl, rfl, Nat.le_refl _, fun _ _ => rfl⟩
theorem PkIn.alloc {w : World} {t : ByteArray} {k : Nat} {hv : List Value} {wr : World} (h : PkIn w t k hv wr) (o : Obj) : PkIn w t k hv (wr.alloc o) := h.over ((Below.refl _ _).alloc (Nat.le_refl _) o)
end Go.Proofs.YtbgbmojoldkcfaaDoor
