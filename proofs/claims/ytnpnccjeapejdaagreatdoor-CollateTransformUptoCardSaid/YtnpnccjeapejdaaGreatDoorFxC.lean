/- ordered with what each key keeps (Od), the walk of CollateSpans over contracts (Sl), with the contracts laid in (Sk). -/
import Derived.Test.YtnpnccjeapejdaaGreatDoorFxB
import Derived.Test.YtnpnccjeapejdaaGreatDoorNr
import Derived.Test.YtnpnccjeapejdaaGreatDoorRe
import Derived.Test.YtnpnccjeapejdaaGreatDoorKd
namespace Go.Proofs.YtnpnccjeapejdaaGreatDoor
section
open Go.RowKit
set_option maxRecDepth 100000
def spL (s : ByteArray) (oo : Option UInt8) (L : List KeyL) (i : Nat) : Nat × Nat :=
  match L[i]? with
  | some K => spanP s.data.toList oo K.f.toNat K.c.toNat K.ef.toNat K.ec.toNat K.m K.b
  | none => (0, 0)
theorem lets_any (m : Nat) : letsS m = 0 ∨ letsS m = 2 ∨ letsS m = 4 := by
  unfold letsS
  split
  · split
    · exact Or.inl rfl
    · exact Or.inr (Or.inr rfl)
  · exact Or.inr (Or.inl rfl)
theorem spanP_le (s : ByteArray) (o : Option UInt8) (f c ef ec m : Nat) (b : Bool) : (spanP s.data.toList o f c ef ec m b).1 ≤ (spanP s.data.toList o f c ef ec m b).2 ∧ (spanP s.data.toList o f c ef ec m b).2 ≤ s.size := by
  have l1 := spanB_le s.data.toList o f c m
  have l2 := spanE_le s.data.toList o ef ec b
  unfold spanP
  rw [Lib.size_eq]
  exact ⟨Nat.le_max_left _ _, by simp only; omega⟩
def Nats (L : List KeyL) : Prop := ∀ K ∈ L, ∃ f c ef ec : Nat, K.f = f ∧ K.c = c ∧ K.ef = ef ∧ K.ec = ec ∧ (1 ≤ f ∧ f ≤ 2147483647) ∧ (1 ≤ c ∧ c ≤ 2147483647) ∧ ef ≤ 2147483647 ∧ ec ≤ 2147483647 ∧ K.m < 65536
theorem spL_at {s : ByteArray} {oo : Option UInt8} {L : List KeyL} {i : Nat} (hi : i < L.length) : spL s oo L i = spanP s.data.toList oo L[i].f.toNat L[i].c.toNat L[i].ef.toNat L[i].ec.toNat L[i].m L[i].b := by
  unfold spL; rw [List.getElem?_eq_getElem hi]
end
section
open Go.RowKit
set_option maxRecDepth 100000
/-- What stands through the loop. -/
structure SpsAt (w w4 W : World) (C : List Value) (g : Nat) (L : List KeyL) : Prop where
  opt : CellsAt W w.heap.size C
  row : W.rangeAt g 0 (ksV L)
  lg : g < W.heap.size
  b4 : Below w4.heap.size w4 W
  bel : Below w.heap.size w W
theorem SpsAt.step {w w4 W W' : World} {C : List Value} {g : Nat} {L : List KeyL} (h : SpsAt w w4 W C g L) (b : Below W.heap.size W W') : SpsAt w w4 W' C g L :=
  ⟨h.opt.step b, range_below h.row b h.lg, Nat.lt_of_lt_of_le h.lg b.size, h.b4.trans (b.mono h.b4.size), h.bel.trans (b.mono h.bel.size)⟩
end
section
open Go.RowKit
end
end Go.Proofs.YtnpnccjeapejdaaGreatDoor
