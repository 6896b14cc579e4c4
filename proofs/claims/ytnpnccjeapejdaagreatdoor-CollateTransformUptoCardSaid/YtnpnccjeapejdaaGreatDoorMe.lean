/- Where a field begins, the answer's way: out of the list of fields. -/
import Derived.Test.YtnpnccjeapejdaaGreatDoorKd
import Derived.Test.YtnpnccjeapejdaaGreatDoorFld
import Derived.OwnWalk
import Derived.Laws.OwnMore
import Derived.Test.YtnpnccjeapejdaaGreatDoorNil
import Derived.Test.YtnpnccjeapejdaaGreatDoorSq
namespace Go.Proofs.YtnpnccjeapejdaaGreatDoor
open Go.RowKit
set_option maxRecDepth 100000

/-- A list of spans, as a slice. -/
structure SpAt (w : World) (ao : Option Addr) (L : List (Nat × Nat)) : Prop where
  at_ : ∀ (i a e : Nat), L[i]? = some (a, e) → ∃ b, ao = some ⟨b, 0, none⟩ ∧ b < w.heap.size ∧ w.cell? ⟨b, i * 2, none⟩ = some (.int .i64 (a : Int)) ∧ w.cell? ⟨b, i * 2 + 1, none⟩ = some (.int .i64 (e : Int))
theorem SpAt.below {w w' : World} {ao : Option Addr} {L : List (Nat × Nat)} (h : SpAt w ao L) (k : Below w.heap.size w w') : SpAt w' ao L := ⟨fun i a e hi => by
  obtain ⟨b, h1, h2, h3, h4⟩ := h.at_ i a e hi
  exact ⟨b, h1, Nat.lt_of_lt_of_le h2 k.size, (k.cell (p := ⟨b, i * 2, none⟩) h2).trans h3, (k.cell (p := ⟨b, i * 2 + 1, none⟩) h2).trans h4⟩⟩
end Go.Proofs.YtnpnccjeapejdaaGreatDoor
