/- keyspec.fieldsHold of options that say keys, modifiers and a separator, all else as nothing says it. -/
import Derived.Test.YtgpcmlbmmcnkjaaGreatDoorCk
namespace Go.Proofs.YtgpcmlbmmcnkjaaGreatDoor
open Go.RowKit

set_option maxRecDepth 100000
/-- Options that say keys, modifiers and a separator. -/
def oC (v : Value) (m : Nat) (t : Int) : List Value := [v, .int .u16 (m : Int), .int .i64 t, .bool false, .bool false, .bool false, .bool false, .int .u8 0, .string ⟨#[]⟩, .bool false, .int .i64 0, .int .i64 0, .int .i64 0, .int .i64 0, .string ⟨#[]⟩, .bool false, .string ⟨#[]⟩, .slice none 0 0]
/-- Does each field hold? -/
def fhS (ks : List KeyL) (m : Nat) (t : Int) : Bool := decide (ks.length ≤ 16) && (ks.all hb && (decide (m < 1024) && decide (-1 ≤ t ∧ t ≤ 255)))
theorem sl_shape {w : World} {B : Nat} {v : Value} {size n : Nat} {xs : List Value} (h : SlAt w B v size n xs) : ∃ ao c, v = .slice ao n c := by
  rcases h.2 with ⟨h | ⟨ad, c, h⟩, h0⟩ | ⟨b, off, c, h, _⟩
  · exact ⟨none, 0, by rw [h, h0]⟩
  · exact ⟨some ad, c, by rw [h, h0]⟩
  · exact ⟨_, c, h⟩
end Go.Proofs.YtgpcmlbmmcnkjaaGreatDoor
