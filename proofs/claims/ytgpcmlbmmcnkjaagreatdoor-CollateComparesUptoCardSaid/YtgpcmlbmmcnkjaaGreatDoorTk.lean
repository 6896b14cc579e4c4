/- Blocks of options and of keys that the law itself makes. -/
import Derived.Test.YtgpcmlbmmcnkjaaGreatDoorFxB
import Derived.Laws.IdiomStrings
import Derived.Test.YtgpcmlbmmcnkjaaGreatDoorTc
import Derived.Deep.MidRow
namespace Go.Proofs.YtgpcmlbmmcnkjaaGreatDoor
section
open Go.RowKit
set_option maxRecDepth 100000
/-- Bytes of a block of the call's own. -/
structure UpB (W : World) (g : Nat) (l : List UInt8) : Prop where
  lt : g < W.heap.size
  cell : ∀ j (h : j < l.length), W.cell? ⟨g, j, none⟩ = some (.int .u8 (l[j].toNat : Int))
  free : ∀ j, j < l.length → W.frozen? ⟨g, j, none⟩ = false
theorem UpB.set {W : World} {g : Nat} {l : List UInt8} (h : UpB W g l) (j : Nat) (hj : j < l.length) (y : UInt8) : UpB (W.setCell ⟨g, j, none⟩ (.int .u8 (y.toNat : Int))) g (l.set j y) := by
  refine ⟨by simpa using h.lt, fun i hi => ?_, fun i hi => ?_⟩
  · by_cases e : j = i
    · subst e
      rw [World.cell?_setCell_same _ _ _ (h.cell j hj), List.getElem_set_self]
    · rw [World.cell?_setCell_other _ _ _ _ (fun q => e (congrArg Addr.off q)), List.getElem_set_ne e]
      exact h.cell i (by simpa using hi)
  · rw [World.frozen?_setCell]
    exact h.free i (by simpa using hi)
theorem UpB.conv {W : World} {g cap n : Nat} {l : List UInt8} (h : UpB W g l) (hn : n = l.length) : (convert 71 9 (.slice (some ⟨g, 0, none⟩) n cap)).run Tryz.prog W = .ok (.string (bs l)) W := by
  subst hn
  refine run_convert_bytes_back W 71 9 5 ⟨g, 0, none⟩ cap l Tryz.underlying71 Tryz.underlying5 Tryz.underlying9 (fun j hj => ?_)
  rw [add_plain, Nat.zero_add]
  exact h.cell j hj
end
section
section
section
open Go.RowKit
open Num (IsCmp)
set_option maxRecDepth 100000
end
section
open Go.RowKit
open Num (IsCmp)
set_option maxRecDepth 100000
theorem eff_lenT (ks : List KeyL) (m : Nat) (t : Int) : (effL ks m t).length ≤ ks.length + 1 := by
  unfold effL dflt
  rw [List.length_map]
  split
  · simp
  · omega
end
end
section
open Go.RowKit
set_option maxRecDepth 100000
/-- The separator of options that may be. -/
def tabO (t : Int) : Option UInt8 := if t < 0 then none else some (UInt8.ofNat t.toNat)
theorem tabO_of {t : Int} {oo : Option UInt8} (h : t = tabI oo) : tabO t = oo := by
  subst h
  unfold tabO tabI
  cases oo with
  | none => simp
  | some c =>
    have := c.toNat_lt
    simp
end
end
end Go.Proofs.YtgpcmlbmmcnkjaaGreatDoor
