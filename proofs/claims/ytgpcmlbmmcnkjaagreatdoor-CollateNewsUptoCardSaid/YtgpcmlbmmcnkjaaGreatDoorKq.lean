/- A key's comparison, in the present world. No walk. -/
import Derived.Test.YtgpcmlbmmcnkjaaGreatDoorNl
import Derived.Laws.AppendOwn
namespace Go.Proofs.YtgpcmlbmmcnkjaaGreatDoor
open Go.RowKit
theorem CellsAt.agree {w w' : World} {b : Nat} {vs : List Value} (h : CellsAt w b vs) (he : w'.heap[b]? = w.heap[b]?) (hs : w.heap.size ≤ w'.heap.size) : CellsAt w' b vs :=
  ⟨Nat.lt_of_lt_of_le h.lt hs, fun j v hv => (World.cell?_of_block (a := ⟨b, j, none⟩) he).trans (h.cell j v hv), fun j => (World.frozen?_of_block (a := ⟨b, j, none⟩) he).trans (h.free j)⟩
theorem CmpAt.agree {w w' : World} {B K lt : Nat} {fo : Bool} {fv : Value} (h : CmpAt w B K lt fo fv) (hs : w.heap.size ≤ w'.heap.size) (he : ∀ b, B ≤ b → b < w.heap.size → w'.heap[b]? = w.heap[b]?) : CmpAt w' B K lt fo fv := by
  rcases h with h | h | ⟨h, p, q, u, v, h1, h2, h3⟩ | ⟨h, h0, p, u, h1, h2⟩
  · exact Or.inl h
  · exact Or.inr (Or.inl h)
  · exact Or.inr (Or.inr (Or.inl ⟨h, p, q, u, v, h1, h2.agree (he p u h2.lt) hs, h3.agree (he q v h3.lt) hs⟩))
  · exact Or.inr (Or.inr (Or.inr ⟨h, h0, p, u, h1, h2.agree (he p u h2.lt) hs⟩))
theorem KeyH.agree {w w' : World} {B x kd lt : Nat} {fo : Bool} {fv : Value} (h : KeyH w B x kd lt fo fv) (hs : w.heap.size ≤ w'.heap.size) (he : ∀ b, B ≤ b → b < w.heap.size → w'.heap[b]? = w.heap[b]?) : KeyH w' B x kd lt fo fv := by
  rcases h with ⟨h0, h⟩ | ⟨h0, g, h, q, u, v, hq⟩
  · exact Or.inl ⟨h0, h.agree hs he⟩
  · exact Or.inr ⟨h0, g, h.agree hs he, q, u, v, hq.agree (he q u hq.lt) hs⟩
/-- What KeyF says, in the present world. -/
theorem KeyF.now {wr : World} {R x kd lt : Nat} {r : Option Nat} {fo : Bool} {fv : Value} (h : KeyF wr R r x kd lt fo fv) : ∃ B, R ≤ B ∧ KeyH wr B x kd lt fo fv := by
  obtain ⟨B, w0, h1, h2, h3, _, h5⟩ := h.ex
  exact ⟨B, h1, h5.agree h2 h3⟩
end Go.Proofs.YtgpcmlbmmcnkjaaGreatDoor
