/- What the program's Check asks is what the document's asks. -/
import Derived.Test.YtgpcmlbmmcnkjaaGreatDoorSh
import Derived.Test.YtgpcmlbmmcnkjaaGreatDoorCh
namespace Go.Proofs.YtgpcmlbmmcnkjaaGreatDoor
open Go.RowKit

theorem hb_eq (k : KeyL) : hb k = (shB k.f k.c k.ef k.ec k.m k.b && togS k.m) := by
  obtain ⟨f, c, ef, ec, m, b⟩ := k
  unfold hb shB
  cases togS m
  · simp
  · rw [Bool.eq_iff_iff]
    cases b <;> simp <;> omega
def shK (k : KeyL) : Bool := shB k.f k.c k.ef k.ec k.m k.b
/-- May these options be, as the document says it? -/
def docS (ks : List KeyL) (m : Nat) (t : Int) : Bool :=
  decide (ks.length ≤ 16) && (decide (-1 ≤ t ∧ t ≤ 255) && (decide (m < 1024) && (ks.all shK && (effL ks m t).all (fun x => togS x.m))))
theorem tog_own (o : Opt) (k : KeyL) (h : togS (own o k).m = true) : togS k.m = true := by
  unfold own at h
  split at h
  · rename_i h0
    rw [h0.1]; decide
  · exact h
theorem chS_doc (ks : List KeyL) (m : Nat) (t : Int) : chS ks m t = docS ks m t := by
  rw [Bool.eq_iff_iff]
  unfold chS fhS docS
  simp only [Bool.and_eq_true, decide_eq_true_eq, List.all_eq_true]
  constructor
  · rintro ⟨⟨h1, h2, h3, h4⟩, h5⟩
    exact ⟨h1, h4, h3, fun k hk => by have := h2 k hk; rw [hb_eq, Bool.and_eq_true] at this; exact this.1, h5⟩
  · rintro ⟨h1, h4, h3, h2, h5⟩
    refine ⟨⟨h1, fun k hk => ?_, h3, h4⟩, h5⟩
    rw [hb_eq, Bool.and_eq_true]
    refine ⟨h2 k hk, tog_own (o3 m t) k (h5 _ ?_)⟩
    unfold effL dflt
    rw [if_neg (by rintro rfl; cases hk)]
    exact List.mem_map_of_mem hk
end Go.Proofs.YtgpcmlbmmcnkjaaGreatDoor
