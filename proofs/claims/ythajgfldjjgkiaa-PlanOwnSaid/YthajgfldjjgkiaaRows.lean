/-
  No cell of these rows narrows 'for every input' (looked for: loops, veiled, ifaces, maps, wideKeys, modest, calm, conditions, laid).
  DERIVED. THE GIVEN ROWS OF THIS SEAT. 8 by the template 'for every input the law returns true; each argument reads behind the call as it read before'; 0 by the template 'total and deterministic' (their statements: YthajgfldjjgkiaaTotals.lean).
  GIVEN WITH THE SEED: the statements are not yours to turn. If you find one false, say at which input.
  Laid BY PROGRAM, IN A SANDBOX (cutbox-rows.mjs): the forced cells as the released guide's own fill.sh prints them over the translation 88ae65c21d056101… (all of the seat's roots in one cut). By AI agents, Wed Nov 11 2026. No macro, syntax, notation, axiom, sorry.
-/
import Derived.Test.YthajgfldjjgkiaaChecked
import GoSem.Claim
import GoSem.ClaimJoined
import GoSem.ClaimMapViews
import Derived.JoinedTies
import Derived.KernelRfl
namespace Go.Proofs.Ythajgfldjjgkiaa
/- THE CELL 'sum', in the pinned program and in every row, IS THE sha256 OF THE DUMP (.gsa) THAT YthajgfldjjgkiaaProg.lean LOADS. Nothing in Lean hashes anything: it is a label: what it is worth is what the hold of that sum in a sandbox is worth. -/
noncomputable def Try.pinned : Pinned := { name := "ythajgfldjjgkiaa", sum := "88ae65c21d05610198cc9b18742f5a311e5c95c3fe20b82168e8e2d26e05d67f", checked := Try.checked }
namespace Rows
def none {H : Type} : Left H := { results := [], args := [] }

/-- 'milllaw10.PlanJudges': WHATEVER THE INPUT: true; the input reads as it did. -/
def planJudgesSpec : ChangeSpec := { name := "planJudges", fn := fun _ => fun
  | [d1, d2, d3] => { results := [.lit (.bool true)], args := [d1, d2, d3] }
  | _ => none }
def planJudgesRow : OpenClaim := { program := "ythajgfldjjgkiaa", sum := "88ae65c21d05610198cc9b18742f5a311e5c95c3fe20b82168e8e2d26e05d67f", func := "mill/milllaw10.PlanJudges", spec := "planJudges", unfollowed := true, recurses := true, apart := false }
def PlanJudgesSaid : Prop := planJudgesRow.holds Try.pinned (OpenSpec.ofChange planJudgesSpec)

/-- ITS FALSE NEIGHBOUR: 'it returns false'. Refute it at one input. -/
def planJudgesWrong : ChangeSpec := { name := "planJudges", fn := fun _ => fun
  | [d1, d2, d3] => { results := [.lit (.bool false)], args := [d1, d2, d3] }
  | _ => none }
def PlanJudgesWrongFalsely : Prop := planJudgesRow.holds Try.pinned (OpenSpec.ofChange planJudgesWrong)

/-- 'milllaw10.PlanWhole': WHATEVER THE INPUT: true; the input reads as it did. -/
def planWholeSpec : ChangeSpec := { name := "planWhole", fn := fun _ => fun
  | [d1, d2] => { results := [.lit (.bool true)], args := [d1, d2] }
  | _ => none }
def planWholeRow : OpenClaim := { program := "ythajgfldjjgkiaa", sum := "88ae65c21d05610198cc9b18742f5a311e5c95c3fe20b82168e8e2d26e05d67f", func := "mill/milllaw10.PlanWhole", spec := "planWhole", unfollowed := true, recurses := true, apart := false }
def PlanWholeSaid : Prop := planWholeRow.holds Try.pinned (OpenSpec.ofChange planWholeSpec)

/-- ITS FALSE NEIGHBOUR: 'it returns false'. Refute it at one input. -/
def planWholeWrong : ChangeSpec := { name := "planWhole", fn := fun _ => fun
  | [d1, d2] => { results := [.lit (.bool false)], args := [d1, d2] }
  | _ => none }
def PlanWholeWrongFalsely : Prop := planWholeRow.holds Try.pinned (OpenSpec.ofChange planWholeWrong)

/-- 'milllaw10.PlanLevel': WHATEVER THE INPUT: true; the input reads as it did. -/
def planLevelSpec : ChangeSpec := { name := "planLevel", fn := fun _ => fun
  | [d1, d2, d3] => { results := [.lit (.bool true)], args := [d1, d2, d3] }
  | _ => none }
def planLevelRow : OpenClaim := { program := "ythajgfldjjgkiaa", sum := "88ae65c21d05610198cc9b18742f5a311e5c95c3fe20b82168e8e2d26e05d67f", func := "mill/milllaw10.PlanLevel", spec := "planLevel", unfollowed := true, recurses := true, apart := false }
def PlanLevelSaid : Prop := planLevelRow.holds Try.pinned (OpenSpec.ofChange planLevelSpec)

/-- ITS FALSE NEIGHBOUR: 'it returns false'. Refute it at one input. -/
def planLevelWrong : ChangeSpec := { name := "planLevel", fn := fun _ => fun
  | [d1, d2, d3] => { results := [.lit (.bool false)], args := [d1, d2, d3] }
  | _ => none }
def PlanLevelWrongFalsely : Prop := planLevelRow.holds Try.pinned (OpenSpec.ofChange planLevelWrong)

/-- 'milllaw10.PlanFull': WHATEVER THE INPUT: true; the input reads as it did. -/
def planFullSpec : ChangeSpec := { name := "planFull", fn := fun _ => fun
  | [d1, d2] => { results := [.lit (.bool true)], args := [d1, d2] }
  | _ => none }
def planFullRow : OpenClaim := { program := "ythajgfldjjgkiaa", sum := "88ae65c21d05610198cc9b18742f5a311e5c95c3fe20b82168e8e2d26e05d67f", func := "mill/milllaw10.PlanFull", spec := "planFull", unfollowed := true, recurses := true, apart := false }
def PlanFullSaid : Prop := planFullRow.holds Try.pinned (OpenSpec.ofChange planFullSpec)

/-- ITS FALSE NEIGHBOUR: 'it returns false'. Refute it at one input. -/
def planFullWrong : ChangeSpec := { name := "planFull", fn := fun _ => fun
  | [d1, d2] => { results := [.lit (.bool false)], args := [d1, d2] }
  | _ => none }
def PlanFullWrongFalsely : Prop := planFullRow.holds Try.pinned (OpenSpec.ofChange planFullWrong)

/-- 'milllaw10.PlanMakes': WHATEVER THE INPUT: true; the input reads as it did. -/
def planMakesSpec : ChangeSpec := { name := "planMakes", fn := fun _ => fun
  | [d1, d2] => { results := [.lit (.bool true)], args := [d1, d2] }
  | _ => none }
def planMakesRow : OpenClaim := { program := "ythajgfldjjgkiaa", sum := "88ae65c21d05610198cc9b18742f5a311e5c95c3fe20b82168e8e2d26e05d67f", func := "mill/milllaw10.PlanMakes", spec := "planMakes", unfollowed := true, recurses := true, apart := false }
def PlanMakesSaid : Prop := planMakesRow.holds Try.pinned (OpenSpec.ofChange planMakesSpec)

/-- ITS FALSE NEIGHBOUR: 'it returns false'. Refute it at one input. -/
def planMakesWrong : ChangeSpec := { name := "planMakes", fn := fun _ => fun
  | [d1, d2] => { results := [.lit (.bool false)], args := [d1, d2] }
  | _ => none }
def PlanMakesWrongFalsely : Prop := planMakesRow.holds Try.pinned (OpenSpec.ofChange planMakesWrong)

/-- 'milllaw10.PlanOwn': WHATEVER THE INPUT: true; the input reads as it did. -/
def planOwnSpec : ChangeSpec := { name := "planOwn", fn := fun _ => fun
  | [d1, d2] => { results := [.lit (.bool true)], args := [d1, d2] }
  | _ => none }
def planOwnRow : OpenClaim := { program := "ythajgfldjjgkiaa", sum := "88ae65c21d05610198cc9b18742f5a311e5c95c3fe20b82168e8e2d26e05d67f", func := "mill/milllaw10.PlanOwn", spec := "planOwn", unfollowed := true, recurses := true, apart := false }
def PlanOwnSaid : Prop := planOwnRow.holds Try.pinned (OpenSpec.ofChange planOwnSpec)

/-- ITS FALSE NEIGHBOUR: 'it returns false'. Refute it at one input. -/
def planOwnWrong : ChangeSpec := { name := "planOwn", fn := fun _ => fun
  | [d1, d2] => { results := [.lit (.bool false)], args := [d1, d2] }
  | _ => none }
def PlanOwnWrongFalsely : Prop := planOwnRow.holds Try.pinned (OpenSpec.ofChange planOwnWrong)

/-- 'milllaw10.PlanQueues': WHATEVER THE INPUT: true; the input reads as it did. -/
def planQueuesSpec : ChangeSpec := { name := "planQueues", fn := fun _ => fun
  | [d1, d2, d3] => { results := [.lit (.bool true)], args := [d1, d2, d3] }
  | _ => none }
def planQueuesRow : OpenClaim := { program := "ythajgfldjjgkiaa", sum := "88ae65c21d05610198cc9b18742f5a311e5c95c3fe20b82168e8e2d26e05d67f", func := "mill/milllaw10.PlanQueues", spec := "planQueues", unfollowed := true, recurses := true, apart := false }
def PlanQueuesSaid : Prop := planQueuesRow.holds Try.pinned (OpenSpec.ofChange planQueuesSpec)

/-- ITS FALSE NEIGHBOUR: 'it returns false'. Refute it at one input. -/
def planQueuesWrong : ChangeSpec := { name := "planQueues", fn := fun _ => fun
  | [d1, d2, d3] => { results := [.lit (.bool false)], args := [d1, d2, d3] }
  | _ => none }
def PlanQueuesWrongFalsely : Prop := planQueuesRow.holds Try.pinned (OpenSpec.ofChange planQueuesWrong)

/-- 'milllaw10.PlanCheapest': WHATEVER THE INPUT: true; the input reads as it did. -/
def planCheapestSpec : ChangeSpec := { name := "planCheapest", fn := fun _ => fun
  | [d1, d2, d3] => { results := [.lit (.bool true)], args := [d1, d2, d3] }
  | _ => none }
def planCheapestRow : OpenClaim := { program := "ythajgfldjjgkiaa", sum := "88ae65c21d05610198cc9b18742f5a311e5c95c3fe20b82168e8e2d26e05d67f", func := "mill/milllaw10.PlanCheapest", spec := "planCheapest", unfollowed := true, recurses := true, apart := false }
def PlanCheapestSaid : Prop := planCheapestRow.holds Try.pinned (OpenSpec.ofChange planCheapestSpec)

/-- ITS FALSE NEIGHBOUR: 'it returns false'. Refute it at one input. -/
def planCheapestWrong : ChangeSpec := { name := "planCheapest", fn := fun _ => fun
  | [d1, d2, d3] => { results := [.lit (.bool false)], args := [d1, d2, d3] }
  | _ => none }
def PlanCheapestWrongFalsely : Prop := planCheapestRow.holds Try.pinned (OpenSpec.ofChange planCheapestWrong)

/- THE SECOND FORM. 'bulk': how many values and letters a reading holds, each counted each time it is reached (what is shared counts as often as it is met; a slice's spare places count too). A statement '..UptoSaid' is the law's where the arguments, and the package variables that the reading takes, are together of bulk at most 1048576: NARROWER than '..Said'. Prove '..Said' where nothing that the law and all that it calls make is longer than what came in: it says more and counts as full. Else prove '..UptoSaid'. A law counts once. -/
mutual
def uptoBulk {H : Type} : DataW H → Nat
  | .lit (.string bytes) => bytes.length + 1
  | .lit _ => 1
  | .nil => 1
  | .ptr d => uptoBulk d + 1
  | .slice elems spare => uptoBulkAll elems + uptoBulkAll spare + 1
  | .agg parts => uptoBulkAll parts + 1
  | .iface _ d => uptoBulk d + 1
  | .map entries => uptoBulkEntries entries + 1
  | .held _ => 1
def uptoBulkAll {H : Type} : List (DataW H) → Nat
  | [] => 0
  | d :: r => uptoBulk d + uptoBulkAll r
def uptoBulkEntries {H : Type} : List (Lit × DataW H) → Nat
  | [] => 0
  | x :: r => uptoBulkEntry x + uptoBulkEntries r
def uptoBulkEntry {H : Type} : Lit × DataW H → Nat
  | (.string bytes, d) => bytes.length + uptoBulk d + 1
  | (_, d) => uptoBulk d + 1
 end
def uptoSmall : (H : Type) → List (DataW H) → Bool := fun _ ds => decide (uptoBulkAll ds ≤ 1048576)
def OpenSpec.upto (s : _root_.Go.ChangeSpec) : _root_.Go.OpenSpec := { _root_.Go.OpenSpec.ofChange s with cond := some uptoSmall }

/-- 'milllaw10.PlanJudges', WHERE WHAT IT READS IS OF BULK AT MOST 1048576: true; the input reads as it did. -/
def planJudgesUptoRow : OpenClaim := { program := "ythajgfldjjgkiaa", sum := "88ae65c21d05610198cc9b18742f5a311e5c95c3fe20b82168e8e2d26e05d67f", func := "mill/milllaw10.PlanJudges", spec := "planJudges", unfollowed := true, recurses := true, apart := false, narrowed := true }
def PlanJudgesUptoSaid : Prop := planJudgesUptoRow.holds Try.pinned (OpenSpec.upto planJudgesSpec)

/-- 'milllaw10.PlanWhole', WHERE WHAT IT READS IS OF BULK AT MOST 1048576: true; the input reads as it did. -/
def planWholeUptoRow : OpenClaim := { program := "ythajgfldjjgkiaa", sum := "88ae65c21d05610198cc9b18742f5a311e5c95c3fe20b82168e8e2d26e05d67f", func := "mill/milllaw10.PlanWhole", spec := "planWhole", unfollowed := true, recurses := true, apart := false, narrowed := true }
def PlanWholeUptoSaid : Prop := planWholeUptoRow.holds Try.pinned (OpenSpec.upto planWholeSpec)

/-- 'milllaw10.PlanLevel', WHERE WHAT IT READS IS OF BULK AT MOST 1048576: true; the input reads as it did. -/
def planLevelUptoRow : OpenClaim := { program := "ythajgfldjjgkiaa", sum := "88ae65c21d05610198cc9b18742f5a311e5c95c3fe20b82168e8e2d26e05d67f", func := "mill/milllaw10.PlanLevel", spec := "planLevel", unfollowed := true, recurses := true, apart := false, narrowed := true }
def PlanLevelUptoSaid : Prop := planLevelUptoRow.holds Try.pinned (OpenSpec.upto planLevelSpec)

/-- 'milllaw10.PlanFull', WHERE WHAT IT READS IS OF BULK AT MOST 1048576: true; the input reads as it did. -/
def planFullUptoRow : OpenClaim := { program := "ythajgfldjjgkiaa", sum := "88ae65c21d05610198cc9b18742f5a311e5c95c3fe20b82168e8e2d26e05d67f", func := "mill/milllaw10.PlanFull", spec := "planFull", unfollowed := true, recurses := true, apart := false, narrowed := true }
def PlanFullUptoSaid : Prop := planFullUptoRow.holds Try.pinned (OpenSpec.upto planFullSpec)

/-- 'milllaw10.PlanMakes', WHERE WHAT IT READS IS OF BULK AT MOST 1048576: true; the input reads as it did. -/
def planMakesUptoRow : OpenClaim := { program := "ythajgfldjjgkiaa", sum := "88ae65c21d05610198cc9b18742f5a311e5c95c3fe20b82168e8e2d26e05d67f", func := "mill/milllaw10.PlanMakes", spec := "planMakes", unfollowed := true, recurses := true, apart := false, narrowed := true }
def PlanMakesUptoSaid : Prop := planMakesUptoRow.holds Try.pinned (OpenSpec.upto planMakesSpec)

/-- 'milllaw10.PlanOwn', WHERE WHAT IT READS IS OF BULK AT MOST 1048576: true; the input reads as it did. -/
def planOwnUptoRow : OpenClaim := { program := "ythajgfldjjgkiaa", sum := "88ae65c21d05610198cc9b18742f5a311e5c95c3fe20b82168e8e2d26e05d67f", func := "mill/milllaw10.PlanOwn", spec := "planOwn", unfollowed := true, recurses := true, apart := false, narrowed := true }
def PlanOwnUptoSaid : Prop := planOwnUptoRow.holds Try.pinned (OpenSpec.upto planOwnSpec)

/-- 'milllaw10.PlanQueues', WHERE WHAT IT READS IS OF BULK AT MOST 1048576: true; the input reads as it did. -/
def planQueuesUptoRow : OpenClaim := { program := "ythajgfldjjgkiaa", sum := "88ae65c21d05610198cc9b18742f5a311e5c95c3fe20b82168e8e2d26e05d67f", func := "mill/milllaw10.PlanQueues", spec := "planQueues", unfollowed := true, recurses := true, apart := false, narrowed := true }
def PlanQueuesUptoSaid : Prop := planQueuesUptoRow.holds Try.pinned (OpenSpec.upto planQueuesSpec)

/-- 'milllaw10.PlanCheapest', WHERE WHAT IT READS IS OF BULK AT MOST 1048576: true; the input reads as it did. -/
def planCheapestUptoRow : OpenClaim := { program := "ythajgfldjjgkiaa", sum := "88ae65c21d05610198cc9b18742f5a311e5c95c3fe20b82168e8e2d26e05d67f", func := "mill/milllaw10.PlanCheapest", spec := "planCheapest", unfollowed := true, recurses := true, apart := false, narrowed := true }
def PlanCheapestUptoSaid : Prop := planCheapestUptoRow.holds Try.pinned (OpenSpec.upto planCheapestSpec)

end Rows
end Go.Proofs.Ythajgfldjjgkiaa
