/-
  No cell of these rows narrows 'for every input' (looked for: loops, veiled, ifaces, maps, wideKeys, modest, calm, conditions, laid).
  DERIVED. THE GIVEN ROWS OF THIS SEAT. 8 by the template 'for every input the law returns true; each argument reads behind the call as it read before'; 0 by the template 'total and deterministic' (their statements: YtjlcbhblpofjhaaTotals.lean).
  GIVEN WITH THE SEED: the statements are not yours to turn. If you find one false, say at which input.
  Laid BY PROGRAM, IN A SANDBOX (cutbox-rows.mjs): the forced cells as the released guide's own fill.sh prints them over the translation 2e68cd79a5a45abe… (all of the seat's roots in one cut). By AI agents, Wed Nov 11 2026. No macro, syntax, notation, axiom, sorry.
-/
import Derived.Test.YtjlcbhblpofjhaaChecked
import GoSem.Claim
import GoSem.ClaimJoined
import GoSem.ClaimMapViews
import Derived.JoinedTies
import Derived.KernelRfl
namespace Go.Proofs.Ytjlcbhblpofjhaa
/- THE CELL 'sum', in the pinned program and in every row, IS THE sha256 OF THE DUMP (.gsa) THAT YtjlcbhblpofjhaaProg.lean LOADS. Nothing in Lean hashes anything: it is a label: what it is worth is what the hold of that sum in a sandbox is worth. -/
noncomputable def Try.pinned : Pinned := { name := "ytjlcbhblpofjhaa", sum := "2e68cd79a5a45abe99ddf5f3489c386702ec4201d5b705ff62ba32d061eee741", checked := Try.checked }
namespace Rows
def none {H : Type} : Left H := { results := [], args := [] }

/-- 'milllaw9.TreeCompared': WHATEVER THE INPUT: true; the input reads as it did. -/
def treeComparedSpec : ChangeSpec := { name := "treeCompared", fn := fun _ => fun
  | [d] => { results := [.lit (.bool true)], args := [d] }
  | _ => none }
def treeComparedRow : OpenClaim := { program := "ytjlcbhblpofjhaa", sum := "2e68cd79a5a45abe99ddf5f3489c386702ec4201d5b705ff62ba32d061eee741", func := "mill/milllaw9.TreeCompared", spec := "treeCompared", unfollowed := true, recurses := true, apart := false }
def TreeComparedSaid : Prop := treeComparedRow.holds Try.pinned (OpenSpec.ofChange treeComparedSpec)

/-- ITS FALSE NEIGHBOUR: 'it returns false'. Refute it at one input. -/
def treeComparedWrong : ChangeSpec := { name := "treeCompared", fn := fun _ => fun
  | [d] => { results := [.lit (.bool false)], args := [d] }
  | _ => none }
def TreeComparedWrongFalsely : Prop := treeComparedRow.holds Try.pinned (OpenSpec.ofChange treeComparedWrong)

/-- 'milllaw9.TreeAnyOrder': WHATEVER THE INPUT: true; the input reads as it did. -/
def treeAnyOrderSpec : ChangeSpec := { name := "treeAnyOrder", fn := fun _ => fun
  | [d1, d2, d3] => { results := [.lit (.bool true)], args := [d1, d2, d3] }
  | _ => none }
def treeAnyOrderRow : OpenClaim := { program := "ytjlcbhblpofjhaa", sum := "2e68cd79a5a45abe99ddf5f3489c386702ec4201d5b705ff62ba32d061eee741", func := "mill/milllaw9.TreeAnyOrder", spec := "treeAnyOrder", unfollowed := true, recurses := true, apart := false }
def TreeAnyOrderSaid : Prop := treeAnyOrderRow.holds Try.pinned (OpenSpec.ofChange treeAnyOrderSpec)

/-- ITS FALSE NEIGHBOUR: 'it returns false'. Refute it at one input. -/
def treeAnyOrderWrong : ChangeSpec := { name := "treeAnyOrder", fn := fun _ => fun
  | [d1, d2, d3] => { results := [.lit (.bool false)], args := [d1, d2, d3] }
  | _ => none }
def TreeAnyOrderWrongFalsely : Prop := treeAnyOrderRow.holds Try.pinned (OpenSpec.ofChange treeAnyOrderWrong)

/-- 'milllaw9.TreeSorts': WHATEVER THE INPUT: true; the input reads as it did. -/
def treeSortsSpec : ChangeSpec := { name := "treeSorts", fn := fun _ => fun
  | [d] => { results := [.lit (.bool true)], args := [d] }
  | _ => none }
def treeSortsRow : OpenClaim := { program := "ytjlcbhblpofjhaa", sum := "2e68cd79a5a45abe99ddf5f3489c386702ec4201d5b705ff62ba32d061eee741", func := "mill/milllaw9.TreeSorts", spec := "treeSorts", unfollowed := true, recurses := true, apart := false }
def TreeSortsSaid : Prop := treeSortsRow.holds Try.pinned (OpenSpec.ofChange treeSortsSpec)

/-- ITS FALSE NEIGHBOUR: 'it returns false'. Refute it at one input. -/
def treeSortsWrong : ChangeSpec := { name := "treeSorts", fn := fun _ => fun
  | [d] => { results := [.lit (.bool false)], args := [d] }
  | _ => none }
def TreeSortsWrongFalsely : Prop := treeSortsRow.holds Try.pinned (OpenSpec.ofChange treeSortsWrong)

/-- 'milllaw9.TreeNested': WHATEVER THE INPUT: true; the input reads as it did. -/
def treeNestedSpec : ChangeSpec := { name := "treeNested", fn := fun _ => fun
  | [d1, d2] => { results := [.lit (.bool true)], args := [d1, d2] }
  | _ => none }
def treeNestedRow : OpenClaim := { program := "ytjlcbhblpofjhaa", sum := "2e68cd79a5a45abe99ddf5f3489c386702ec4201d5b705ff62ba32d061eee741", func := "mill/milllaw9.TreeNested", spec := "treeNested", unfollowed := true, recurses := true, apart := false }
def TreeNestedSaid : Prop := treeNestedRow.holds Try.pinned (OpenSpec.ofChange treeNestedSpec)

/-- ITS FALSE NEIGHBOUR: 'it returns false'. Refute it at one input. -/
def treeNestedWrong : ChangeSpec := { name := "treeNested", fn := fun _ => fun
  | [d1, d2] => { results := [.lit (.bool false)], args := [d1, d2] }
  | _ => none }
def TreeNestedWrongFalsely : Prop := treeNestedRow.holds Try.pinned (OpenSpec.ofChange treeNestedWrong)

/-- 'milllaw9.TreeNexts': WHATEVER THE INPUT: true; the input reads as it did. -/
def treeNextsSpec : ChangeSpec := { name := "treeNexts", fn := fun _ => fun
  | [d1, d2] => { results := [.lit (.bool true)], args := [d1, d2] }
  | _ => none }
def treeNextsRow : OpenClaim := { program := "ytjlcbhblpofjhaa", sum := "2e68cd79a5a45abe99ddf5f3489c386702ec4201d5b705ff62ba32d061eee741", func := "mill/milllaw9.TreeNexts", spec := "treeNexts", unfollowed := true, recurses := true, apart := false }
def TreeNextsSaid : Prop := treeNextsRow.holds Try.pinned (OpenSpec.ofChange treeNextsSpec)

/-- ITS FALSE NEIGHBOUR: 'it returns false'. Refute it at one input. -/
def treeNextsWrong : ChangeSpec := { name := "treeNexts", fn := fun _ => fun
  | [d1, d2] => { results := [.lit (.bool false)], args := [d1, d2] }
  | _ => none }
def TreeNextsWrongFalsely : Prop := treeNextsRow.holds Try.pinned (OpenSpec.ofChange treeNextsWrong)

/-- 'milllaw9.TreeOwn': WHATEVER THE INPUT: true; the input reads as it did. -/
def treeOwnSpec : ChangeSpec := { name := "treeOwn", fn := fun _ => fun
  | [d] => { results := [.lit (.bool true)], args := [d] }
  | _ => none }
def treeOwnRow : OpenClaim := { program := "ytjlcbhblpofjhaa", sum := "2e68cd79a5a45abe99ddf5f3489c386702ec4201d5b705ff62ba32d061eee741", func := "mill/milllaw9.TreeOwn", spec := "treeOwn", unfollowed := true, recurses := true, apart := false }
def TreeOwnSaid : Prop := treeOwnRow.holds Try.pinned (OpenSpec.ofChange treeOwnSpec)

/-- ITS FALSE NEIGHBOUR: 'it returns false'. Refute it at one input. -/
def treeOwnWrong : ChangeSpec := { name := "treeOwn", fn := fun _ => fun
  | [d] => { results := [.lit (.bool false)], args := [d] }
  | _ => none }
def TreeOwnWrongFalsely : Prop := treeOwnRow.holds Try.pinned (OpenSpec.ofChange treeOwnWrong)

/-- 'milllaw9.TreeAll': WHATEVER THE INPUT: true; the input reads as it did. -/
def treeAllSpec : ChangeSpec := { name := "treeAll", fn := fun _ => fun
  | [d1, d2] => { results := [.lit (.bool true)], args := [d1, d2] }
  | _ => none }
def treeAllRow : OpenClaim := { program := "ytjlcbhblpofjhaa", sum := "2e68cd79a5a45abe99ddf5f3489c386702ec4201d5b705ff62ba32d061eee741", func := "mill/milllaw9.TreeAll", spec := "treeAll", unfollowed := true, recurses := true, apart := false }
def TreeAllSaid : Prop := treeAllRow.holds Try.pinned (OpenSpec.ofChange treeAllSpec)

/-- ITS FALSE NEIGHBOUR: 'it returns false'. Refute it at one input. -/
def treeAllWrong : ChangeSpec := { name := "treeAll", fn := fun _ => fun
  | [d1, d2] => { results := [.lit (.bool false)], args := [d1, d2] }
  | _ => none }
def TreeAllWrongFalsely : Prop := treeAllRow.holds Try.pinned (OpenSpec.ofChange treeAllWrong)

/-- 'milllaw9.TreeLists': WHATEVER THE INPUT: true; the input reads as it did. -/
def treeListsSpec : ChangeSpec := { name := "treeLists", fn := fun _ => fun
  | [d1, d2] => { results := [.lit (.bool true)], args := [d1, d2] }
  | _ => none }
def treeListsRow : OpenClaim := { program := "ytjlcbhblpofjhaa", sum := "2e68cd79a5a45abe99ddf5f3489c386702ec4201d5b705ff62ba32d061eee741", func := "mill/milllaw9.TreeLists", spec := "treeLists", unfollowed := true, recurses := true, apart := false }
def TreeListsSaid : Prop := treeListsRow.holds Try.pinned (OpenSpec.ofChange treeListsSpec)

/-- ITS FALSE NEIGHBOUR: 'it returns false'. Refute it at one input. -/
def treeListsWrong : ChangeSpec := { name := "treeLists", fn := fun _ => fun
  | [d1, d2] => { results := [.lit (.bool false)], args := [d1, d2] }
  | _ => none }
def TreeListsWrongFalsely : Prop := treeListsRow.holds Try.pinned (OpenSpec.ofChange treeListsWrong)

/- THE SECOND FORM. 'bulk': how many values and letters a reading holds, each counted each time it is reached (what is shared counts as often as it is met; a slice's spare places count too). A statement '..UptoSaid' is the law's where the arguments, and the package variables that the reading takes, are together of bulk at most 1048576: NARROWER than '..Said'. Prove '..Said' where nothing that the law and all that it calls make is longer than what came in: it says more and counts as full. Else prove '..UptoSaid'. A law counts once. -/
mutual
def uptoBulk {H : Type} : DataW H → Nat
  | .lit (.string bytes) => bytes.length + 1
  | .lit _ => 1
  | .nil => 1
  | .ptr d => uptoBulk d + 1
  | .slice elems spare => uptoBulkAll elems + uptoBulkAll spare + 1
  | .agg parts => uptoBulkAll parts + 1
  | .iface _ d => uptoBulk d + 1
  | .map entries => uptoBulkEntries entries + 1
  | .held _ => 1
def uptoBulkAll {H : Type} : List (DataW H) → Nat
  | [] => 0
  | d :: r => uptoBulk d + uptoBulkAll r
def uptoBulkEntries {H : Type} : List (Lit × DataW H) → Nat
  | [] => 0
  | x :: r => uptoBulkEntry x + uptoBulkEntries r
def uptoBulkEntry {H : Type} : Lit × DataW H → Nat
  | (.string bytes, d) => bytes.length + uptoBulk d + 1
  | (_, d) => uptoBulk d + 1
 end
def uptoSmall : (H : Type) → List (DataW H) → Bool := fun _ ds => decide (uptoBulkAll ds ≤ 1048576)
def OpenSpec.upto (s : _root_.Go.ChangeSpec) : _root_.Go.OpenSpec := { _root_.Go.OpenSpec.ofChange s with cond := some uptoSmall }

/-- 'milllaw9.TreeCompared', WHERE WHAT IT READS IS OF BULK AT MOST 1048576: true; the input reads as it did. -/
def treeComparedUptoRow : OpenClaim := { program := "ytjlcbhblpofjhaa", sum := "2e68cd79a5a45abe99ddf5f3489c386702ec4201d5b705ff62ba32d061eee741", func := "mill/milllaw9.TreeCompared", spec := "treeCompared", unfollowed := true, recurses := true, apart := false, narrowed := true }
def TreeComparedUptoSaid : Prop := treeComparedUptoRow.holds Try.pinned (OpenSpec.upto treeComparedSpec)

/-- 'milllaw9.TreeAnyOrder', WHERE WHAT IT READS IS OF BULK AT MOST 1048576: true; the input reads as it did. -/
def treeAnyOrderUptoRow : OpenClaim := { program := "ytjlcbhblpofjhaa", sum := "2e68cd79a5a45abe99ddf5f3489c386702ec4201d5b705ff62ba32d061eee741", func := "mill/milllaw9.TreeAnyOrder", spec := "treeAnyOrder", unfollowed := true, recurses := true, apart := false, narrowed := true }
def TreeAnyOrderUptoSaid : Prop := treeAnyOrderUptoRow.holds Try.pinned (OpenSpec.upto treeAnyOrderSpec)

/-- 'milllaw9.TreeSorts', WHERE WHAT IT READS IS OF BULK AT MOST 1048576: true; the input reads as it did. -/
def treeSortsUptoRow : OpenClaim := { program := "ytjlcbhblpofjhaa", sum := "2e68cd79a5a45abe99ddf5f3489c386702ec4201d5b705ff62ba32d061eee741", func := "mill/milllaw9.TreeSorts", spec := "treeSorts", unfollowed := true, recurses := true, apart := false, narrowed := true }
def TreeSortsUptoSaid : Prop := treeSortsUptoRow.holds Try.pinned (OpenSpec.upto treeSortsSpec)

/-- 'milllaw9.TreeNested', WHERE WHAT IT READS IS OF BULK AT MOST 1048576: true; the input reads as it did. -/
def treeNestedUptoRow : OpenClaim := { program := "ytjlcbhblpofjhaa", sum := "2e68cd79a5a45abe99ddf5f3489c386702ec4201d5b705ff62ba32d061eee741", func := "mill/milllaw9.TreeNested", spec := "treeNested", unfollowed := true, recurses := true, apart := false, narrowed := true }
def TreeNestedUptoSaid : Prop := treeNestedUptoRow.holds Try.pinned (OpenSpec.upto treeNestedSpec)

/-- 'milllaw9.TreeNexts', WHERE WHAT IT READS IS OF BULK AT MOST 1048576: true; the input reads as it did. -/
def treeNextsUptoRow : OpenClaim := { program := "ytjlcbhblpofjhaa", sum := "2e68cd79a5a45abe99ddf5f3489c386702ec4201d5b705ff62ba32d061eee741", func := "mill/milllaw9.TreeNexts", spec := "treeNexts", unfollowed := true, recurses := true, apart := false, narrowed := true }
def TreeNextsUptoSaid : Prop := treeNextsUptoRow.holds Try.pinned (OpenSpec.upto treeNextsSpec)

/-- 'milllaw9.TreeOwn', WHERE WHAT IT READS IS OF BULK AT MOST 1048576: true; the input reads as it did. -/
def treeOwnUptoRow : OpenClaim := { program := "ytjlcbhblpofjhaa", sum := "2e68cd79a5a45abe99ddf5f3489c386702ec4201d5b705ff62ba32d061eee741", func := "mill/milllaw9.TreeOwn", spec := "treeOwn", unfollowed := true, recurses := true, apart := false, narrowed := true }
def TreeOwnUptoSaid : Prop := treeOwnUptoRow.holds Try.pinned (OpenSpec.upto treeOwnSpec)

/-- 'milllaw9.TreeAll', WHERE WHAT IT READS IS OF BULK AT MOST 1048576: true; the input reads as it did. -/
def treeAllUptoRow : OpenClaim := { program := "ytjlcbhblpofjhaa", sum := "2e68cd79a5a45abe99ddf5f3489c386702ec4201d5b705ff62ba32d061eee741", func := "mill/milllaw9.TreeAll", spec := "treeAll", unfollowed := true, recurses := true, apart := false, narrowed := true }
def TreeAllUptoSaid : Prop := treeAllUptoRow.holds Try.pinned (OpenSpec.upto treeAllSpec)

/-- 'milllaw9.TreeLists', WHERE WHAT IT READS IS OF BULK AT MOST 1048576: true; the input reads as it did. -/
def treeListsUptoRow : OpenClaim := { program := "ytjlcbhblpofjhaa", sum := "2e68cd79a5a45abe99ddf5f3489c386702ec4201d5b705ff62ba32d061eee741", func := "mill/milllaw9.TreeLists", spec := "treeLists", unfollowed := true, recurses := true, apart := false, narrowed := true }
def TreeListsUptoSaid : Prop := treeListsUptoRow.holds Try.pinned (OpenSpec.upto treeListsSpec)

end Rows
end Go.Proofs.Ytjlcbhblpofjhaa
