/- Great arrays: made, whole, as parts. -/
import Derived.Test.YtfbeipfpkikakaaDoorNe
namespace Go.Proofs.YtfbeipfpkikakaaDoor
open Go.RowKit

set_option maxRecDepth 100000
/-- A variable is made of a type whose zero is known. -/
theorem wp_alloc0 {P : Program} {ops : Array Oper} {rest : List Oper} {o : Oper} {a : Act} {w : World} {Q : Exit → Act → World → Prop} (hg : o.guard = none) (t : TypeId) (ho : o.op = .alloc t) (z : Value)
    (hz : (P.info? t).bind (·.zero) = some z) (h : wpList P ops Q rest (a.put o.dst (.pointer (some ⟨w.heap.size, 0, none⟩))) (w.alloc (.cells z.cells t))) : wpList P ops Q (o :: rest) a w := by
  refine wpList_plain hg fun K hK => ?_
  unfold Oper.wp execOp
  cases hi : P.info? t with
  | none => rw [hi] at hz; cases hz
  | some i =>
    rw [hi] at hz
    have hz' : i.zero = some z := hz
    have hr : (zeroValue t).run P w = .ok z w := by simp [zeroValue, typeInfo, Sem.run_bind, hi, hz']
    simp only [ho, Sem.run_bind, Instr.alloc, hr, newVar, newRow, run_newObj_alloc, Sem.run_pure, Result.andThen_ok]
    exact hK _ _ h
theorem info69 : (Tryd.prog.info? 69).map (·.size) = some 302 := by kernel_rfl
theorem zero69 : (Tryd.prog.info? 69).bind (·.zero) = some (.agg (natL 302 fun _ => 0).toArray) := by kernel_rfl
theorem zero60 : (Tryd.prog.info? 60).bind (·.zero) = some (.agg (natL 16 fun _ => 0).toArray) := by kernel_rfl
theorem info69n (f : Nat → Nat) : (Tryd.prog.info? 69).map (·.size) = some (natL 302 f).length := by rw [natL_len]; exact info69
theorem info69a (f : Nat → Nat) : (Tryd.prog.info? 69).map (·.size) = some (natL 302 f).toArray.size := by simp only [List.size_toArray, natL_len]; exact info69
end Go.Proofs.YtfbeipfpkikakaaDoor
