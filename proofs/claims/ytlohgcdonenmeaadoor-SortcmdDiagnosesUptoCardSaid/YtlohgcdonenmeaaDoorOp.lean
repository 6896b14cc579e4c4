/- What came in, opened; what the rows' listed tables say of the memory. -/
import Derived.Test.YtlohgcdonenmeaaDoorRows
import Derived.Test.YtlohgcdonenmeaaDoorDt
import Derived.Test.YtlohgcdonenmeaaDoorLaid
import Derived.ProofKit
import Derived.LaidMore
import Derived.Lay
import Derived.Deep.Slices
import Derived.Deep.Fields
import Derived.ChangeSame
import Derived.OpenShut
import Derived.SizedLaws
namespace Go.Proofs.YtlohgcdonenmeaaDoor
open Go.ChangeShapes Go.WideShapes Go.RowKit Go.Deep
set_option maxRecDepth 100000

theorem drOwn : ownKnob Tryd.prog.godebug = none := by kernel_rfl
theorem drOut : laidOutB Tryd.prog = true := by kernel_rfl
theorem tabs_of {W : World} (h0 : laidMetH Tryd.prog [("math/bits.deBruijn32tab", Rows.laid_math_bits_deBruijn32tab), ("math/bits.deBruijn64tab", Rows.laid_math_bits_deBruijn64tab), ("internal/strconv.uint64pow10", Rows.laid_internal_strconv_uint64pow10)] W) : Tabs W := by
  rw [MakeChecks.laidMetH_plain _ _ _ (by kernel_rfl)] at h0
  have r2 := Lib.laidMet.reads h0 (n := "internal/strconv.uint64pow10") (d := Rows.laid_internal_strconv_uint64pow10) (by simp)
  obtain ⟨t, fr, hb⟩ := block_of_reads (g := 0) (t := 61) (x := (Lib.pow10Tab.map fun z => Value.int .u64 z, [])) r2 (by kernel_rfl) (by kernel_rfl) (by kernel_rfl) (by kernel_rfl)
  unfold Tabs Lib.TabIs World.var?
  rw [global_tab]
  simp only [Option.bind_some, hb]
theorem i64_both {z : Int} (h : (Lit.int .i64 z).wf = true) : -9223372036854775808 ≤ z ∧ z ≤ 9223372036854775807 := by
  simp [Lit.wf, IntKind.min, IntKind.max, IntKind.bits, IntKind.signed] at h; omega
theorem cells3 : Tryd.prog.cellsOf 3 = 1 := by kernel_rfl
theorem cells4 : Tryd.prog.cellsOf 4 = 1 := by kernel_rfl
theorem cells9 : Tryd.prog.cellsOf 9 = 1 := by kernel_rfl
theorem cells23 : Tryd.prog.cellsOf 23 = 9 := by kernel_rfl
theorem open_stats {H : Type} {enc : TypeId × Value → H} {w : World} {base : Nat} {v : Value} {d : DataW H} {p : List MemPlace} (hv : Value.okWide Tryd.prog w .any base 23 v) (h : DataW.Trod enc Tryd.prog w 0 (fun _ => true) true 23 v d p) :
    ∃ (a b c x e r : Value) (n : Int) (l f : ByteArray), v = .agg #[a, b, c, x, e, .int .i64 n, .string l, .string f, r] ∧ (-9223372036854775808 ≤ n ∧ n ≤ 9223372036854775807) ∧
      ∃ ds, d = .agg ds ∧ .lit (.string l.data.toList) ∈ ds ∧ .lit (.string f.data.toList) ∈ ds := by
  obtain ⟨cs, rfl, hsz⟩ := okWide_struct Tryd.underlying23 hv
  obtain ⟨l⟩ := cs
  obtain ⟨fuel, hf⟩ := h
  rw [cells23] at hsz
  match l, hsz with
  | [c0, c1, c2, c3, c4, c5, c6, c7, c8], _ =>
    obtain ⟨xs, n, _, hx, _, hxl, hg⟩ := DataW.trod_struct Tryd.underlying23 hf
    have g5 : DataW.trod enc Tryd.prog w 0 (fun _ => true) true n 3 (([c0, c1, c2, c3, c4, c5, c6, c7, c8].drop 5).take (Tryd.prog.cellsOf 3)) = xs[5]? := hg 5 _ rfl
    rw [cells3, List.getElem?_eq_getElem (by rw [hxl]; decide)] at g5
    obtain ⟨z5, e5, _, w5⟩ := DataW.trod_int Tryd.underlying3 g5
    simp only [List.drop_zero, List.drop_succ_cons, List.take_succ_cons, List.take_zero, List.cons.injEq, and_true] at e5
    have g6 : DataW.trod enc Tryd.prog w 0 (fun _ => true) true n 9 (([c0, c1, c2, c3, c4, c5, c6, c7, c8].drop 6).take (Tryd.prog.cellsOf 9)) = xs[6]? := hg 6 _ rfl
    rw [cells9, List.getElem?_eq_getElem (by rw [hxl]; decide)] at g6
    obtain ⟨z6, e6, x6, _⟩ := DataW.trod_string Tryd.underlying9 g6
    simp only [List.drop_zero, List.drop_succ_cons, List.take_succ_cons, List.take_zero, List.cons.injEq, and_true] at e6
    have g7 : DataW.trod enc Tryd.prog w 0 (fun _ => true) true n 9 (([c0, c1, c2, c3, c4, c5, c6, c7, c8].drop 7).take (Tryd.prog.cellsOf 9)) = xs[7]? := hg 7 _ rfl
    rw [cells9, List.getElem?_eq_getElem (by rw [hxl]; decide)] at g7
    obtain ⟨z7, e7, x7, _⟩ := DataW.trod_string Tryd.underlying9 g7
    simp only [List.drop_zero, List.drop_succ_cons, List.take_succ_cons, List.take_zero, List.cons.injEq, and_true] at e7
    subst e5 e6 e7
    refine ⟨c0, c1, c2, c3, c4, c8, z5, z6, z7, rfl, i64_both w5, xs.map (·.1), congrArg Prod.fst hx, ?_, ?_⟩
    · exact List.mem_map.2 ⟨_, List.getElem_mem (by rw [hxl]; decide), congrArg Prod.fst x6⟩
    · exact List.mem_map.2 ⟨_, List.getElem_mem (by rw [hxl]; decide), congrArg Prod.fst x7⟩
end Go.Proofs.YtlohgcdonenmeaaDoor
