/- A key that came in, opened; what the row's listed tables say of the memory. -/
import Derived.Test.YtbgbmojoldkcfaaDoorRows
import Derived.Test.YtbgbmojoldkcfaaDoorTl
import Derived.Test.YtbgbmojoldkcfaaDoorLaid
import Derived.ProofKit
import Derived.LaidMore
import Derived.Lay
import Derived.Deep.Slices
import Derived.Deep.Fields
import Derived.ChangeSame
import Derived.OpenShut
import Derived.SizedLaws
namespace Go.Proofs.YtbgbmojoldkcfaaDoor
open Go.ChangeShapes Go.WideShapes Go.RowKit Go.Deep

theorem drOwnT : ownKnob Tryd.prog.godebug = none := by kernel_rfl
theorem laidOutT : laidOutB Tryd.prog = true := by kernel_rfl
theorem tabp_of {W : World} (h0 : laidMetH Tryd.prog [("math/bits.deBruijn32tab", Rows.laid_math_bits_deBruijn32tab), ("math/bits.deBruijn64tab", Rows.laid_math_bits_deBruijn64tab), ("internal/strconv.uint64pow10", Rows.laid_internal_strconv_uint64pow10), ("mill/keyspec.bits", Rows.laid_mill_keyspec_bits)] W) : TabP W := by
  rw [MakeChecks.laidMetH_plain _ _ _ (by kernel_rfl)] at h0
  have r1 := Lib.laidMet.reads h0 (n := "mill/keyspec.bits") (d := Rows.laid_mill_keyspec_bits) (by simp)
  have r2 := Lib.laidMet.reads h0 (n := "internal/strconv.uint64pow10") (d := Rows.laid_internal_strconv_uint64pow10) (by simp)
  exact ⟨block_of_reads (g := 3) (t := 102) (x := (Lib.pow10Tab.map fun z => Value.int .u64 z, [])) r2 (by kernel_rfl) (by kernel_rfl) (by kernel_rfl) (by kernel_rfl), block_of_reads (g := 2) (t := 88) (x := (cBits.toList, [])) r1 (by kernel_rfl) (by kernel_rfl) (by kernel_rfl) (by kernel_rfl)⟩
theorem kcells3 : Tryd.prog.cellsOf 3 = 1 := by kernel_rfl
theorem kcells4 : Tryd.prog.cellsOf 4 = 1 := by kernel_rfl
theorem kcells34 : Tryd.prog.cellsOf 34 = 1 := by kernel_rfl
theorem kcells36 : Tryd.prog.cellsOf 36 = 6 := by kernel_rfl
set_option maxRecDepth 100000
theorem i64_top (z : Int) (h : (Lit.int .i64 z).wf = true) : z ≤ 9223372036854775807 := by
  have : -9223372036854775808 ≤ z ∧ z ≤ 9223372036854775807 := by simp [Lit.wf, IntKind.min, IntKind.max, IntKind.bits, IntKind.signed] at h; omega
  exact this.2
theorem open_key {H : Type} {enc : TypeId × Value → H} {w : World} {base : Nat} {v : Value} {d : DataW H} {p : List MemPlace} (hv : Value.okWide Tryd.prog w .any base 36 v) (h : DataW.Trod enc Tryd.prog w 0 (fun _ => true) true 36 v d p) :
    ∃ (f c ef ec : Int) (m : Nat) (b : Bool), v = .agg #[.int .i64 f, .int .i64 c, .int .i64 ef, .int .i64 ec, .int .u16 (m : Int), .bool b] ∧ m < 65536 ∧ f ≤ 9223372036854775807 ∧ c ≤ 9223372036854775807 ∧ ef ≤ 9223372036854775807 ∧ ec ≤ 9223372036854775807 := by
  obtain ⟨cs, rfl, hsz⟩ := okWide_struct Tryd.underlying36 hv
  obtain ⟨l⟩ := cs
  obtain ⟨fuel, hf⟩ := h
  rw [kcells36] at hsz
  match l, hsz with
  | [c0, c1, c2, c3, c4, c5], _ =>
    obtain ⟨xs, n, _, hx, _, hxl, hg⟩ := DataW.trod_struct Tryd.underlying36 hf
    have g0 : DataW.trod enc Tryd.prog w 0 (fun _ => true) true n 3 (([c0, c1, c2, c3, c4, c5].drop 0).take (Tryd.prog.cellsOf 3)) = xs[0]? := hg 0 _ rfl
    rw [kcells3, List.getElem?_eq_getElem (by rw [hxl]; decide)] at g0
    obtain ⟨z0, e0, _, w0⟩ := DataW.trod_int Tryd.underlying3 g0
    simp only [List.drop_zero, List.drop_succ_cons, List.take_succ_cons, List.take_zero, List.cons.injEq, and_true] at e0
    have g1 : DataW.trod enc Tryd.prog w 0 (fun _ => true) true n 3 (([c0, c1, c2, c3, c4, c5].drop 1).take (Tryd.prog.cellsOf 3)) = xs[1]? := hg 1 _ rfl
    rw [kcells3, List.getElem?_eq_getElem (by rw [hxl]; decide)] at g1
    obtain ⟨z1, e1, _, w1⟩ := DataW.trod_int Tryd.underlying3 g1
    simp only [List.drop_zero, List.drop_succ_cons, List.take_succ_cons, List.take_zero, List.cons.injEq, and_true] at e1
    have g2 : DataW.trod enc Tryd.prog w 0 (fun _ => true) true n 3 (([c0, c1, c2, c3, c4, c5].drop 2).take (Tryd.prog.cellsOf 3)) = xs[2]? := hg 2 _ rfl
    rw [kcells3, List.getElem?_eq_getElem (by rw [hxl]; decide)] at g2
    obtain ⟨z2, e2, _, w2⟩ := DataW.trod_int Tryd.underlying3 g2
    simp only [List.drop_zero, List.drop_succ_cons, List.take_succ_cons, List.take_zero, List.cons.injEq, and_true] at e2
    have g3 : DataW.trod enc Tryd.prog w 0 (fun _ => true) true n 3 (([c0, c1, c2, c3, c4, c5].drop 3).take (Tryd.prog.cellsOf 3)) = xs[3]? := hg 3 _ rfl
    rw [kcells3, List.getElem?_eq_getElem (by rw [hxl]; decide)] at g3
    obtain ⟨z3, e3, _, w3⟩ := DataW.trod_int Tryd.underlying3 g3
    simp only [List.drop_zero, List.drop_succ_cons, List.take_succ_cons, List.take_zero, List.cons.injEq, and_true] at e3
    have g4 : DataW.trod enc Tryd.prog w 0 (fun _ => true) true n 34 (([c0, c1, c2, c3, c4, c5].drop 4).take (Tryd.prog.cellsOf 34)) = xs[4]? := hg 4 _ rfl
    rw [kcells34, List.getElem?_eq_getElem (by rw [hxl]; decide)] at g4
    obtain ⟨z4, e4, _, w4⟩ := DataW.trod_int Tryd.underlying34 g4
    simp only [List.drop_zero, List.drop_succ_cons, List.take_succ_cons, List.take_zero, List.cons.injEq, and_true] at e4
    have g5 : DataW.trod enc Tryd.prog w 0 (fun _ => true) true n 4 (([c0, c1, c2, c3, c4, c5].drop 5).take (Tryd.prog.cellsOf 4)) = xs[5]? := hg 5 _ rfl
    rw [kcells4, List.getElem?_eq_getElem (by rw [hxl]; decide)] at g5
    obtain ⟨z5, e5, _⟩ := DataW.trod_bool Tryd.underlying4 g5
    simp only [List.drop_zero, List.drop_succ_cons, List.take_succ_cons, List.take_zero, List.cons.injEq, and_true] at e5
    have b4 : 0 ≤ z4 ∧ z4 < 65536 := by have := w4; simp [Lit.wf, IntKind.min, IntKind.max, IntKind.bits, IntKind.signed] at this; omega
    obtain ⟨m, rfl⟩ : ∃ m : Nat, z4 = m := ⟨z4.toNat, by omega⟩
    subst e0 e1 e2 e3 e4 e5
    exact ⟨z0, z1, z2, z3, m, z5, rfl, by omega, i64_top z0 w0, i64_top z1 w1, i64_top z2 w2, i64_top z3 w3⟩
end Go.Proofs.YtbgbmojoldkcfaaDoor
