/- What the rows' listed tables say of the memory; slices of bytes and of numbers that came in. -/
import Derived.Test.YtfbeipfpkikakaaDoorRows
import Derived.Test.YtfbeipfpkikakaaDoorLaid
import Derived.Test.YtfbeipfpkikakaaDoorSm
import Derived.Test.YtfbeipfpkikakaaDoorSo
import Derived.ProofKit
import Derived.OpenShut
import Derived.LaidMore
import Derived.SizedLaws
import Derived.Lay
namespace Go.Proofs.YtfbeipfpkikakaaDoor
open Go.ChangeShapes Go.WideShapes Go.ChangeAt Go.RowKit

set_option maxRecDepth 100000

theorem drOwn : ownKnob Tryd.prog.godebug = none := by kernel_rfl
theorem drOut : laidOutB Tryd.prog = true := by kernel_rfl
/-- The list of the tables, as the rows have it. -/
def tabList : List (String × DataW Unit) := [("mill/squeeze.sumSteps", Rows.laid_mill_squeeze_sumSteps), ("mill/squeeze.lengthBases", Rows.laid_mill_squeeze_lengthBases)]
theorem tabs_of {W : World} (h0 : laidMetH Tryd.prog tabList W) : Tabs W := by
  rw [MakeChecks.laidMetH_plain _ _ _ (by kernel_rfl)] at h0
  have r1 := Lib.laidMet.reads h0 (n := "mill/squeeze.sumSteps") (d := Rows.laid_mill_squeeze_sumSteps) (by simp [tabList])
  have r2 := Lib.laidMet.reads h0 (n := "mill/squeeze.lengthBases") (d := Rows.laid_mill_squeeze_lengthBases) (by simp [tabList])
  exact ⟨block_of_reads (g := 0) (t := 56) (x := (cSteps.toList, [])) r1 (by kernel_rfl) (by kernel_rfl) (by kernel_rfl) (by kernel_rfl),
    block_of_reads (g := 1) (t := 59) (x := (cBases.toList, [])) r2 (by kernel_rfl) (by kernel_rfl) (by kernel_rfl) (by kernel_rfl)⟩
theorem byte_wf' {z : Int} (h : (Lit.int .u8 z).wf = true) : 0 ≤ z ∧ z < 256 := by
  simp [Lit.wf, IntKind.min, IntKind.max, IntKind.bits, IntKind.signed] at h; omega
def u8s (zs : List Int) : List UInt8 := zs.map fun z => UInt8.ofNat z.toNat
/-- A slice of bytes that came in. -/
theorem open_by {H : Type} {enc : TypeId × Value → H} {W : World} {sp : Nat → Bool} {v : Value} {d : DataW H} {p : List MemPlace} (hv : Value.okWide Tryd.prog W .any 0 23 v) (h : DataW.Trod enc Tryd.prog W 0 sp true 23 v d p) :
    ∃ (l : List UInt8) (a : Option Addr) (c : Nat), v = .slice a l.length c ∧ SlB W (.slice a l.length c) l ∧ l.length ≤ c ∧ c ≤ 9223372036854775807 ∧ (l = [] ∨ ∃ elems spare, d = .slice elems spare ∧ l.length ≤ elems.length) := by
  obtain ⟨a, len, cap, rfl⟩ := okWide_slice Tryd.underlying23 hv
  obtain ⟨fuel, hf⟩ := h
  rcases open_ints Tryd.underlying23 Tryd.underlying5 (by kernel_rfl) hf with ⟨hcs, _⟩ | ⟨x, l, c, zs, hcs, hbb, hl, hm, hz, hx, hcell, hwf⟩
  · simp [Value.cells] at hcs
    obtain ⟨rfl, rfl, rfl⟩ := hcs
    exact ⟨[], none, 0, rfl, SlB.nil W, Nat.le_refl _, by omega, .inl rfl⟩
  · simp [Value.cells] at hcs
    obtain ⟨rfl, rfl, rfl⟩ := hcs
    have hd0 := congrArg Prod.fst hx
    simp only at hd0
    have hzl : len ≤ zs.length := by rw [hz]; split <;> omega
    have e : (u8s (zs.take len)).length = len := by simp [u8s]; omega
    refine ⟨u8s (zs.take len), some x, cap, by rw [e], ?_, by rw [e]; exact hl, hm, ?_⟩
    · refine ⟨some x, cap, rfl, (fun h => by cases h), ?_⟩
      rcases Nat.eq_zero_or_pos len with h0 | h0
      · left; exact List.eq_nil_of_length_eq_zero (by rw [e, h0])
      · right
        obtain ⟨pb, po, spot⟩ := x
        have hc0 := hcell 0 (by omega)
        have hspot : spot = none := by simpa [Addr.add] using World.cell?_spot hc0
        subst hspot
        have hlt : pb < W.heap.size := by
          rcases Nat.lt_or_ge pb W.heap.size with h' | h'
          · exact h'
          · rw [add_plain] at hc0
            unfold World.cell? at hc0
            simp only [Array.getElem?_eq_none h'] at hc0
            cases hc0
        refine ⟨pb, po, rfl, hlt, fun j u hu => ?_⟩
        have hj : j < len := by have := (List.getElem?_eq_some_iff.1 hu).1; rw [e] at this; exact this
        have hcj := hcell j (by omega)
        rw [add_plain] at hcj
        rw [hcj]
        have hzj : zs[j]? = some (zs[j]'(by omega)) := List.getElem?_eq_getElem (by omega)
        have hu' : u = UInt8.ofNat (zs[j]'(by omega)).toNat := by
          unfold u8s at hu
          rw [List.getElem?_map, List.getElem?_take, if_pos hj, hzj] at hu
          injection hu with hu; exact hu.symm
        have hb := byte_wf' (hwf (zs[j]'(by omega)) (List.getElem_mem _))
        rw [hu', List.getD_eq_getElem?_getD, hzj, UInt8.toNat_ofNat']
        have e2 : (some (zs[j]'(by omega))).getD 0 = zs[j]'(by omega) := rfl
        rw [e2]
        have hq : ((zs[j]'(by omega)).toNat % 2 ^ 8 : Nat) = (zs[j]'(by omega)).toNat := Nat.mod_eq_of_lt (by omega)
        rw [hq, Int.toNat_of_nonneg hb.1]
    · right
      refine ⟨_, _, hd0, ?_⟩
      rw [e]
      simp [Go.ChangeShapes.lits]; omega
theorem small_by {H : Type} {ts : List TypeId} {ds : List (DataW H)} {j : Nat} {l : List UInt8} {d : DataW H} (h : (DataW.weightsEach Tryd.prog ts ds).all (· ≤ reachBytes) = true) (ht : ts[j]? = some 23) (hd : ds[j]? = some d)
    (hl : l = [] ∨ ∃ elems spare, d = .slice elems spare ∧ l.length ≤ elems.length) : l.length ≤ 140737488351232 := by
  rcases hl with rfl | ⟨e, s, rfl, h2⟩
  · simp
  · have := sized_slice h ht hd Tryd.underlying23
    rw [show Tryd.prog.bytesOf 5 = 1 by kernel_rfl, Nat.add_mul] at this
    unfold reachBytes at this
    omega
end Go.Proofs.YtfbeipfpkikakaaDoor
