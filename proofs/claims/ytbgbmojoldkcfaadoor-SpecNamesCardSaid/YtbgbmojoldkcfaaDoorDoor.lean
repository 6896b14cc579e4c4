/- What the rows' listed tables say of the memory. -/
import Derived.Test.YtbgbmojoldkcfaaDoorRows
import Derived.Test.YtbgbmojoldkcfaaDoorTabs
import Derived.ProofKit
import Derived.LaidMore
import Derived.Lay
namespace Go.Proofs.YtbgbmojoldkcfaaDoor
open Go.RowKit

theorem drOwn : ownKnob Tryd.prog.godebug = none := by kernel_rfl
theorem tabs_of {W : World} (h0 : laidMetH Tryd.prog [("mill/millref4.names", Rows.laid_mill_millref4_names), ("mill/keyspec.options", Rows.laid_mill_keyspec_options)] W) : Tabs W := by
  rw [MakeChecks.laidMetH_plain _ _ _ (by kernel_rfl)] at h0
  have r1 := Lib.laidMet.reads h0 (n := "mill/keyspec.options") (d := Rows.laid_mill_keyspec_options) (by simp)
  have r2 := Lib.laidMet.reads h0 (n := "mill/millref4.names") (d := Rows.laid_mill_millref4_names) (by simp)
  have e2 : (Rows.laid_mill_millref4_names : DataW Unit) = .slice (namL.map namD) [] := by kernel_rfl
  rw [e2] at r2
  have hl : (namL.map namD).length = 26 := by rw [List.length_map]; rfl
  obtain ⟨u, fr, b, off, c, h1, h2, h3⟩ := slice_of_reads (g := 0) (t := 53) (e := 52) (C := fun i => namRow (namL.getD i ([], 0, 0))) (size := 3) r2 (by kernel_rfl) (by kernel_rfl) Tryd.underlying53 (by kernel_rfl) (by omega) (by rw [hl]; omega) (fun i d hd => by
    have hi : i < 26 := by
      have := (List.getElem?_eq_some_iff.1 hd).1
      rwa [hl] at this
    have hd' : d = namD (namL.getD i ([], 0, 0)) := by
      rw [List.getElem?_map, Option.map_eq_some_iff] at hd
      obtain ⟨p, hp, rfl⟩ := hd
      rw [List.getD_eq_getElem?_getD, hp]; rfl
    subst hd'
    exact ⟨rfl, lay_names i hi, rfl⟩)
  rw [hl] at h1 h3
  exact ⟨block_of_reads (g := 1) (t := 82) (x := (cOptions.toList, [])) r1 (by kernel_rfl) (by kernel_rfl) (by kernel_rfl) (by kernel_rfl), u, fr, b, off, c, h1, h2, h3⟩
end Go.Proofs.YtbgbmojoldkcfaaDoor
