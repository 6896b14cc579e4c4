/- What must come, whatever else is so: the statements' own 'alive'. -/
import Derived.Test.YtpbbgmfjdachnaaDoorDecimal
namespace Go.Proofs.YtpbbgmfjdachnaaDoor
open Go.RowKit

def aliveS : ByteArray := ⟨#[45, 49, 50, 46, 53, 120]⟩
theorem alive_scan : scanS aliveS.data.toList false = ⟨3, true, [49, 50], [53], 0, 5⟩ := by kernel_rfl
theorem alive_dec : decV ⟨3, true, [49, 50], [53], 0, 5⟩ = .agg #[.bool true, .string ⟨#[49, 50]⟩, .string ⟨#[53]⟩, .int .i64 5] := by kernel_rfl
theorem alive_c1 : cmpS 16 (⟨#[57]⟩ : ByteArray).data.toList (⟨#[49, 48]⟩ : ByteArray).data.toList = -1 := by kernel_rfl
theorem alive_c2 : cmpS 256 (⟨#[98]⟩ : ByteArray).data.toList (⟨#[97]⟩ : ByteArray).data.toList = 1 := by kernel_rfl

set_option maxRecDepth 100000 in
set_option maxHeartbeats 800000 in
theorem aliveDec_ok (w : World) (T : Tabs w) : Calls Tryd.prog 16 #[.string ⟨#[45, 49, 50, 46, 53, 120]⟩] w (RetBelow w (.agg #[.bool true, .string ⟨#[49, 50]⟩, .string ⟨#[53]⟩, .int .i64 5])) := by
  have SC := Lib.hid (fun (W : World) (hT : Tabs W) => scan_ok aliveS false W (by decide) hT)
  have DC := Lib.hid (fun W : World => decimalNeg_ok ⟨3, true, [49, 50], [53], 0, 5⟩ W (hdNum_ok (by decide) (by decide) (by decide) (by decide)) (by decide) (by decide) rfl)
  rw [alive_scan] at SC
  rw [alive_dec] at DC
  have A0 := CellsAt.new w [.bool false, .string ⟨#[]⟩, .string ⟨#[]⟩, .int .i64 0] 25
  have B0 := Lib.hid ((Below.refl w.heap.size w).alloc (Nat.le_refl _) (Obj.cells #[Value.bool false, Value.string ⟨#[]⟩, Value.string ⟨#[]⟩, Value.int IntKind.i64 0] 25))
  have HA0 := Lib.hid A0
  have HT := Lib.hid T
  clear A0 T
  generalize headV ⟨3, true, [49, 50], [53], 0, 5⟩ = hv at *
  go_enter Tryd.func16, Tryd.ntmps16
  go_wp2_with fail
  refine (SC.out _ (HT.out.below B0.out)).mono ?_
  rintro e w1 ⟨rfl, hb1⟩
  have A1 := Lib.hid (HA0.out.step hb1)
  have B1 := Lib.hid (B0.out.trans (hb1.mono (by simp)))
  clear hb1
  go_wp2_with fail
  refine (DC.out _).mono ?_
  rintro e w2 ⟨rfl, hb2⟩
  have A2 := A1.out.step hb2
  have B2 := Lib.hid (B1.out.trans (hb2.mono B1.out.size))
  clear hb2 A1 HA0
  have a0 := A2.cell 0 _ rfl
  have a1 := A2.cell 1 _ rfl
  have a2 := A2.cell 2 _ rfl
  have a3 := A2.cell 3 _ rfl
  have f0 := A2.free 0
  have f1 := A2.free 1
  have f2 := A2.free 2
  have f3 := A2.free 3
  clear A2
  go_wp2_with fail
  exact bodyPost_ret (v := .agg #[.bool true, .string ⟨#[49, 50]⟩, .string ⟨#[53]⟩, .int .i64 5]) (by simp [results, Tryd.results16, go_sem, a0, a1, a2, a3]) rfl ⟨rfl, (((B2.out.setCell (p := ⟨w.heap.size, 0, none⟩) (by simp) _).setCell (p := ⟨w.heap.size, 1, none⟩) (by simp) _).setCell (p := ⟨w.heap.size, 2, none⟩) (by simp) _).setCell (p := ⟨w.heap.size, 3, none⟩) (by simp) _⟩

set_option maxRecDepth 100000 in
set_option maxHeartbeats 800000 in
theorem alive_ok (w : World) (T : Tabs w) : Calls Tryd.prog 22 #[] w (RetBelow w (.bool true)) := by
  have HT := Lib.hid T
  clear T
  go_enter Tryd.func22, Tryd.ntmps22
  go_wp2_with fail
  refine (aliveDec_ok w HT.out).mono ?_
  rintro e w1 ⟨rfl, hb1⟩
  have B1 := Lib.hid ((hb1.alloc hb1.size (Obj.cells #[Value.bool true, Value.string ⟨#[49, 50]⟩, Value.string ⟨#[53]⟩, Value.int IntKind.i64 5] 25)))
  clear hb1
  go_wp2_with fail
  refine (compare_ok 16 ⟨#[57]⟩ ⟨#[49, 48]⟩ _ (by decide) (by decide) (HT.out.below B1.out)).mono ?_
  rintro e w2 ⟨rfl, hb2⟩
  rw [alive_c1]
  have B2 := Lib.hid (B1.out.trans (hb2.mono B1.out.size))
  clear hb2
  go_wp2_with fail
  refine (compare_ok 256 ⟨#[98]⟩ ⟨#[97]⟩ _ (by decide) (by decide) (HT.out.below B2.out)).mono ?_
  rintro e w3 ⟨rfl, hb3⟩
  rw [alive_c2]
  have B3 := Lib.hid (B2.out.trans (hb3.mono B2.out.size))
  clear hb3
  go_wp2_with fail
  go_ret
  exact ⟨rfl, B3.out⟩
end Go.Proofs.YtpbbgmfjdachnaaDoor
