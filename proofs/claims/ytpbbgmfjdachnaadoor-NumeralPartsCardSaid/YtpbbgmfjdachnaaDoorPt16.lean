/- Decimal of a text, whole. -/
import Derived.Test.YtpbbgmfjdachnaaDoorPtM
import Derived.Test.YtpbbgmfjdachnaaDoorScanW
import Derived.Test.YtpbbgmfjdachnaaDoorHum
namespace Go.Proofs.YtpbbgmfjdachnaaDoor
open Go.RowKit

set_option maxRecDepth 100000
set_option maxHeartbeats 1600000 in
theorem dec16_ok (s : ByteArray) (w : World) (hs : s.size ≤ 1000000) (T : TabW w) : Calls Tryd.prog 16 #[.string s] w (RetBelow w (decV (scanS s.data.toList false))) := by
  have ok := scanS_ok s false (by omega)
  have pk := scanS_parts s.data.toList false
  rw [← Lib.size_eq] at pk
  have SC := Lib.hid (fun (W : World) (hT : TabW W) => scan_okW s false W (by omega) hT)
  generalize scanS s.data.toList false = h at *
  have NC := Lib.hid (fun W : World => decimal_ok h W ok (by have := pk.wl; omega) (by have := pk.fl; omega))
  have A0 := CellsAt.new w [.bool false, .string ⟨#[]⟩, .string ⟨#[]⟩, .int .i64 0] 25
  have B0 := Lib.hid ((Below.refl w.heap.size w).alloc (Nat.le_refl _) (Obj.cells #[Value.bool false, Value.string ⟨#[]⟩, Value.string ⟨#[]⟩, Value.int IntKind.i64 0] 25))
  have HA0 := Lib.hid A0
  have HT := Lib.hid T
  clear A0 T ok pk
  unfold decV at NC ⊢
  generalize headV h = hv at *
  generalize decNeg h = v0 at *
  generalize bs (trimL h.whole) = v1 at *
  generalize bs (trimR h.frac) = v2 at *
  generalize h.size = v3 at *
  go_enter Tryd.func16, Tryd.ntmps16
  go_wp2_with fail
  refine (SC.out _ (HT.out.below B0.out)).mono ?_
  rintro e w1 ⟨rfl, hb1⟩
  have A1 := Lib.hid (HA0.out.step hb1)
  have B1 := Lib.hid (B0.out.trans (hb1.mono (by simp)))
  clear hb1
  go_wp2_with fail
  refine (NC.out _).mono ?_
  rintro e w2 ⟨rfl, hb2⟩
  have A2 := A1.out.step hb2
  have B2 := Lib.hid (B1.out.trans (hb2.mono B1.out.size))
  clear hb2 A1 HA0
  have a0 := A2.cell 0 _ rfl
  have a1 := A2.cell 1 _ rfl
  have a2 := A2.cell 2 _ rfl
  have a3 := A2.cell 3 _ rfl
  have f0 := A2.free 0
  have f1 := A2.free 1
  have f2 := A2.free 2
  have f3 := A2.free 3
  have al := A2.lt
  have C := (((A2.set 0 (.bool v0) (by simp)).set 1 (.string v1) (by simp)).set 2 (.string v2) (by simp)).set 3 (.int .i64 (v3 : Int)) (by simp)
  have c0 := C.cell 0 _ rfl
  have c1 := C.cell 1 _ rfl
  have c2 := C.cell 2 _ rfl
  have c3 := C.cell 3 _ rfl
  have BX := Lib.hid ((((B2.out.setCell (p := ⟨w.heap.size, 0, none⟩) (Nat.le_refl _) (.bool v0)).setCell (p := ⟨w.heap.size, 1, none⟩) (Nat.le_refl _) (.string v1)).setCell (p := ⟨w.heap.size, 2, none⟩) (Nat.le_refl _) (.string v2)).setCell (p := ⟨w.heap.size, 3, none⟩) (Nat.le_refl _) (.int .i64 (v3 : Int)))
  clear A2 C
  go_wp2_with fail
  exact bodyPost_ret (v := .agg #[.bool v0, .string v1, .string v2, .int .i64 (v3 : Int)]) (by simp [results, Tryd.results16, go_sem, c0, c1, c2, c3]) rfl ⟨rfl, BX.out⟩
end Go.Proofs.YtpbbgmfjdachnaaDoor
