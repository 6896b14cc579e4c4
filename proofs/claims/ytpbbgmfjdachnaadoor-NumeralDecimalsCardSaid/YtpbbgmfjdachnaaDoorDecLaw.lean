/- NumeralDecimals: the walk. -/
import Derived.Test.YtpbbgmfjdachnaaDoorRefM
import Derived.Test.YtpbbgmfjdachnaaDoorAlive
namespace Go.Proofs.YtpbbgmfjdachnaaDoor
open Go.RowKit

set_option maxRecDepth 100000
set_option maxHeartbeats 1600000 in
theorem dec16X_ok (s : ByteArray) (w : World) (hs : s.size ≤ 140737488351232) (T : Tabs w) : Calls Tryd.prog 16 #[.string s] w (RetBelow w (decV (scanS s.data.toList false))) := by
  have ok := scanS_ok s false (by omega)
  have pk := scanS_parts s.data.toList false
  rw [← Lib.size_eq] at pk
  have SC := Lib.hid (fun (W : World) (hT : Tabs W) => scan_ok s false W (by omega) hT)
  generalize scanS s.data.toList false = h at *
  have NC := Lib.hid (fun W : World => decimal_ok h W ok (by have := pk.wl; omega) (by have := pk.fl; omega))
  have A0 := CellsAt.new w [.bool false, .string ⟨#[]⟩, .string ⟨#[]⟩, .int .i64 0] 25
  have B0 := Lib.hid ((Below.refl w.heap.size w).alloc (Nat.le_refl _) (Obj.cells #[Value.bool false, Value.string ⟨#[]⟩, Value.string ⟨#[]⟩, Value.int IntKind.i64 0] 25))
  have HA0 := Lib.hid A0
  have HT := Lib.hid T
  clear A0 T ok pk
  unfold decV at NC ⊢
  generalize headV h = hv at *
  generalize decNeg h = v0 at *
  generalize bs (trimL h.whole) = v1 at *
  generalize bs (trimR h.frac) = v2 at *
  generalize h.size = v3 at *
  go_enter Tryd.func16, Tryd.ntmps16
  go_wp2_with fail
  refine (SC.out _ (HT.out.below B0.out)).mono ?_
  rintro e w1 ⟨rfl, hb1⟩
  have A1 := Lib.hid (HA0.out.step hb1)
  have B1 := Lib.hid (B0.out.trans (hb1.mono (by simp)))
  clear hb1
  go_wp2_with fail
  refine (NC.out _).mono ?_
  rintro e w2 ⟨rfl, hb2⟩
  have A2 := A1.out.step hb2
  have B2 := Lib.hid (B1.out.trans (hb2.mono B1.out.size))
  clear hb2 A1 HA0
  have a0 := A2.cell 0 _ rfl
  have a1 := A2.cell 1 _ rfl
  have a2 := A2.cell 2 _ rfl
  have a3 := A2.cell 3 _ rfl
  have f0 := A2.free 0
  have f1 := A2.free 1
  have f2 := A2.free 2
  have f3 := A2.free 3
  have al := A2.lt
  have C := (((A2.set 0 (.bool v0) (by simp)).set 1 (.string v1) (by simp)).set 2 (.string v2) (by simp)).set 3 (.int .i64 (v3 : Int)) (by simp)
  have c0 := C.cell 0 _ rfl
  have c1 := C.cell 1 _ rfl
  have c2 := C.cell 2 _ rfl
  have c3 := C.cell 3 _ rfl
  have BX := Lib.hid ((((B2.out.setCell (p := ⟨w.heap.size, 0, none⟩) (Nat.le_refl _) (.bool v0)).setCell (p := ⟨w.heap.size, 1, none⟩) (Nat.le_refl _) (.string v1)).setCell (p := ⟨w.heap.size, 2, none⟩) (Nat.le_refl _) (.string v2)).setCell (p := ⟨w.heap.size, 3, none⟩) (Nat.le_refl _) (.int .i64 (v3 : Int)))
  clear A2 C
  go_wp2_with fail
  exact bodyPost_ret (v := .agg #[.bool v0, .string v1, .string v2, .int .i64 (v3 : Int)]) (by simp [results, Tryd.results16, go_sem, c0, c1, c2, c3]) rfl ⟨rfl, BX.out⟩

set_option maxHeartbeats 1600000 in
theorem decimals_card (s : ByteArray) (hs : s.size ≤ 140737488351232) (w : World) (T : Tabs w) : Calls Tryd.prog 12 #[.string s] w (RetBelow w (.bool true)) := by
  have HC := Lib.hid (fun (W : World) (hT : Tabs W) => humanX_ok s W hs hT)
  have HR := Lib.hid (fun (W : World) => humanR_ok s W hs)
  have DC := Lib.hid (fun (W : World) (hT : Tabs W) => dec16X_ok s W hs hT)
  have DR := Lib.hid (fun (W : World) => decimalR_ok s W hs)
  have MC := Lib.hid (fun (W : World) (hT : Tabs W) => month_ok s W (by unfold maxLen; omega) hT)
  have MR := Lib.hid (fun (W : World) => monthR_ok s W hs)
  have AL := Lib.hid (fun (W : World) (hT : Tabs W) => alive_ok W hT)
  unfold humV at HC HR
  unfold decV at DC DR
  generalize scanS s.data.toList false = h at *
  generalize ((h.size : Int) + if 0 < sufS h s.data.toList then 1 else 0) = z1 at *
  generalize (((if numD h = [] then 0 else sufS h s.data.toList) : Nat) : Int) = r1 at *
  generalize (h.size : Int) = z2 at *
  generalize decNeg h = b1 at *
  generalize bs (trimL h.whole) = P at *
  generalize bs (trimR h.frac) = Q at *
  generalize (monthS s.data.toList : Int) = m1 at *
  have HT := Lib.hid T
  clear T
  go_enter Tryd.func12, Tryd.ntmps12
  go_wp2_with fail
  refine (HC.out _ HT.out).mono ?_
  rintro e w1 ⟨rfl, hb1⟩
  have T1 := Lib.hid ((HT.out.below hb1).below ((Below.refl _ _).alloc (Nat.le_refl _) (Obj.cells #[.bool b1, .string P, .string Q, .int .i64 z1] 25)))
  have A1 := Lib.hid (CellsAt.new w1 [.bool b1, .string P, .string Q, .int .i64 z1] 25)
  have B1 := Lib.hid (hb1.alloc hb1.size (Obj.cells #[.bool b1, .string P, .string Q, .int .i64 z1] 25))
  clear hb1
  go_wp2_with fail
  generalize hX : w1.alloc (Obj.cells #[.bool b1, .string P, .string Q, .int .i64 z1] 25) = x1 at *
  clear hX
  refine (HR.out _).mono ?_
  rintro e w2 ⟨rfl, hb2⟩
  have T2 := Lib.hid ((T1.out.below hb2).below ((Below.refl _ _).alloc (Nat.le_refl _) (Obj.cells #[.bool b1, .string P, .string Q, .int .i64 z1] 25)))
  have A2 := Lib.hid ((A1.out.step hb2).alloc (Obj.cells #[.bool b1, .string P, .string Q, .int .i64 z1] 25))
  have C2 := Lib.hid (CellsAt.new w2 [.bool b1, .string P, .string Q, .int .i64 z1] 25)
  have B2 := Lib.hid ((B1.out.trans (hb2.mono B1.out.size)).alloc (Nat.le_trans B1.out.size hb2.size) (Obj.cells #[.bool b1, .string P, .string Q, .int .i64 z1] 25))
  clear hb2
  go_wp2_with fail
  generalize hX : w2.alloc (Obj.cells #[.bool b1, .string P, .string Q, .int .i64 z1] 25) = x2 at *
  clear hX
  refine (DC.out _ T2.out).mono ?_
  rintro e w3 ⟨rfl, hb3⟩
  have T3 := Lib.hid (T2.out.below hb3)
  have A3 := Lib.hid (A2.out.step hb3)
  have C3 := Lib.hid (C2.out.step hb3)
  have B3 := Lib.hid (B2.out.trans (hb3.mono B2.out.size))
  clear hb3
  go_wp2_with fail
  refine (DR.out _).mono ?_
  rintro e w4 ⟨rfl, hb4⟩
  have T4 := Lib.hid (T3.out.below hb4)
  have A4 := A3.out.step hb4
  have C4 := C3.out.step hb4
  have B4 := Lib.hid (B3.out.trans (hb4.mono B3.out.size))
  clear hb4
  have a0 := A4.cell 0 _ rfl
  have a1 := A4.cell 1 _ rfl
  have a2 := A4.cell 2 _ rfl
  have a3 := A4.cell 3 _ rfl
  have c0 := C4.cell 0 _ rfl
  have c1 := C4.cell 1 _ rfl
  have c2 := C4.cell 2 _ rfl
  have c3 := C4.cell 3 _ rfl
  clear A4 C4
  go_wp2_with fail
  refine (MC.out _ T4.out).mono ?_
  rintro e w5 ⟨rfl, hb5⟩
  have T5 := Lib.hid (T4.out.below hb5)
  have B5 := Lib.hid (B4.out.trans (hb5.mono B4.out.size))
  clear hb5 a0 a1 a2 a3 c0 c1 c2 c3
  go_wp2_with fail
  refine (MR.out _).mono ?_
  rintro e w6 ⟨rfl, hb6⟩
  have T6 := Lib.hid (T5.out.below hb6)
  have B6 := Lib.hid (B5.out.trans (hb6.mono B5.out.size))
  clear hb6
  go_wp2_with fail
  refine (AL.out _ T6.out).mono ?_
  rintro e w7 ⟨rfl, hb7⟩
  have B7 := Lib.hid (B6.out.trans (hb7.mono B6.out.size))
  clear hb7
  go_wp2_with fail
  go_ret
  exact ⟨rfl, B7.out⟩
end Go.Proofs.YtpbbgmfjdachnaaDoor
