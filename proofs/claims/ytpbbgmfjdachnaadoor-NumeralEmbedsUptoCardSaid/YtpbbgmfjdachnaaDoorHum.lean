/- numeral's Human. -/
import Derived.Test.YtpbbgmfjdachnaaDoorDecP
import Derived.Test.YtpbbgmfjdachnaaDoorVOk
namespace Go.Proofs.YtpbbgmfjdachnaaDoor
open Go.RowKit

theorem decimal_ok (h : Hd) (w : World) (ok : HdOk h) (hw : h.whole.length ≤ 281474976710656) (hf : h.frac.length ≤ 281474976710656) : Calls Tryd.prog 33 #[headV h] w (RetBelow w (decV h)) := by
  cases hn : h.neg with
  | true => exact decimalNeg_ok h w ok hw hf hn
  | false => exact decimalPos_ok h w ok hw hf hn

/-- A number, and a rank. -/
def RetHum (w : World) (r : Int) (e : Ending) (w' : World) : Prop :=
  ∃ (b : Bool) (p q : ByteArray) (z : Int), e = .returned (.tuple #[.agg #[.bool b, .string p, .string q, .int .i64 z], .int .i64 r]) ∧ Below w.heap.size w w'

theorem hum_end (a : Act) (X : World) (w : World) (b : Bool) (p q : ByteArray) (z r : Int) (hp : a.tmps.getD 2 undef = .pointer (some ⟨w.heap.size, 0, none⟩)) (hr : a.tmps.getD 3 undef = .int .i64 r) (hd : a.defers = [])
    (hX : CellsAt X w.heap.size [.bool false, .string ⟨#[]⟩, .string ⟨#[]⟩, .int .i64 0]) (hB : Below w.heap.size w X) :
    bodyPost Tryd.prog Tryd.f23 (RetHum w r) Exit.ret a ((((X.setCell ⟨w.heap.size, 0, none⟩ (.bool b)).setCell ⟨w.heap.size, 1, none⟩ (.string p)).setCell ⟨w.heap.size, 2, none⟩ (.string q)).setCell ⟨w.heap.size, 3, none⟩ (.int .i64 z)) := by
  have C := (((hX.set 0 (.bool b) (by simp)).set 1 (.string p) (by simp)).set 2 (.string q) (by simp)).set 3 (.int .i64 z) (by simp)
  have hp2 := hp
  have hr2 := hr
  simp only [Array.getD_eq_getD_getElem?] at hp2 hr2
  have BX := (((hB.setCell (p := ⟨w.heap.size, 0, none⟩) (by simp) (.bool b)).setCell (p := ⟨w.heap.size, 1, none⟩) (by simp) (.string p)).setCell (p := ⟨w.heap.size, 2, none⟩) (by simp) (.string q)).setCell (p := ⟨w.heap.size, 3, none⟩) (by simp) (.int .i64 z)
  generalize (((X.setCell ⟨w.heap.size, 0, none⟩ (.bool b)).setCell ⟨w.heap.size, 1, none⟩ (.string p)).setCell ⟨w.heap.size, 2, none⟩ (.string q)).setCell ⟨w.heap.size, 3, none⟩ (.int .i64 z) = Y at *
  have c0 := C.cell 0 _ rfl
  have c1 := C.cell 1 _ rfl
  have c2 := C.cell 2 _ rfl
  have c3 := C.cell 3 _ rfl
  exact bodyPost_ret (v := .tuple #[.agg #[.bool b, .string p, .string q, .int .i64 z], .int .i64 r]) (by simp [results, Tryd.results23, go_sem, hp2, hr2, c0, c1, c2, c3]) hd ⟨b, p, q, z, rfl, BX⟩

set_option maxRecDepth 100000
set_option maxHeartbeats 1600000 in
theorem human_a (s : ByteArray) (w : World) (h : Hd) (Wh Fr P Q : ByteArray) (nb : Bool) (r : Nat) (T : Tabs w) (hr : r = 0) (hr10 : r ≤ 10) (hsz : h.size ≤ 1000000000000000000)
    (SC : Hid (∀ W, Tabs W → Calls Tryd.prog 32 #[.string s, .bool false] W (RetBelow W (.agg #[.int .u8 h.cls, .bool h.neg, .string Wh, .string Fr, .int .i64 h.exp, .int .i64 h.size]))))
    (NC : Hid (∀ W, Calls Tryd.prog 33 #[.agg #[.int .u8 h.cls, .bool h.neg, .string Wh, .string Fr, .int .i64 h.exp, .int .i64 h.size]] W (RetBelow W (.agg #[.bool nb, .string P, .string Q, .int .i64 h.size]))))
    (U : Hid (∀ W, Tabs W → Calls Tryd.prog 44 #[.agg #[.int .u8 h.cls, .bool h.neg, .string Wh, .string Fr, .int .i64 h.exp, .int .i64 h.size], .string s] W (RetBelow W (.int .i64 r))))
    (ZC : Hid (∀ W, Calls Tryd.prog 45 #[.agg #[.int .u8 h.cls, .bool h.neg, .string Wh, .string Fr, .int .i64 h.exp, .int .i64 h.size]] W (RetBelow W (.bool true)))) :
    Calls Tryd.prog 23 #[.string s] w (RetHum w 0) := by
  have HT := Lib.hid T
  have HA0 := Lib.hid (CellsAt.new w [.bool false, .string ⟨#[]⟩, .string ⟨#[]⟩, .int .i64 0] 25)
  have B0 := Lib.hid ((Below.refl w.heap.size w).alloc (Nat.le_refl _) (Obj.cells #[.bool false, .string ⟨#[]⟩, .string ⟨#[]⟩, .int .i64 0] 25))
  clear T
  subst hr
  go_enter Tryd.func23, Tryd.ntmps23
  go_wp2_with fail
  refine (SC.out _ (HT.out.below B0.out)).mono ?_
  rintro e w1 ⟨rfl, hb1⟩
  have A1 := Lib.hid (HA0.out.step hb1)
  have B1 := Lib.hid (B0.out.trans (hb1.mono (by simp)))
  clear hb1
  have E1 := Lib.hid (CellsAt.new w1 [.int .u8 h.cls, .bool h.neg, .string Wh, .string Fr, .int .i64 h.exp, .int .i64 h.size] 54)
  have A2 := Lib.hid (A1.out.alloc (Obj.cells #[.int .u8 h.cls, .bool h.neg, .string Wh, .string Fr, .int .i64 h.exp, .int .i64 h.size] 54))
  have B2 := Lib.hid (B1.out.alloc B1.out.size (Obj.cells #[.int .u8 h.cls, .bool h.neg, .string Wh, .string Fr, .int .i64 h.exp, .int .i64 h.size] 54))
  go_wp2_with fail
  generalize hX : w1.alloc (Obj.cells #[.int .u8 h.cls, .bool h.neg, .string Wh, .string Fr, .int .i64 h.exp, .int .i64 h.size] 54) = x1 at *
  clear hX
  refine (NC.out _).mono ?_
  rintro e w2 ⟨rfl, hb2⟩
  have E2 := Lib.hid ((E1.out.step hb2).alloc (Obj.cells #[.bool nb, .string P, .string Q, .int .i64 h.size] 25))
  have A3 := Lib.hid ((A2.out.step hb2).alloc (Obj.cells #[.bool nb, .string P, .string Q, .int .i64 h.size] 25))
  have F2 := Lib.hid (CellsAt.new w2 [.bool nb, .string P, .string Q, .int .i64 h.size] 25)
  have B3 := Lib.hid ((B2.out.trans (hb2.mono B2.out.size)).alloc (Nat.le_trans B2.out.size hb2.size) (Obj.cells #[.bool nb, .string P, .string Q, .int .i64 h.size] 25))
  have L2 := Lib.hid (show w.heap.size < w2.heap.size ∧ w1.heap.size < w2.heap.size from ⟨Nat.lt_of_lt_of_le A2.out.lt hb2.size, Nat.lt_of_lt_of_le E1.out.lt hb2.size⟩)
  clear hb2
  have e0 := E2.out.cell 0 _ rfl
  have e1 := E2.out.cell 1 _ rfl
  have e2 := E2.out.cell 2 _ rfl
  have e3 := E2.out.cell 3 _ rfl
  have e4 := E2.out.cell 4 _ rfl
  have e5 := E2.out.cell 5 _ rfl
  go_wp2_with fail
  generalize hX : w2.alloc (Obj.cells #[.bool nb, .string P, .string Q, .int .i64 h.size] 25) = x2 at *
  clear hX e0 e1 e2 e3 e4 e5
  refine (U.out _ (HT.out.below B3.out)).mono ?_
  rintro e w3 ⟨rfl, hb3⟩
  have E3 := Lib.hid (E2.out.step hb3)
  have A4 := Lib.hid (A3.out.step hb3)
  have F3 := Lib.hid (F2.out.step hb3)
  have B4 := Lib.hid (B3.out.trans (hb3.mono B3.out.size))
  clear hb3
  have e0 := E3.out.cell 0 _ rfl
  have e1 := E3.out.cell 1 _ rfl
  have e2 := E3.out.cell 2 _ rfl
  have e3 := E3.out.cell 3 _ rfl
  have e4 := E3.out.cell 4 _ rfl
  have e5 := E3.out.cell 5 _ rfl
  have d0 := F3.out.cell 0 _ rfl
  have d1 := F3.out.cell 1 _ rfl
  have d2 := F3.out.cell 2 _ rfl
  have d3 := F3.out.cell 3 _ rfl
  have df3 := F3.out.free 3
  go_wp2_with fail
  refine (ZC.out _).mono ?_
  rintro e w4 ⟨rfl, hb4⟩
  have A5 := Lib.hid (A4.out.step hb4)
  have F4 := Lib.hid (F3.out.step hb4)
  have B5 := Lib.hid (B4.out.trans (hb4.mono B4.out.size))
  clear hb4 e0 e1 e2 e3 e4 e5 d0 d1 d2 d3 df3
  have d0 := F4.out.cell 0 _ rfl
  have d1 := F4.out.cell 1 _ rfl
  have d2 := F4.out.cell 2 _ rfl
  have d3 := F4.out.cell 3 _ rfl
  have a0 := A5.out.cell 0 _ rfl
  have f0 := A5.out.free 0
  have a1 := A5.out.cell 1 _ rfl
  have f1 := A5.out.free 1
  have a2 := A5.out.cell 2 _ rfl
  have f2 := A5.out.free 2
  have a3 := A5.out.cell 3 _ rfl
  have f3 := A5.out.free 3
  go_wp2_with fail
  exact hum_end _ w4 w _ _ _ _ _ rfl rfl rfl A5.out B5.out

set_option maxHeartbeats 1600000 in
theorem human_b (s : ByteArray) (w : World) (h : Hd) (Wh Fr P Q : ByteArray) (nb : Bool) (r : Nat) (T : Tabs w) (hr : r = 0) (hr10 : r ≤ 10) (hsz : h.size ≤ 1000000000000000000)
    (SC : Hid (∀ W, Tabs W → Calls Tryd.prog 32 #[.string s, .bool false] W (RetBelow W (.agg #[.int .u8 h.cls, .bool h.neg, .string Wh, .string Fr, .int .i64 h.exp, .int .i64 h.size]))))
    (NC : Hid (∀ W, Calls Tryd.prog 33 #[.agg #[.int .u8 h.cls, .bool h.neg, .string Wh, .string Fr, .int .i64 h.exp, .int .i64 h.size]] W (RetBelow W (.agg #[.bool nb, .string P, .string Q, .int .i64 h.size]))))
    (U : Hid (∀ W, Tabs W → Calls Tryd.prog 44 #[.agg #[.int .u8 h.cls, .bool h.neg, .string Wh, .string Fr, .int .i64 h.exp, .int .i64 h.size], .string s] W (RetBelow W (.int .i64 r))))
    (ZC : Hid (∀ W, Calls Tryd.prog 45 #[.agg #[.int .u8 h.cls, .bool h.neg, .string Wh, .string Fr, .int .i64 h.exp, .int .i64 h.size]] W (RetBelow W (.bool false)))) :
    Calls Tryd.prog 23 #[.string s] w (RetHum w 0) := by
  have HT := Lib.hid T
  have HA0 := Lib.hid (CellsAt.new w [.bool false, .string ⟨#[]⟩, .string ⟨#[]⟩, .int .i64 0] 25)
  have B0 := Lib.hid ((Below.refl w.heap.size w).alloc (Nat.le_refl _) (Obj.cells #[.bool false, .string ⟨#[]⟩, .string ⟨#[]⟩, .int .i64 0] 25))
  clear T
  subst hr
  go_enter Tryd.func23, Tryd.ntmps23
  go_wp2_with fail
  refine (SC.out _ (HT.out.below B0.out)).mono ?_
  rintro e w1 ⟨rfl, hb1⟩
  have A1 := Lib.hid (HA0.out.step hb1)
  have B1 := Lib.hid (B0.out.trans (hb1.mono (by simp)))
  clear hb1
  have E1 := Lib.hid (CellsAt.new w1 [.int .u8 h.cls, .bool h.neg, .string Wh, .string Fr, .int .i64 h.exp, .int .i64 h.size] 54)
  have A2 := Lib.hid (A1.out.alloc (Obj.cells #[.int .u8 h.cls, .bool h.neg, .string Wh, .string Fr, .int .i64 h.exp, .int .i64 h.size] 54))
  have B2 := Lib.hid (B1.out.alloc B1.out.size (Obj.cells #[.int .u8 h.cls, .bool h.neg, .string Wh, .string Fr, .int .i64 h.exp, .int .i64 h.size] 54))
  go_wp2_with fail
  generalize hX : w1.alloc (Obj.cells #[.int .u8 h.cls, .bool h.neg, .string Wh, .string Fr, .int .i64 h.exp, .int .i64 h.size] 54) = x1 at *
  clear hX
  refine (NC.out _).mono ?_
  rintro e w2 ⟨rfl, hb2⟩
  have E2 := Lib.hid ((E1.out.step hb2).alloc (Obj.cells #[.bool nb, .string P, .string Q, .int .i64 h.size] 25))
  have A3 := Lib.hid ((A2.out.step hb2).alloc (Obj.cells #[.bool nb, .string P, .string Q, .int .i64 h.size] 25))
  have F2 := Lib.hid (CellsAt.new w2 [.bool nb, .string P, .string Q, .int .i64 h.size] 25)
  have B3 := Lib.hid ((B2.out.trans (hb2.mono B2.out.size)).alloc (Nat.le_trans B2.out.size hb2.size) (Obj.cells #[.bool nb, .string P, .string Q, .int .i64 h.size] 25))
  have L2 := Lib.hid (show w.heap.size < w2.heap.size ∧ w1.heap.size < w2.heap.size from ⟨Nat.lt_of_lt_of_le A2.out.lt hb2.size, Nat.lt_of_lt_of_le E1.out.lt hb2.size⟩)
  clear hb2
  have e0 := E2.out.cell 0 _ rfl
  have e1 := E2.out.cell 1 _ rfl
  have e2 := E2.out.cell 2 _ rfl
  have e3 := E2.out.cell 3 _ rfl
  have e4 := E2.out.cell 4 _ rfl
  have e5 := E2.out.cell 5 _ rfl
  go_wp2_with fail
  generalize hX : w2.alloc (Obj.cells #[.bool nb, .string P, .string Q, .int .i64 h.size] 25) = x2 at *
  clear hX e0 e1 e2 e3 e4 e5
  refine (U.out _ (HT.out.below B3.out)).mono ?_
  rintro e w3 ⟨rfl, hb3⟩
  have E3 := Lib.hid (E2.out.step hb3)
  have A4 := Lib.hid (A3.out.step hb3)
  have F3 := Lib.hid (F2.out.step hb3)
  have B4 := Lib.hid (B3.out.trans (hb3.mono B3.out.size))
  clear hb3
  have e0 := E3.out.cell 0 _ rfl
  have e1 := E3.out.cell 1 _ rfl
  have e2 := E3.out.cell 2 _ rfl
  have e3 := E3.out.cell 3 _ rfl
  have e4 := E3.out.cell 4 _ rfl
  have e5 := E3.out.cell 5 _ rfl
  have d0 := F3.out.cell 0 _ rfl
  have d1 := F3.out.cell 1 _ rfl
  have d2 := F3.out.cell 2 _ rfl
  have d3 := F3.out.cell 3 _ rfl
  have df3 := F3.out.free 3
  go_wp2_with fail
  refine (ZC.out _).mono ?_
  rintro e w4 ⟨rfl, hb4⟩
  have A5 := Lib.hid (A4.out.step hb4)
  have F4 := Lib.hid (F3.out.step hb4)
  have B5 := Lib.hid (B4.out.trans (hb4.mono B4.out.size))
  clear hb4 e0 e1 e2 e3 e4 e5 d0 d1 d2 d3 df3
  have d0 := F4.out.cell 0 _ rfl
  have d1 := F4.out.cell 1 _ rfl
  have d2 := F4.out.cell 2 _ rfl
  have d3 := F4.out.cell 3 _ rfl
  have a0 := A5.out.cell 0 _ rfl
  have f0 := A5.out.free 0
  have a1 := A5.out.cell 1 _ rfl
  have f1 := A5.out.free 1
  have a2 := A5.out.cell 2 _ rfl
  have f2 := A5.out.free 2
  have a3 := A5.out.cell 3 _ rfl
  have f3 := A5.out.free 3
  go_wp2_with fail
  exact hum_end _ w4 w _ _ _ _ _ rfl rfl rfl A5.out B5.out

set_option maxHeartbeats 1600000 in
theorem human_c (s : ByteArray) (w : World) (h : Hd) (Wh Fr P Q : ByteArray) (nb : Bool) (r : Nat) (T : Tabs w) (hr : 0 < r) (hr10 : r ≤ 10) (hsz : h.size ≤ 1000000000000000000)
    (SC : Hid (∀ W, Tabs W → Calls Tryd.prog 32 #[.string s, .bool false] W (RetBelow W (.agg #[.int .u8 h.cls, .bool h.neg, .string Wh, .string Fr, .int .i64 h.exp, .int .i64 h.size]))))
    (NC : Hid (∀ W, Calls Tryd.prog 33 #[.agg #[.int .u8 h.cls, .bool h.neg, .string Wh, .string Fr, .int .i64 h.exp, .int .i64 h.size]] W (RetBelow W (.agg #[.bool nb, .string P, .string Q, .int .i64 h.size]))))
    (U : Hid (∀ W, Tabs W → Calls Tryd.prog 44 #[.agg #[.int .u8 h.cls, .bool h.neg, .string Wh, .string Fr, .int .i64 h.exp, .int .i64 h.size], .string s] W (RetBelow W (.int .i64 r))))
    (ZC : Hid (∀ W, Calls Tryd.prog 45 #[.agg #[.int .u8 h.cls, .bool h.neg, .string Wh, .string Fr, .int .i64 h.exp, .int .i64 h.size]] W (RetBelow W (.bool true)))) :
    Calls Tryd.prog 23 #[.string s] w (RetHum w 0) := by
  have HT := Lib.hid T
  have HA0 := Lib.hid (CellsAt.new w [.bool false, .string ⟨#[]⟩, .string ⟨#[]⟩, .int .i64 0] 25)
  have B0 := Lib.hid ((Below.refl w.heap.size w).alloc (Nat.le_refl _) (Obj.cells #[.bool false, .string ⟨#[]⟩, .string ⟨#[]⟩, .int .i64 0] 25))
  clear T
  have t1 : decide ((0 : Int) < (r : Int)) = true := by simp; omega
  have hr1 : (1 : Int) ≤ (r : Int) := by omega
  go_enter Tryd.func23, Tryd.ntmps23
  go_wp2_with fail
  refine (SC.out _ (HT.out.below B0.out)).mono ?_
  rintro e w1 ⟨rfl, hb1⟩
  have A1 := Lib.hid (HA0.out.step hb1)
  have B1 := Lib.hid (B0.out.trans (hb1.mono (by simp)))
  clear hb1
  have E1 := Lib.hid (CellsAt.new w1 [.int .u8 h.cls, .bool h.neg, .string Wh, .string Fr, .int .i64 h.exp, .int .i64 h.size] 54)
  have A2 := Lib.hid (A1.out.alloc (Obj.cells #[.int .u8 h.cls, .bool h.neg, .string Wh, .string Fr, .int .i64 h.exp, .int .i64 h.size] 54))
  have B2 := Lib.hid (B1.out.alloc B1.out.size (Obj.cells #[.int .u8 h.cls, .bool h.neg, .string Wh, .string Fr, .int .i64 h.exp, .int .i64 h.size] 54))
  go_wp2_with fail
  generalize hX : w1.alloc (Obj.cells #[.int .u8 h.cls, .bool h.neg, .string Wh, .string Fr, .int .i64 h.exp, .int .i64 h.size] 54) = x1 at *
  clear hX
  refine (NC.out _).mono ?_
  rintro e w2 ⟨rfl, hb2⟩
  have E2 := Lib.hid ((E1.out.step hb2).alloc (Obj.cells #[.bool nb, .string P, .string Q, .int .i64 h.size] 25))
  have A3 := Lib.hid ((A2.out.step hb2).alloc (Obj.cells #[.bool nb, .string P, .string Q, .int .i64 h.size] 25))
  have F2 := Lib.hid (CellsAt.new w2 [.bool nb, .string P, .string Q, .int .i64 h.size] 25)
  have B3 := Lib.hid ((B2.out.trans (hb2.mono B2.out.size)).alloc (Nat.le_trans B2.out.size hb2.size) (Obj.cells #[.bool nb, .string P, .string Q, .int .i64 h.size] 25))
  have L2 := Lib.hid (show w.heap.size < w2.heap.size ∧ w1.heap.size < w2.heap.size from ⟨Nat.lt_of_lt_of_le A2.out.lt hb2.size, Nat.lt_of_lt_of_le E1.out.lt hb2.size⟩)
  clear hb2
  have e0 := E2.out.cell 0 _ rfl
  have e1 := E2.out.cell 1 _ rfl
  have e2 := E2.out.cell 2 _ rfl
  have e3 := E2.out.cell 3 _ rfl
  have e4 := E2.out.cell 4 _ rfl
  have e5 := E2.out.cell 5 _ rfl
  go_wp2_with fail
  generalize hX : w2.alloc (Obj.cells #[.bool nb, .string P, .string Q, .int .i64 h.size] 25) = x2 at *
  clear hX e0 e1 e2 e3 e4 e5
  refine (U.out _ (HT.out.below B3.out)).mono ?_
  rintro e w3 ⟨rfl, hb3⟩
  have E3 := Lib.hid (E2.out.step hb3)
  have A4 := Lib.hid (A3.out.step hb3)
  have F3 := Lib.hid (F2.out.step hb3)
  have B4 := Lib.hid (B3.out.trans (hb3.mono B3.out.size))
  clear hb3
  have e0 := E3.out.cell 0 _ rfl
  have e1 := E3.out.cell 1 _ rfl
  have e2 := E3.out.cell 2 _ rfl
  have e3 := E3.out.cell 3 _ rfl
  have e4 := E3.out.cell 4 _ rfl
  have e5 := E3.out.cell 5 _ rfl
  have d0 := F3.out.cell 0 _ rfl
  have d1 := F3.out.cell 1 _ rfl
  have d2 := F3.out.cell 2 _ rfl
  have d3 := F3.out.cell 3 _ rfl
  have df3 := F3.out.free 3
  have F3' := Lib.hid (F3.out.set 3 (.int .i64 ((h.size : Int) + 1)) (by simp))
  have E3' := Lib.hid (E3.out.other (show w2.heap.size ≠ w1.heap.size by have := L2.out; omega) 3 (.int .i64 ((h.size : Int) + 1)))
  have A4' := Lib.hid (A4.out.other (show w2.heap.size ≠ w.heap.size by have := L2.out; omega) 3 (.int .i64 ((h.size : Int) + 1)))
  have B4' := Lib.hid (B4.out.setCell (p := ⟨w2.heap.size, 3, none⟩) (by have := L2.out; simp; omega) (.int .i64 ((h.size : Int) + 1)))
  have g0 := E3'.out.cell 0 _ rfl
  have g1 := E3'.out.cell 1 _ rfl
  have g2 := E3'.out.cell 2 _ rfl
  have g3 := E3'.out.cell 3 _ rfl
  have g4 := E3'.out.cell 4 _ rfl
  have g5 := E3'.out.cell 5 _ rfl
  go_wp2_with fail
  generalize hX : w3.setCell ⟨w2.heap.size, 3, none⟩ (.int .i64 ((h.size : Int) + 1)) = x3 at *
  clear hX e0 e1 e2 e3 e4 e5 d0 d1 d2 d3 df3 g0 g1 g2 g3 g4 g5
  refine (ZC.out _).mono ?_
  rintro e w4 ⟨rfl, hb4⟩
  have A5 := Lib.hid (A4'.out.step hb4)
  have F4 := Lib.hid (F3'.out.step hb4)
  have B5 := Lib.hid (B4'.out.trans (hb4.mono B4'.out.size))
  clear hb4
  have d0 := F4.out.cell 0 _ rfl
  have d1 := F4.out.cell 1 _ rfl
  have d2 := F4.out.cell 2 _ rfl
  have d3 := F4.out.cell 3 _ rfl
  have a0 := A5.out.cell 0 _ rfl
  have f0 := A5.out.free 0
  have a1 := A5.out.cell 1 _ rfl
  have f1 := A5.out.free 1
  have a2 := A5.out.cell 2 _ rfl
  have f2 := A5.out.free 2
  have a3 := A5.out.cell 3 _ rfl
  have f3 := A5.out.free 3
  go_wp2_with fail
  exact hum_end _ w4 w _ _ _ _ _ rfl rfl rfl A5.out B5.out

set_option maxHeartbeats 1600000 in
theorem human_d (s : ByteArray) (w : World) (h : Hd) (Wh Fr P Q : ByteArray) (nb : Bool) (r : Nat) (T : Tabs w) (hr : 0 < r) (hr10 : r ≤ 10) (hsz : h.size ≤ 1000000000000000000)
    (SC : Hid (∀ W, Tabs W → Calls Tryd.prog 32 #[.string s, .bool false] W (RetBelow W (.agg #[.int .u8 h.cls, .bool h.neg, .string Wh, .string Fr, .int .i64 h.exp, .int .i64 h.size]))))
    (NC : Hid (∀ W, Calls Tryd.prog 33 #[.agg #[.int .u8 h.cls, .bool h.neg, .string Wh, .string Fr, .int .i64 h.exp, .int .i64 h.size]] W (RetBelow W (.agg #[.bool nb, .string P, .string Q, .int .i64 h.size]))))
    (U : Hid (∀ W, Tabs W → Calls Tryd.prog 44 #[.agg #[.int .u8 h.cls, .bool h.neg, .string Wh, .string Fr, .int .i64 h.exp, .int .i64 h.size], .string s] W (RetBelow W (.int .i64 r))))
    (ZC : Hid (∀ W, Calls Tryd.prog 45 #[.agg #[.int .u8 h.cls, .bool h.neg, .string Wh, .string Fr, .int .i64 h.exp, .int .i64 h.size]] W (RetBelow W (.bool false)))) :
    Calls Tryd.prog 23 #[.string s] w (RetHum w r) := by
  have HT := Lib.hid T
  have HA0 := Lib.hid (CellsAt.new w [.bool false, .string ⟨#[]⟩, .string ⟨#[]⟩, .int .i64 0] 25)
  have B0 := Lib.hid ((Below.refl w.heap.size w).alloc (Nat.le_refl _) (Obj.cells #[.bool false, .string ⟨#[]⟩, .string ⟨#[]⟩, .int .i64 0] 25))
  clear T
  have t1 : decide ((0 : Int) < (r : Int)) = true := by simp; omega
  have hr1 : (1 : Int) ≤ (r : Int) := by omega
  go_enter Tryd.func23, Tryd.ntmps23
  go_wp2_with fail
  refine (SC.out _ (HT.out.below B0.out)).mono ?_
  rintro e w1 ⟨rfl, hb1⟩
  have A1 := Lib.hid (HA0.out.step hb1)
  have B1 := Lib.hid (B0.out.trans (hb1.mono (by simp)))
  clear hb1
  have E1 := Lib.hid (CellsAt.new w1 [.int .u8 h.cls, .bool h.neg, .string Wh, .string Fr, .int .i64 h.exp, .int .i64 h.size] 54)
  have A2 := Lib.hid (A1.out.alloc (Obj.cells #[.int .u8 h.cls, .bool h.neg, .string Wh, .string Fr, .int .i64 h.exp, .int .i64 h.size] 54))
  have B2 := Lib.hid (B1.out.alloc B1.out.size (Obj.cells #[.int .u8 h.cls, .bool h.neg, .string Wh, .string Fr, .int .i64 h.exp, .int .i64 h.size] 54))
  go_wp2_with fail
  generalize hX : w1.alloc (Obj.cells #[.int .u8 h.cls, .bool h.neg, .string Wh, .string Fr, .int .i64 h.exp, .int .i64 h.size] 54) = x1 at *
  clear hX
  refine (NC.out _).mono ?_
  rintro e w2 ⟨rfl, hb2⟩
  have E2 := Lib.hid ((E1.out.step hb2).alloc (Obj.cells #[.bool nb, .string P, .string Q, .int .i64 h.size] 25))
  have A3 := Lib.hid ((A2.out.step hb2).alloc (Obj.cells #[.bool nb, .string P, .string Q, .int .i64 h.size] 25))
  have F2 := Lib.hid (CellsAt.new w2 [.bool nb, .string P, .string Q, .int .i64 h.size] 25)
  have B3 := Lib.hid ((B2.out.trans (hb2.mono B2.out.size)).alloc (Nat.le_trans B2.out.size hb2.size) (Obj.cells #[.bool nb, .string P, .string Q, .int .i64 h.size] 25))
  have L2 := Lib.hid (show w.heap.size < w2.heap.size ∧ w1.heap.size < w2.heap.size from ⟨Nat.lt_of_lt_of_le A2.out.lt hb2.size, Nat.lt_of_lt_of_le E1.out.lt hb2.size⟩)
  clear hb2
  have e0 := E2.out.cell 0 _ rfl
  have e1 := E2.out.cell 1 _ rfl
  have e2 := E2.out.cell 2 _ rfl
  have e3 := E2.out.cell 3 _ rfl
  have e4 := E2.out.cell 4 _ rfl
  have e5 := E2.out.cell 5 _ rfl
  go_wp2_with fail
  generalize hX : w2.alloc (Obj.cells #[.bool nb, .string P, .string Q, .int .i64 h.size] 25) = x2 at *
  clear hX e0 e1 e2 e3 e4 e5
  refine (U.out _ (HT.out.below B3.out)).mono ?_
  rintro e w3 ⟨rfl, hb3⟩
  have E3 := Lib.hid (E2.out.step hb3)
  have A4 := Lib.hid (A3.out.step hb3)
  have F3 := Lib.hid (F2.out.step hb3)
  have B4 := Lib.hid (B3.out.trans (hb3.mono B3.out.size))
  clear hb3
  have e0 := E3.out.cell 0 _ rfl
  have e1 := E3.out.cell 1 _ rfl
  have e2 := E3.out.cell 2 _ rfl
  have e3 := E3.out.cell 3 _ rfl
  have e4 := E3.out.cell 4 _ rfl
  have e5 := E3.out.cell 5 _ rfl
  have d0 := F3.out.cell 0 _ rfl
  have d1 := F3.out.cell 1 _ rfl
  have d2 := F3.out.cell 2 _ rfl
  have d3 := F3.out.cell 3 _ rfl
  have df3 := F3.out.free 3
  have F3' := Lib.hid (F3.out.set 3 (.int .i64 ((h.size : Int) + 1)) (by simp))
  have E3' := Lib.hid (E3.out.other (show w2.heap.size ≠ w1.heap.size by have := L2.out; omega) 3 (.int .i64 ((h.size : Int) + 1)))
  have A4' := Lib.hid (A4.out.other (show w2.heap.size ≠ w.heap.size by have := L2.out; omega) 3 (.int .i64 ((h.size : Int) + 1)))
  have B4' := Lib.hid (B4.out.setCell (p := ⟨w2.heap.size, 3, none⟩) (by have := L2.out; simp; omega) (.int .i64 ((h.size : Int) + 1)))
  have g0 := E3'.out.cell 0 _ rfl
  have g1 := E3'.out.cell 1 _ rfl
  have g2 := E3'.out.cell 2 _ rfl
  have g3 := E3'.out.cell 3 _ rfl
  have g4 := E3'.out.cell 4 _ rfl
  have g5 := E3'.out.cell 5 _ rfl
  go_wp2_with fail
  generalize hX : w3.setCell ⟨w2.heap.size, 3, none⟩ (.int .i64 ((h.size : Int) + 1)) = x3 at *
  clear hX e0 e1 e2 e3 e4 e5 d0 d1 d2 d3 df3 g0 g1 g2 g3 g4 g5
  refine (ZC.out _).mono ?_
  rintro e w4 ⟨rfl, hb4⟩
  have A5 := Lib.hid (A4'.out.step hb4)
  have F4 := Lib.hid (F3'.out.step hb4)
  have B5 := Lib.hid (B4'.out.trans (hb4.mono B4'.out.size))
  clear hb4
  have d0 := F4.out.cell 0 _ rfl
  have d1 := F4.out.cell 1 _ rfl
  have d2 := F4.out.cell 2 _ rfl
  have d3 := F4.out.cell 3 _ rfl
  have a0 := A5.out.cell 0 _ rfl
  have f0 := A5.out.free 0
  have a1 := A5.out.cell 1 _ rfl
  have f1 := A5.out.free 1
  have a2 := A5.out.cell 2 _ rfl
  have f2 := A5.out.free 2
  have a3 := A5.out.cell 3 _ rfl
  have f3 := A5.out.free 3
  go_wp2_with fail
  exact hum_end _ w4 w _ _ _ _ _ rfl rfl rfl A5.out B5.out

theorem human_ok (s : ByteArray) (w : World) (hs : s.size ≤ 1000000) (T : Tabs w) :
    Calls Tryd.prog 23 #[.string s] w (RetHum w (if numD (scanS s.data.toList false) = [] then 0 else (sufS (scanS s.data.toList false) s.data.toList : Nat))) := by
  have ok := scanS_ok s false (by omega)
  have pk := scanS_parts s.data.toList false
  rw [← Lib.size_eq] at pk
  have SC := Lib.hid (fun (W : World) (hT : Tabs W) => scan_ok s false W (by omega) hT)
  have U := Lib.hid (fun (W : World) (hT : Tabs W) => suffix_ok (scanS s.data.toList false) s W ok hT)
  have hle := sufS_le (scanS s.data.toList false) s.data.toList
  generalize scanS s.data.toList false = h at *
  have hsz := ok.size
  have NC := Lib.hid (fun W : World => decimal_ok h W ok (by have := pk.wl; omega) (by have := pk.fl; omega))
  have ZC := Lib.hid (fun W : World => headZero_ok h W ok)
  unfold headV at SC U NC ZC
  unfold decV at NC
  by_cases hz : numD h = []
  · rw [if_pos hz]
    rw [decide_eq_true hz] at ZC
    by_cases hr : sufS h s.data.toList = 0
    · exact human_a s w h _ _ _ _ _ _ T hr hle (by omega) SC NC U ZC
    · exact human_c s w h _ _ _ _ _ _ T (by omega) hle (by omega) SC NC U ZC
  · rw [if_neg hz]
    rw [decide_eq_false hz] at ZC
    by_cases hr : sufS h s.data.toList = 0
    · have := human_b s w h _ _ _ _ _ _ T hr hle (by omega) SC NC U ZC
      rw [hr]; exact this
    · exact human_d s w h _ _ _ _ _ _ T (by omega) hle (by omega) SC NC U ZC
end Go.Proofs.YtpbbgmfjdachnaaDoor
