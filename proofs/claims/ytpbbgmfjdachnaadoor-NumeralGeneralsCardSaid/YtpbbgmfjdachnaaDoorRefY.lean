/- The document's answer for numbers: General. -/
import Derived.Test.YtpbbgmfjdachnaaDoorRefX
import Derived.Test.YtpbbgmfjdachnaaDoorGenX
namespace Go.Proofs.YtpbbgmfjdachnaaDoor
open Go.RowKit

set_option maxRecDepth 100000
theorem genR_end (a : Act) (X : World) (w : World) (v0 v1 v2 v3 v4 : Value) (hp : a.tmps.getD 2 undef = .pointer (some ⟨w.heap.size, 0, none⟩)) (hd : a.defers = [])
    (hX : CellsAt X w.heap.size [.int .u8 0, .bool false, .string ⟨#[]⟩, .int .i64 0, .int .i64 0]) (hB : Below w.heap.size w X) :
    bodyPost Tryd.prog Tryd.f26 (RetBelow w (.agg #[v0, v1, v2, v3, v4])) Exit.ret a (((((X.setCell ⟨w.heap.size, 0, none⟩ v0).setCell ⟨w.heap.size, 1, none⟩ v1).setCell ⟨w.heap.size, 2, none⟩ v2).setCell ⟨w.heap.size, 3, none⟩ v3).setCell ⟨w.heap.size, 4, none⟩ v4) := by
  have C := ((((hX.set 0 v0 (by simp)).set 1 v1 (by simp)).set 2 v2 (by simp)).set 3 v3 (by simp)).set 4 v4 (by simp)
  have hp2 := hp
  simp only [Array.getD_eq_getD_getElem?] at hp2
  have BX := ((((hB.setCell (p := ⟨w.heap.size, 0, none⟩) (by simp) v0).setCell (p := ⟨w.heap.size, 1, none⟩) (by simp) v1).setCell (p := ⟨w.heap.size, 2, none⟩) (by simp) v2).setCell (p := ⟨w.heap.size, 3, none⟩) (by simp) v3).setCell (p := ⟨w.heap.size, 4, none⟩) (by simp) v4
  generalize ((((X.setCell ⟨w.heap.size, 0, none⟩ v0).setCell ⟨w.heap.size, 1, none⟩ v1).setCell ⟨w.heap.size, 2, none⟩ v2).setCell ⟨w.heap.size, 3, none⟩ v3).setCell ⟨w.heap.size, 4, none⟩ v4 = Y at *
  have c0 := C.cell 0 _ rfl
  have c1 := C.cell 1 _ rfl
  have c2 := C.cell 2 _ rfl
  have c3 := C.cell 3 _ rfl
  have c4 := C.cell 4 _ rfl
  exact bodyPost_ret (v := .agg #[v0, v1, v2, v3, v4]) (by simp [results, Tryd.results26, go_sem, hp2, c0, c1, c2, c3, c4]) hd ⟨rfl, BX⟩

set_option maxHeartbeats 1600000 in
theorem genR_neg_nan (s : ByteArray) (b : Nat) (w : World) (hs : s.size ≤ 140737488351232) (hb : b < s.size) (h1 : s[b] = 45)
    (SC : Hid (∀ W, Calls Tryd.prog 50 #[.string s] W (Same W (.int .i64 (b : Int)))))
    (AN : Hid (∀ W, Calls Tryd.prog 51 #[.string s, .int .i64 ((b : Int) + 1), .string ⟨#[110, 97, 110]⟩] W (BeginsPost W true)))
    : Calls Tryd.prog 26 #[.string s] w (RetBelow w (.agg #[.int .u8 1, .bool false, .string ⟨#[]⟩, .int .i64 0, .int .i64 (((b : Int) + 1) + 3)])) := by
  have t2 : ((s[b].toNat : Int) == 45) = true := by rw [h1]; rfl
  clear h1
  have A0 := Lib.hid (CellsAt.new w [.int .u8 0, .bool false, .string ⟨#[]⟩, .int .i64 0, .int .i64 0] 29)
  have B0 := Lib.hid ((Below.refl w.heap.size w).alloc (Nat.le_refl _) (Obj.cells #[.int .u8 0, .bool false, .string ⟨#[]⟩, .int .i64 0, .int .i64 0] 29))
  go_enter Tryd.func26, Tryd.ntmps26
  go_upto_region 1 with fail
  generalize hX : w.alloc (Obj.cells #[.int .u8 0, .bool false, .string ⟨#[]⟩, .int .i64 0, .int .i64 0] 29) = x at *
  clear hX
  go_wp2_with fail
  refine (SC.out _).mono ?_
  rintro e1 w1 ⟨rfl, rfl⟩
  go_wp2_with fail
  refine (AN.out _).mono ?_
  rintro e1 w1 ⟨rfl, n1, rfl⟩
  have A1 := Lib.hid (A0.out.step (below_drewN x n1))
  have B1 := Lib.hid (bdrewB B0.out n1)
  generalize x.drewN n1 = x1 at *
  have a0 := A1.out.cell 0 _ rfl
  have f0 := A1.out.free 0
  have a1 := A1.out.cell 1 _ rfl
  have f1 := A1.out.free 1
  have a2 := A1.out.cell 2 _ rfl
  have f2 := A1.out.free 2
  have a3 := A1.out.cell 3 _ rfl
  have f3 := A1.out.free 3
  have a4 := A1.out.cell 4 _ rfl
  have f4 := A1.out.free 4
  go_wp2_with fail
  exact genR_end _ _ w _ _ _ _ _ rfl rfl A1.out B1.out

set_option maxHeartbeats 1600000 in
theorem genR_neg_inf (s : ByteArray) (b : Nat) (w : World) (hs : s.size ≤ 140737488351232) (hb : b < s.size) (h1 : s[b] = 45)
    (SC : Hid (∀ W, Calls Tryd.prog 50 #[.string s] W (Same W (.int .i64 (b : Int)))))
    (AN : Hid (∀ W, Calls Tryd.prog 51 #[.string s, .int .i64 ((b : Int) + 1), .string ⟨#[110, 97, 110]⟩] W (BeginsPost W false)))
    (AI : Hid (∀ W, Calls Tryd.prog 51 #[.string s, .int .i64 ((b : Int) + 1), .string ⟨#[105, 110, 102]⟩] W (BeginsPost W true)))
    (AY : Hid (∀ W, Calls Tryd.prog 51 #[.string s, .int .i64 ((b : Int) + 1), .string ⟨#[105, 110, 102, 105, 110, 105, 116, 121]⟩] W (BeginsPost W false)))
    : Calls Tryd.prog 26 #[.string s] w (RetBelow w (.agg #[.int .u8 2, .bool false, .string ⟨#[]⟩, .int .i64 0, .int .i64 (((b : Int) + 1) + 3)])) := by
  have t2 : ((s[b].toNat : Int) == 45) = true := by rw [h1]; rfl
  clear h1
  have A0 := Lib.hid (CellsAt.new w [.int .u8 0, .bool false, .string ⟨#[]⟩, .int .i64 0, .int .i64 0] 29)
  have B0 := Lib.hid ((Below.refl w.heap.size w).alloc (Nat.le_refl _) (Obj.cells #[.int .u8 0, .bool false, .string ⟨#[]⟩, .int .i64 0, .int .i64 0] 29))
  go_enter Tryd.func26, Tryd.ntmps26
  go_upto_region 1 with fail
  generalize hX : w.alloc (Obj.cells #[.int .u8 0, .bool false, .string ⟨#[]⟩, .int .i64 0, .int .i64 0] 29) = x at *
  clear hX
  go_wp2_with fail
  refine (SC.out _).mono ?_
  rintro e1 w1 ⟨rfl, rfl⟩
  go_wp2_with fail
  refine (AN.out _).mono ?_
  rintro e1 w1 ⟨rfl, n1, rfl⟩
  have A1 := Lib.hid (A0.out.step (below_drewN x n1))
  have B1 := Lib.hid (bdrewB B0.out n1)
  generalize x.drewN n1 = x1 at *
  go_wp2_with fail
  refine (AI.out _).mono ?_
  rintro e1 w1 ⟨rfl, n2, rfl⟩
  have A2 := Lib.hid (A1.out.step (below_drewN x1 n2))
  have B2 := Lib.hid (bdrewB B1.out n2)
  generalize x1.drewN n2 = x2 at *
  go_upto_region 10 with fail
  have A3 := Lib.hid (A2.out.alloc (Obj.cells #[.int .u8 4, .bool false, .string ⟨#[]⟩, .int .i64 0, .int .i64 (((b : Int) + 1) + 3)] 29))
  have N3 := Lib.hid (CellsAt.new x2 [.int .u8 4, .bool false, .string ⟨#[]⟩, .int .i64 0, .int .i64 (((b : Int) + 1) + 3)] 29)
  have B3 := Lib.hid (B2.out.alloc B2.out.size (Obj.cells #[.int .u8 4, .bool false, .string ⟨#[]⟩, .int .i64 0, .int .i64 (((b : Int) + 1) + 3)] 29))
  have hl : w.heap.size < x2.heap.size := A2.out.lt
  generalize hX : x2.alloc (Obj.cells #[.int .u8 4, .bool false, .string ⟨#[]⟩, .int .i64 0, .int .i64 (((b : Int) + 1) + 3)] 29) = x3 at *
  clear hX
  have n0 := N3.out.cell 0 _ rfl
  have nf := N3.out.free 0
  have N4 := Lib.hid (N3.out.set 0 (.int .u8 2) (by simp))
  have A4 := Lib.hid (A3.out.other (show x2.heap.size ≠ w.heap.size by omega) 0 (.int .u8 2))
  have B4 := Lib.hid (B3.out.setCell (p := ⟨x2.heap.size, 0, none⟩) (by simp; omega) (.int .u8 2))
  go_upto_region 12 with fail
  generalize hX : x3.setCell ⟨x2.heap.size, 0, none⟩ (.int .u8 2) = x4 at *
  clear hX n0 nf
  go_wp2_with fail
  refine (AY.out _).mono ?_
  rintro e1 w1 ⟨rfl, n5, rfl⟩
  have A5 := Lib.hid (A4.out.step (below_drewN x4 n5))
  have N5 := Lib.hid (N4.out.step (below_drewN x4 n5))
  have B5 := Lib.hid (bdrewB B4.out n5)
  generalize x4.drewN n5 = x5 at *
  have N6 := N5
  have A6 := A5
  have B6 := B5
  clear A5 B5
  have m0 := N6.out.cell 0 _ rfl
  have m1 := N6.out.cell 1 _ rfl
  have m2 := N6.out.cell 2 _ rfl
  have m3 := N6.out.cell 3 _ rfl
  have m4 := N6.out.cell 4 _ rfl
  have a0 := A6.out.cell 0 _ rfl
  have f0 := A6.out.free 0
  have a1 := A6.out.cell 1 _ rfl
  have f1 := A6.out.free 1
  have a2 := A6.out.cell 2 _ rfl
  have f2 := A6.out.free 2
  have a3 := A6.out.cell 3 _ rfl
  have f3 := A6.out.free 3
  have a4 := A6.out.cell 4 _ rfl
  have f4 := A6.out.free 4
  go_wp2_with fail
  exact genR_end _ _ w _ _ _ _ _ rfl rfl A6.out B6.out

set_option maxHeartbeats 1600000 in
theorem genR_neg_infinity (s : ByteArray) (b : Nat) (w : World) (hs : s.size ≤ 140737488351232) (hb : b < s.size) (h1 : s[b] = 45)
    (SC : Hid (∀ W, Calls Tryd.prog 50 #[.string s] W (Same W (.int .i64 (b : Int)))))
    (AN : Hid (∀ W, Calls Tryd.prog 51 #[.string s, .int .i64 ((b : Int) + 1), .string ⟨#[110, 97, 110]⟩] W (BeginsPost W false)))
    (AI : Hid (∀ W, Calls Tryd.prog 51 #[.string s, .int .i64 ((b : Int) + 1), .string ⟨#[105, 110, 102]⟩] W (BeginsPost W true)))
    (AY : Hid (∀ W, Calls Tryd.prog 51 #[.string s, .int .i64 ((b : Int) + 1), .string ⟨#[105, 110, 102, 105, 110, 105, 116, 121]⟩] W (BeginsPost W true)))
    : Calls Tryd.prog 26 #[.string s] w (RetBelow w (.agg #[.int .u8 2, .bool false, .string ⟨#[]⟩, .int .i64 0, .int .i64 (((b : Int) + 1) + 8)])) := by
  have t2 : ((s[b].toNat : Int) == 45) = true := by rw [h1]; rfl
  clear h1
  have A0 := Lib.hid (CellsAt.new w [.int .u8 0, .bool false, .string ⟨#[]⟩, .int .i64 0, .int .i64 0] 29)
  have B0 := Lib.hid ((Below.refl w.heap.size w).alloc (Nat.le_refl _) (Obj.cells #[.int .u8 0, .bool false, .string ⟨#[]⟩, .int .i64 0, .int .i64 0] 29))
  go_enter Tryd.func26, Tryd.ntmps26
  go_upto_region 1 with fail
  generalize hX : w.alloc (Obj.cells #[.int .u8 0, .bool false, .string ⟨#[]⟩, .int .i64 0, .int .i64 0] 29) = x at *
  clear hX
  go_wp2_with fail
  refine (SC.out _).mono ?_
  rintro e1 w1 ⟨rfl, rfl⟩
  go_wp2_with fail
  refine (AN.out _).mono ?_
  rintro e1 w1 ⟨rfl, n1, rfl⟩
  have A1 := Lib.hid (A0.out.step (below_drewN x n1))
  have B1 := Lib.hid (bdrewB B0.out n1)
  generalize x.drewN n1 = x1 at *
  go_wp2_with fail
  refine (AI.out _).mono ?_
  rintro e1 w1 ⟨rfl, n2, rfl⟩
  have A2 := Lib.hid (A1.out.step (below_drewN x1 n2))
  have B2 := Lib.hid (bdrewB B1.out n2)
  generalize x1.drewN n2 = x2 at *
  go_upto_region 10 with fail
  have A3 := Lib.hid (A2.out.alloc (Obj.cells #[.int .u8 4, .bool false, .string ⟨#[]⟩, .int .i64 0, .int .i64 (((b : Int) + 1) + 3)] 29))
  have N3 := Lib.hid (CellsAt.new x2 [.int .u8 4, .bool false, .string ⟨#[]⟩, .int .i64 0, .int .i64 (((b : Int) + 1) + 3)] 29)
  have B3 := Lib.hid (B2.out.alloc B2.out.size (Obj.cells #[.int .u8 4, .bool false, .string ⟨#[]⟩, .int .i64 0, .int .i64 (((b : Int) + 1) + 3)] 29))
  have hl : w.heap.size < x2.heap.size := A2.out.lt
  generalize hX : x2.alloc (Obj.cells #[.int .u8 4, .bool false, .string ⟨#[]⟩, .int .i64 0, .int .i64 (((b : Int) + 1) + 3)] 29) = x3 at *
  clear hX
  have n0 := N3.out.cell 0 _ rfl
  have nf := N3.out.free 0
  have N4 := Lib.hid (N3.out.set 0 (.int .u8 2) (by simp))
  have A4 := Lib.hid (A3.out.other (show x2.heap.size ≠ w.heap.size by omega) 0 (.int .u8 2))
  have B4 := Lib.hid (B3.out.setCell (p := ⟨x2.heap.size, 0, none⟩) (by simp; omega) (.int .u8 2))
  go_upto_region 12 with fail
  generalize hX : x3.setCell ⟨x2.heap.size, 0, none⟩ (.int .u8 2) = x4 at *
  clear hX n0 nf
  go_wp2_with fail
  refine (AY.out _).mono ?_
  rintro e1 w1 ⟨rfl, n5, rfl⟩
  have A5 := Lib.hid (A4.out.step (below_drewN x4 n5))
  have N5 := Lib.hid (N4.out.step (below_drewN x4 n5))
  have B5 := Lib.hid (bdrewB B4.out n5)
  generalize x4.drewN n5 = x5 at *
  have n4 := N5.out.cell 4 _ rfl
  have nf := N5.out.free 4
  have N6 := Lib.hid (N5.out.set 4 (.int .i64 (((b : Int) + 1) + 8)) (by simp))
  have A6 := Lib.hid (A5.out.other (show x2.heap.size ≠ w.heap.size by omega) 4 (.int .i64 (((b : Int) + 1) + 8)))
  have B6 := Lib.hid (B5.out.setCell (p := ⟨x2.heap.size, 4, none⟩) (by simp; omega) (.int .i64 (((b : Int) + 1) + 8)))
  go_upto_region 14 with fail
  generalize hX : x5.setCell ⟨x2.heap.size, 4, none⟩ (.int .i64 (((b : Int) + 1) + 8)) = x6 at *
  clear hX n4 nf
  have m0 := N6.out.cell 0 _ rfl
  have m1 := N6.out.cell 1 _ rfl
  have m2 := N6.out.cell 2 _ rfl
  have m3 := N6.out.cell 3 _ rfl
  have m4 := N6.out.cell 4 _ rfl
  have a0 := A6.out.cell 0 _ rfl
  have f0 := A6.out.free 0
  have a1 := A6.out.cell 1 _ rfl
  have f1 := A6.out.free 1
  have a2 := A6.out.cell 2 _ rfl
  have f2 := A6.out.free 2
  have a3 := A6.out.cell 3 _ rfl
  have f3 := A6.out.free 3
  have a4 := A6.out.cell 4 _ rfl
  have f4 := A6.out.free 4
  go_wp2_with fail
  exact genR_end _ _ w _ _ _ _ _ rfl rfl A6.out B6.out

set_option maxHeartbeats 1600000 in
theorem genR_neg_none (s : ByteArray) (b : Nat) (w : World) (hs : s.size ≤ 140737488351232) (hb : b < s.size) (h1 : s[b] = 45)
    (SC : Hid (∀ W, Calls Tryd.prog 50 #[.string s] W (Same W (.int .i64 (b : Int)))))
    (AN : Hid (∀ W, Calls Tryd.prog 51 #[.string s, .int .i64 ((b : Int) + 1), .string ⟨#[110, 97, 110]⟩] W (BeginsPost W false)))
    (AI : Hid (∀ W, Calls Tryd.prog 51 #[.string s, .int .i64 ((b : Int) + 1), .string ⟨#[105, 110, 102]⟩] W (BeginsPost W false)))
    (PC : Hid (∀ W, Calls Tryd.prog 52 #[.string s, .int .i64 ((b : Int) + 1)] W (Same W (.tuple #[.string ⟨#[]⟩, .int .i64 0, .int .i64 (-1)]))))
    : Calls Tryd.prog 26 #[.string s] w (RetBelow w (.agg #[.int .u8 0, .bool false, .string ⟨#[]⟩, .int .i64 0, .int .i64 0])) := by
  have t2 : ((s[b].toNat : Int) == 45) = true := by rw [h1]; rfl
  clear h1
  have A0 := Lib.hid (CellsAt.new w [.int .u8 0, .bool false, .string ⟨#[]⟩, .int .i64 0, .int .i64 0] 29)
  have B0 := Lib.hid ((Below.refl w.heap.size w).alloc (Nat.le_refl _) (Obj.cells #[.int .u8 0, .bool false, .string ⟨#[]⟩, .int .i64 0, .int .i64 0] 29))
  go_enter Tryd.func26, Tryd.ntmps26
  go_upto_region 1 with fail
  generalize hX : w.alloc (Obj.cells #[.int .u8 0, .bool false, .string ⟨#[]⟩, .int .i64 0, .int .i64 0] 29) = x at *
  clear hX
  go_wp2_with fail
  refine (SC.out _).mono ?_
  rintro e1 w1 ⟨rfl, rfl⟩
  go_wp2_with fail
  refine (AN.out _).mono ?_
  rintro e1 w1 ⟨rfl, n1, rfl⟩
  have A1 := Lib.hid (A0.out.step (below_drewN x n1))
  have B1 := Lib.hid (bdrewB B0.out n1)
  generalize x.drewN n1 = x1 at *
  go_wp2_with fail
  refine (AI.out _).mono ?_
  rintro e1 w1 ⟨rfl, n2, rfl⟩
  have A2 := Lib.hid (A1.out.step (below_drewN x1 n2))
  have B2 := Lib.hid (bdrewB B1.out n2)
  generalize x1.drewN n2 = x2 at *
  go_wp2_with fail
  refine (PC.out _).mono ?_
  rintro e1 w1 ⟨rfl, rfl⟩
  have a0 := A2.out.cell 0 _ rfl
  have f0 := A2.out.free 0
  have a1 := A2.out.cell 1 _ rfl
  have f1 := A2.out.free 1
  have a2 := A2.out.cell 2 _ rfl
  have f2 := A2.out.free 2
  have a3 := A2.out.cell 3 _ rfl
  have f3 := A2.out.free 3
  have a4 := A2.out.cell 4 _ rfl
  have f4 := A2.out.free 4
  go_wp2_with fail
  exact genR_end _ _ w _ _ _ _ _ rfl rfl A2.out B2.out

set_option maxHeartbeats 1600000 in
theorem genR_neg_num (s : ByteArray) (b : Nat) (w : World) (hs : s.size ≤ 140737488351232) (hb : b < s.size) (h1 : s[b] = 45)
    (SC : Hid (∀ W, Calls Tryd.prog 50 #[.string s] W (Same W (.int .i64 (b : Int)))))
    (AN : Hid (∀ W, Calls Tryd.prog 51 #[.string s, .int .i64 ((b : Int) + 1), .string ⟨#[110, 97, 110]⟩] W (BeginsPost W false)))
    (AI : Hid (∀ W, Calls Tryd.prog 51 #[.string s, .int .i64 ((b : Int) + 1), .string ⟨#[105, 110, 102]⟩] W (BeginsPost W false)))
    (D nd : ByteArray) (pt en bh : Nat) (e np : Int) (nb : Bool) (hpt : pt ≤ 140737488351232) (he : -1099511627776 ≤ e ∧ e ≤ 1099511627776)
    (PC : Hid (∀ W, Calls Tryd.prog 52 #[.string s, .int .i64 ((b : Int) + 1)] W (Same W (.tuple #[.string D, .int .i64 pt, .int .i64 en]))))
    (EC : Hid (∀ W, Calls Tryd.prog 53 #[.string s, .int .i64 en] W (Same W (.tuple #[.int .i64 e, .int .i64 bh]))))
    (NC : Hid (∀ W, Calls Tryd.prog 54 #[.agg #[.bool true, .string D, .int .i64 (pt + e), .int .i64 0]] W (RetBelow W (.agg #[.bool nb, .string nd, .int .i64 np, .int .i64 0]))))
    : Calls Tryd.prog 26 #[.string s] w (RetBelow w (.agg #[.int .u8 3, .bool nb, .string nd, .int .i64 np, .int .i64 bh])) := by
  have t2 : ((s[b].toNat : Int) == 45) = true := by rw [h1]; rfl
  clear h1
  obtain ⟨he1, he2⟩ := he
  have A0 := Lib.hid (CellsAt.new w [.int .u8 0, .bool false, .string ⟨#[]⟩, .int .i64 0, .int .i64 0] 29)
  have B0 := Lib.hid ((Below.refl w.heap.size w).alloc (Nat.le_refl _) (Obj.cells #[.int .u8 0, .bool false, .string ⟨#[]⟩, .int .i64 0, .int .i64 0] 29))
  go_enter Tryd.func26, Tryd.ntmps26
  go_upto_region 1 with fail
  generalize hX : w.alloc (Obj.cells #[.int .u8 0, .bool false, .string ⟨#[]⟩, .int .i64 0, .int .i64 0] 29) = x at *
  clear hX
  go_wp2_with fail
  refine (SC.out _).mono ?_
  rintro e1 w1 ⟨rfl, rfl⟩
  go_wp2_with fail
  refine (AN.out _).mono ?_
  rintro e1 w1 ⟨rfl, n1, rfl⟩
  have A1 := Lib.hid (A0.out.step (below_drewN x n1))
  have B1 := Lib.hid (bdrewB B0.out n1)
  generalize x.drewN n1 = x1 at *
  go_wp2_with fail
  refine (AI.out _).mono ?_
  rintro e1 w1 ⟨rfl, n2, rfl⟩
  have A2 := Lib.hid (A1.out.step (below_drewN x1 n2))
  have B2 := Lib.hid (bdrewB B1.out n2)
  generalize x1.drewN n2 = x2 at *
  go_wp2_with fail
  refine (PC.out _).mono ?_
  rintro e1 w1 ⟨rfl, rfl⟩
  go_wp2_with fail
  refine (EC.out _).mono ?_
  rintro e1 w1 ⟨rfl, rfl⟩
  go_wp2_with fail
  refine (NC.out _).mono ?_
  rintro e1 w3 ⟨rfl, hb3⟩
  have A3 := Lib.hid ((A2.out.step hb3).alloc (Obj.cells #[.bool nb, .string nd, .int .i64 np, .int .i64 0] 77))
  have N3 := Lib.hid (CellsAt.new w3 [.bool nb, .string nd, .int .i64 np, .int .i64 0] 77)
  have B3 := Lib.hid ((B2.out.trans (hb3.mono B2.out.size)).alloc (Nat.le_trans B2.out.size hb3.size) (Obj.cells #[.bool nb, .string nd, .int .i64 np, .int .i64 0] 77))
  clear hb3
  go_upto_region 20 with fail
  generalize hX : w3.alloc (Obj.cells #[.bool nb, .string nd, .int .i64 np, .int .i64 0] 77) = x3 at *
  clear hX
  have m0 := N3.out.cell 0 _ rfl
  have m1 := N3.out.cell 1 _ rfl
  have m2 := N3.out.cell 2 _ rfl
  have a0 := A3.out.cell 0 _ rfl
  have f0 := A3.out.free 0
  have a1 := A3.out.cell 1 _ rfl
  have f1 := A3.out.free 1
  have a2 := A3.out.cell 2 _ rfl
  have f2 := A3.out.free 2
  have a3 := A3.out.cell 3 _ rfl
  have f3 := A3.out.free 3
  have a4 := A3.out.cell 4 _ rfl
  have f4 := A3.out.free 4
  go_wp2_with fail
  exact genR_end _ _ w _ _ _ _ _ rfl rfl A3.out B3.out

set_option maxHeartbeats 1600000 in
theorem genR_plus_nan (s : ByteArray) (b : Nat) (w : World) (hs : s.size ≤ 140737488351232) (hb : b < s.size) (h1 : s[b] = 43)
    (SC : Hid (∀ W, Calls Tryd.prog 50 #[.string s] W (Same W (.int .i64 (b : Int)))))
    (AN : Hid (∀ W, Calls Tryd.prog 51 #[.string s, .int .i64 ((b : Int) + 1), .string ⟨#[110, 97, 110]⟩] W (BeginsPost W true)))
    : Calls Tryd.prog 26 #[.string s] w (RetBelow w (.agg #[.int .u8 1, .bool false, .string ⟨#[]⟩, .int .i64 0, .int .i64 (((b : Int) + 1) + 3)])) := by
  have t2 : ((s[b].toNat : Int) == 43) = true := by rw [h1]; rfl
  have t3 : ((s[b].toNat : Int) == 45) = false := by rw [h1]; rfl
  clear h1
  have A0 := Lib.hid (CellsAt.new w [.int .u8 0, .bool false, .string ⟨#[]⟩, .int .i64 0, .int .i64 0] 29)
  have B0 := Lib.hid ((Below.refl w.heap.size w).alloc (Nat.le_refl _) (Obj.cells #[.int .u8 0, .bool false, .string ⟨#[]⟩, .int .i64 0, .int .i64 0] 29))
  go_enter Tryd.func26, Tryd.ntmps26
  go_upto_region 1 with fail
  generalize hX : w.alloc (Obj.cells #[.int .u8 0, .bool false, .string ⟨#[]⟩, .int .i64 0, .int .i64 0] 29) = x at *
  clear hX
  go_wp2_with fail
  refine (SC.out _).mono ?_
  rintro e1 w1 ⟨rfl, rfl⟩
  go_wp2_with fail
  refine (AN.out _).mono ?_
  rintro e1 w1 ⟨rfl, n1, rfl⟩
  have A1 := Lib.hid (A0.out.step (below_drewN x n1))
  have B1 := Lib.hid (bdrewB B0.out n1)
  generalize x.drewN n1 = x1 at *
  have a0 := A1.out.cell 0 _ rfl
  have f0 := A1.out.free 0
  have a1 := A1.out.cell 1 _ rfl
  have f1 := A1.out.free 1
  have a2 := A1.out.cell 2 _ rfl
  have f2 := A1.out.free 2
  have a3 := A1.out.cell 3 _ rfl
  have f3 := A1.out.free 3
  have a4 := A1.out.cell 4 _ rfl
  have f4 := A1.out.free 4
  go_wp2_with fail
  exact genR_end _ _ w _ _ _ _ _ rfl rfl A1.out B1.out

set_option maxHeartbeats 1600000 in
theorem genR_plus_inf (s : ByteArray) (b : Nat) (w : World) (hs : s.size ≤ 140737488351232) (hb : b < s.size) (h1 : s[b] = 43)
    (SC : Hid (∀ W, Calls Tryd.prog 50 #[.string s] W (Same W (.int .i64 (b : Int)))))
    (AN : Hid (∀ W, Calls Tryd.prog 51 #[.string s, .int .i64 ((b : Int) + 1), .string ⟨#[110, 97, 110]⟩] W (BeginsPost W false)))
    (AI : Hid (∀ W, Calls Tryd.prog 51 #[.string s, .int .i64 ((b : Int) + 1), .string ⟨#[105, 110, 102]⟩] W (BeginsPost W true)))
    (AY : Hid (∀ W, Calls Tryd.prog 51 #[.string s, .int .i64 ((b : Int) + 1), .string ⟨#[105, 110, 102, 105, 110, 105, 116, 121]⟩] W (BeginsPost W false)))
    : Calls Tryd.prog 26 #[.string s] w (RetBelow w (.agg #[.int .u8 4, .bool false, .string ⟨#[]⟩, .int .i64 0, .int .i64 (((b : Int) + 1) + 3)])) := by
  have t2 : ((s[b].toNat : Int) == 43) = true := by rw [h1]; rfl
  have t3 : ((s[b].toNat : Int) == 45) = false := by rw [h1]; rfl
  clear h1
  have A0 := Lib.hid (CellsAt.new w [.int .u8 0, .bool false, .string ⟨#[]⟩, .int .i64 0, .int .i64 0] 29)
  have B0 := Lib.hid ((Below.refl w.heap.size w).alloc (Nat.le_refl _) (Obj.cells #[.int .u8 0, .bool false, .string ⟨#[]⟩, .int .i64 0, .int .i64 0] 29))
  go_enter Tryd.func26, Tryd.ntmps26
  go_upto_region 1 with fail
  generalize hX : w.alloc (Obj.cells #[.int .u8 0, .bool false, .string ⟨#[]⟩, .int .i64 0, .int .i64 0] 29) = x at *
  clear hX
  go_wp2_with fail
  refine (SC.out _).mono ?_
  rintro e1 w1 ⟨rfl, rfl⟩
  go_wp2_with fail
  refine (AN.out _).mono ?_
  rintro e1 w1 ⟨rfl, n1, rfl⟩
  have A1 := Lib.hid (A0.out.step (below_drewN x n1))
  have B1 := Lib.hid (bdrewB B0.out n1)
  generalize x.drewN n1 = x1 at *
  go_wp2_with fail
  refine (AI.out _).mono ?_
  rintro e1 w1 ⟨rfl, n2, rfl⟩
  have A2 := Lib.hid (A1.out.step (below_drewN x1 n2))
  have B2 := Lib.hid (bdrewB B1.out n2)
  generalize x1.drewN n2 = x2 at *
  go_upto_region 10 with fail
  have A3 := Lib.hid (A2.out.alloc (Obj.cells #[.int .u8 4, .bool false, .string ⟨#[]⟩, .int .i64 0, .int .i64 (((b : Int) + 1) + 3)] 29))
  have N3 := Lib.hid (CellsAt.new x2 [.int .u8 4, .bool false, .string ⟨#[]⟩, .int .i64 0, .int .i64 (((b : Int) + 1) + 3)] 29)
  have B3 := Lib.hid (B2.out.alloc B2.out.size (Obj.cells #[.int .u8 4, .bool false, .string ⟨#[]⟩, .int .i64 0, .int .i64 (((b : Int) + 1) + 3)] 29))
  have hl : w.heap.size < x2.heap.size := A2.out.lt
  generalize hX : x2.alloc (Obj.cells #[.int .u8 4, .bool false, .string ⟨#[]⟩, .int .i64 0, .int .i64 (((b : Int) + 1) + 3)] 29) = x3 at *
  clear hX
  have N4 := N3
  have A4 := A3
  have B4 := B3
  clear N3 A3 B3
  generalize hX : x3 = x4 at *
  clear hX
  go_wp2_with fail
  refine (AY.out _).mono ?_
  rintro e1 w1 ⟨rfl, n5, rfl⟩
  have A5 := Lib.hid (A4.out.step (below_drewN x4 n5))
  have N5 := Lib.hid (N4.out.step (below_drewN x4 n5))
  have B5 := Lib.hid (bdrewB B4.out n5)
  generalize x4.drewN n5 = x5 at *
  have N6 := N5
  have A6 := A5
  have B6 := B5
  clear A5 B5
  have m0 := N6.out.cell 0 _ rfl
  have m1 := N6.out.cell 1 _ rfl
  have m2 := N6.out.cell 2 _ rfl
  have m3 := N6.out.cell 3 _ rfl
  have m4 := N6.out.cell 4 _ rfl
  have a0 := A6.out.cell 0 _ rfl
  have f0 := A6.out.free 0
  have a1 := A6.out.cell 1 _ rfl
  have f1 := A6.out.free 1
  have a2 := A6.out.cell 2 _ rfl
  have f2 := A6.out.free 2
  have a3 := A6.out.cell 3 _ rfl
  have f3 := A6.out.free 3
  have a4 := A6.out.cell 4 _ rfl
  have f4 := A6.out.free 4
  go_wp2_with fail
  exact genR_end _ _ w _ _ _ _ _ rfl rfl A6.out B6.out

set_option maxHeartbeats 1600000 in
theorem genR_plus_infinity (s : ByteArray) (b : Nat) (w : World) (hs : s.size ≤ 140737488351232) (hb : b < s.size) (h1 : s[b] = 43)
    (SC : Hid (∀ W, Calls Tryd.prog 50 #[.string s] W (Same W (.int .i64 (b : Int)))))
    (AN : Hid (∀ W, Calls Tryd.prog 51 #[.string s, .int .i64 ((b : Int) + 1), .string ⟨#[110, 97, 110]⟩] W (BeginsPost W false)))
    (AI : Hid (∀ W, Calls Tryd.prog 51 #[.string s, .int .i64 ((b : Int) + 1), .string ⟨#[105, 110, 102]⟩] W (BeginsPost W true)))
    (AY : Hid (∀ W, Calls Tryd.prog 51 #[.string s, .int .i64 ((b : Int) + 1), .string ⟨#[105, 110, 102, 105, 110, 105, 116, 121]⟩] W (BeginsPost W true)))
    : Calls Tryd.prog 26 #[.string s] w (RetBelow w (.agg #[.int .u8 4, .bool false, .string ⟨#[]⟩, .int .i64 0, .int .i64 (((b : Int) + 1) + 8)])) := by
  have t2 : ((s[b].toNat : Int) == 43) = true := by rw [h1]; rfl
  have t3 : ((s[b].toNat : Int) == 45) = false := by rw [h1]; rfl
  clear h1
  have A0 := Lib.hid (CellsAt.new w [.int .u8 0, .bool false, .string ⟨#[]⟩, .int .i64 0, .int .i64 0] 29)
  have B0 := Lib.hid ((Below.refl w.heap.size w).alloc (Nat.le_refl _) (Obj.cells #[.int .u8 0, .bool false, .string ⟨#[]⟩, .int .i64 0, .int .i64 0] 29))
  go_enter Tryd.func26, Tryd.ntmps26
  go_upto_region 1 with fail
  generalize hX : w.alloc (Obj.cells #[.int .u8 0, .bool false, .string ⟨#[]⟩, .int .i64 0, .int .i64 0] 29) = x at *
  clear hX
  go_wp2_with fail
  refine (SC.out _).mono ?_
  rintro e1 w1 ⟨rfl, rfl⟩
  go_wp2_with fail
  refine (AN.out _).mono ?_
  rintro e1 w1 ⟨rfl, n1, rfl⟩
  have A1 := Lib.hid (A0.out.step (below_drewN x n1))
  have B1 := Lib.hid (bdrewB B0.out n1)
  generalize x.drewN n1 = x1 at *
  go_wp2_with fail
  refine (AI.out _).mono ?_
  rintro e1 w1 ⟨rfl, n2, rfl⟩
  have A2 := Lib.hid (A1.out.step (below_drewN x1 n2))
  have B2 := Lib.hid (bdrewB B1.out n2)
  generalize x1.drewN n2 = x2 at *
  go_upto_region 10 with fail
  have A3 := Lib.hid (A2.out.alloc (Obj.cells #[.int .u8 4, .bool false, .string ⟨#[]⟩, .int .i64 0, .int .i64 (((b : Int) + 1) + 3)] 29))
  have N3 := Lib.hid (CellsAt.new x2 [.int .u8 4, .bool false, .string ⟨#[]⟩, .int .i64 0, .int .i64 (((b : Int) + 1) + 3)] 29)
  have B3 := Lib.hid (B2.out.alloc B2.out.size (Obj.cells #[.int .u8 4, .bool false, .string ⟨#[]⟩, .int .i64 0, .int .i64 (((b : Int) + 1) + 3)] 29))
  have hl : w.heap.size < x2.heap.size := A2.out.lt
  generalize hX : x2.alloc (Obj.cells #[.int .u8 4, .bool false, .string ⟨#[]⟩, .int .i64 0, .int .i64 (((b : Int) + 1) + 3)] 29) = x3 at *
  clear hX
  have N4 := N3
  have A4 := A3
  have B4 := B3
  clear N3 A3 B3
  generalize hX : x3 = x4 at *
  clear hX
  go_wp2_with fail
  refine (AY.out _).mono ?_
  rintro e1 w1 ⟨rfl, n5, rfl⟩
  have A5 := Lib.hid (A4.out.step (below_drewN x4 n5))
  have N5 := Lib.hid (N4.out.step (below_drewN x4 n5))
  have B5 := Lib.hid (bdrewB B4.out n5)
  generalize x4.drewN n5 = x5 at *
  have n4 := N5.out.cell 4 _ rfl
  have nf := N5.out.free 4
  have N6 := Lib.hid (N5.out.set 4 (.int .i64 (((b : Int) + 1) + 8)) (by simp))
  have A6 := Lib.hid (A5.out.other (show x2.heap.size ≠ w.heap.size by omega) 4 (.int .i64 (((b : Int) + 1) + 8)))
  have B6 := Lib.hid (B5.out.setCell (p := ⟨x2.heap.size, 4, none⟩) (by simp; omega) (.int .i64 (((b : Int) + 1) + 8)))
  go_upto_region 14 with fail
  generalize hX : x5.setCell ⟨x2.heap.size, 4, none⟩ (.int .i64 (((b : Int) + 1) + 8)) = x6 at *
  clear hX n4 nf
  have m0 := N6.out.cell 0 _ rfl
  have m1 := N6.out.cell 1 _ rfl
  have m2 := N6.out.cell 2 _ rfl
  have m3 := N6.out.cell 3 _ rfl
  have m4 := N6.out.cell 4 _ rfl
  have a0 := A6.out.cell 0 _ rfl
  have f0 := A6.out.free 0
  have a1 := A6.out.cell 1 _ rfl
  have f1 := A6.out.free 1
  have a2 := A6.out.cell 2 _ rfl
  have f2 := A6.out.free 2
  have a3 := A6.out.cell 3 _ rfl
  have f3 := A6.out.free 3
  have a4 := A6.out.cell 4 _ rfl
  have f4 := A6.out.free 4
  go_wp2_with fail
  exact genR_end _ _ w _ _ _ _ _ rfl rfl A6.out B6.out

set_option maxHeartbeats 1600000 in
theorem genR_plus_none (s : ByteArray) (b : Nat) (w : World) (hs : s.size ≤ 140737488351232) (hb : b < s.size) (h1 : s[b] = 43)
    (SC : Hid (∀ W, Calls Tryd.prog 50 #[.string s] W (Same W (.int .i64 (b : Int)))))
    (AN : Hid (∀ W, Calls Tryd.prog 51 #[.string s, .int .i64 ((b : Int) + 1), .string ⟨#[110, 97, 110]⟩] W (BeginsPost W false)))
    (AI : Hid (∀ W, Calls Tryd.prog 51 #[.string s, .int .i64 ((b : Int) + 1), .string ⟨#[105, 110, 102]⟩] W (BeginsPost W false)))
    (PC : Hid (∀ W, Calls Tryd.prog 52 #[.string s, .int .i64 ((b : Int) + 1)] W (Same W (.tuple #[.string ⟨#[]⟩, .int .i64 0, .int .i64 (-1)]))))
    : Calls Tryd.prog 26 #[.string s] w (RetBelow w (.agg #[.int .u8 0, .bool false, .string ⟨#[]⟩, .int .i64 0, .int .i64 0])) := by
  have t2 : ((s[b].toNat : Int) == 43) = true := by rw [h1]; rfl
  have t3 : ((s[b].toNat : Int) == 45) = false := by rw [h1]; rfl
  clear h1
  have A0 := Lib.hid (CellsAt.new w [.int .u8 0, .bool false, .string ⟨#[]⟩, .int .i64 0, .int .i64 0] 29)
  have B0 := Lib.hid ((Below.refl w.heap.size w).alloc (Nat.le_refl _) (Obj.cells #[.int .u8 0, .bool false, .string ⟨#[]⟩, .int .i64 0, .int .i64 0] 29))
  go_enter Tryd.func26, Tryd.ntmps26
  go_upto_region 1 with fail
  generalize hX : w.alloc (Obj.cells #[.int .u8 0, .bool false, .string ⟨#[]⟩, .int .i64 0, .int .i64 0] 29) = x at *
  clear hX
  go_wp2_with fail
  refine (SC.out _).mono ?_
  rintro e1 w1 ⟨rfl, rfl⟩
  go_wp2_with fail
  refine (AN.out _).mono ?_
  rintro e1 w1 ⟨rfl, n1, rfl⟩
  have A1 := Lib.hid (A0.out.step (below_drewN x n1))
  have B1 := Lib.hid (bdrewB B0.out n1)
  generalize x.drewN n1 = x1 at *
  go_wp2_with fail
  refine (AI.out _).mono ?_
  rintro e1 w1 ⟨rfl, n2, rfl⟩
  have A2 := Lib.hid (A1.out.step (below_drewN x1 n2))
  have B2 := Lib.hid (bdrewB B1.out n2)
  generalize x1.drewN n2 = x2 at *
  go_wp2_with fail
  refine (PC.out _).mono ?_
  rintro e1 w1 ⟨rfl, rfl⟩
  have a0 := A2.out.cell 0 _ rfl
  have f0 := A2.out.free 0
  have a1 := A2.out.cell 1 _ rfl
  have f1 := A2.out.free 1
  have a2 := A2.out.cell 2 _ rfl
  have f2 := A2.out.free 2
  have a3 := A2.out.cell 3 _ rfl
  have f3 := A2.out.free 3
  have a4 := A2.out.cell 4 _ rfl
  have f4 := A2.out.free 4
  go_wp2_with fail
  exact genR_end _ _ w _ _ _ _ _ rfl rfl A2.out B2.out

set_option maxHeartbeats 1600000 in
theorem genR_plus_num (s : ByteArray) (b : Nat) (w : World) (hs : s.size ≤ 140737488351232) (hb : b < s.size) (h1 : s[b] = 43)
    (SC : Hid (∀ W, Calls Tryd.prog 50 #[.string s] W (Same W (.int .i64 (b : Int)))))
    (AN : Hid (∀ W, Calls Tryd.prog 51 #[.string s, .int .i64 ((b : Int) + 1), .string ⟨#[110, 97, 110]⟩] W (BeginsPost W false)))
    (AI : Hid (∀ W, Calls Tryd.prog 51 #[.string s, .int .i64 ((b : Int) + 1), .string ⟨#[105, 110, 102]⟩] W (BeginsPost W false)))
    (D nd : ByteArray) (pt en bh : Nat) (e np : Int) (nb : Bool) (hpt : pt ≤ 140737488351232) (he : -1099511627776 ≤ e ∧ e ≤ 1099511627776)
    (PC : Hid (∀ W, Calls Tryd.prog 52 #[.string s, .int .i64 ((b : Int) + 1)] W (Same W (.tuple #[.string D, .int .i64 pt, .int .i64 en]))))
    (EC : Hid (∀ W, Calls Tryd.prog 53 #[.string s, .int .i64 en] W (Same W (.tuple #[.int .i64 e, .int .i64 bh]))))
    (NC : Hid (∀ W, Calls Tryd.prog 54 #[.agg #[.bool false, .string D, .int .i64 (pt + e), .int .i64 0]] W (RetBelow W (.agg #[.bool nb, .string nd, .int .i64 np, .int .i64 0]))))
    : Calls Tryd.prog 26 #[.string s] w (RetBelow w (.agg #[.int .u8 3, .bool nb, .string nd, .int .i64 np, .int .i64 bh])) := by
  have t2 : ((s[b].toNat : Int) == 43) = true := by rw [h1]; rfl
  have t3 : ((s[b].toNat : Int) == 45) = false := by rw [h1]; rfl
  clear h1
  obtain ⟨he1, he2⟩ := he
  have A0 := Lib.hid (CellsAt.new w [.int .u8 0, .bool false, .string ⟨#[]⟩, .int .i64 0, .int .i64 0] 29)
  have B0 := Lib.hid ((Below.refl w.heap.size w).alloc (Nat.le_refl _) (Obj.cells #[.int .u8 0, .bool false, .string ⟨#[]⟩, .int .i64 0, .int .i64 0] 29))
  go_enter Tryd.func26, Tryd.ntmps26
  go_upto_region 1 with fail
  generalize hX : w.alloc (Obj.cells #[.int .u8 0, .bool false, .string ⟨#[]⟩, .int .i64 0, .int .i64 0] 29) = x at *
  clear hX
  go_wp2_with fail
  refine (SC.out _).mono ?_
  rintro e1 w1 ⟨rfl, rfl⟩
  go_wp2_with fail
  refine (AN.out _).mono ?_
  rintro e1 w1 ⟨rfl, n1, rfl⟩
  have A1 := Lib.hid (A0.out.step (below_drewN x n1))
  have B1 := Lib.hid (bdrewB B0.out n1)
  generalize x.drewN n1 = x1 at *
  go_wp2_with fail
  refine (AI.out _).mono ?_
  rintro e1 w1 ⟨rfl, n2, rfl⟩
  have A2 := Lib.hid (A1.out.step (below_drewN x1 n2))
  have B2 := Lib.hid (bdrewB B1.out n2)
  generalize x1.drewN n2 = x2 at *
  go_wp2_with fail
  refine (PC.out _).mono ?_
  rintro e1 w1 ⟨rfl, rfl⟩
  go_wp2_with fail
  refine (EC.out _).mono ?_
  rintro e1 w1 ⟨rfl, rfl⟩
  go_wp2_with fail
  refine (NC.out _).mono ?_
  rintro e1 w3 ⟨rfl, hb3⟩
  have A3 := Lib.hid ((A2.out.step hb3).alloc (Obj.cells #[.bool nb, .string nd, .int .i64 np, .int .i64 0] 77))
  have N3 := Lib.hid (CellsAt.new w3 [.bool nb, .string nd, .int .i64 np, .int .i64 0] 77)
  have B3 := Lib.hid ((B2.out.trans (hb3.mono B2.out.size)).alloc (Nat.le_trans B2.out.size hb3.size) (Obj.cells #[.bool nb, .string nd, .int .i64 np, .int .i64 0] 77))
  clear hb3
  go_upto_region 20 with fail
  generalize hX : w3.alloc (Obj.cells #[.bool nb, .string nd, .int .i64 np, .int .i64 0] 77) = x3 at *
  clear hX
  have m0 := N3.out.cell 0 _ rfl
  have m1 := N3.out.cell 1 _ rfl
  have m2 := N3.out.cell 2 _ rfl
  have a0 := A3.out.cell 0 _ rfl
  have f0 := A3.out.free 0
  have a1 := A3.out.cell 1 _ rfl
  have f1 := A3.out.free 1
  have a2 := A3.out.cell 2 _ rfl
  have f2 := A3.out.free 2
  have a3 := A3.out.cell 3 _ rfl
  have f3 := A3.out.free 3
  have a4 := A3.out.cell 4 _ rfl
  have f4 := A3.out.free 4
  go_wp2_with fail
  exact genR_end _ _ w _ _ _ _ _ rfl rfl A3.out B3.out

set_option maxHeartbeats 1600000 in
theorem genR_bare_nan (s : ByteArray) (b : Nat) (w : World) (hs : s.size ≤ 140737488351232) (hb : b < s.size) (t2 : ((s[b].toNat : Int) == 45) = false) (t3 : ((s[b].toNat : Int) == 43) = false)
    (SC : Hid (∀ W, Calls Tryd.prog 50 #[.string s] W (Same W (.int .i64 (b : Int)))))
    (AN : Hid (∀ W, Calls Tryd.prog 51 #[.string s, .int .i64 (b : Int), .string ⟨#[110, 97, 110]⟩] W (BeginsPost W true)))
    : Calls Tryd.prog 26 #[.string s] w (RetBelow w (.agg #[.int .u8 1, .bool false, .string ⟨#[]⟩, .int .i64 0, .int .i64 ((b : Int) + 3)])) := by
  have A0 := Lib.hid (CellsAt.new w [.int .u8 0, .bool false, .string ⟨#[]⟩, .int .i64 0, .int .i64 0] 29)
  have B0 := Lib.hid ((Below.refl w.heap.size w).alloc (Nat.le_refl _) (Obj.cells #[.int .u8 0, .bool false, .string ⟨#[]⟩, .int .i64 0, .int .i64 0] 29))
  go_enter Tryd.func26, Tryd.ntmps26
  go_upto_region 1 with fail
  generalize hX : w.alloc (Obj.cells #[.int .u8 0, .bool false, .string ⟨#[]⟩, .int .i64 0, .int .i64 0] 29) = x at *
  clear hX
  go_wp2_with fail
  refine (SC.out _).mono ?_
  rintro e1 w1 ⟨rfl, rfl⟩
  go_wp2_with fail
  refine (AN.out _).mono ?_
  rintro e1 w1 ⟨rfl, n1, rfl⟩
  have A1 := Lib.hid (A0.out.step (below_drewN x n1))
  have B1 := Lib.hid (bdrewB B0.out n1)
  generalize x.drewN n1 = x1 at *
  have a0 := A1.out.cell 0 _ rfl
  have f0 := A1.out.free 0
  have a1 := A1.out.cell 1 _ rfl
  have f1 := A1.out.free 1
  have a2 := A1.out.cell 2 _ rfl
  have f2 := A1.out.free 2
  have a3 := A1.out.cell 3 _ rfl
  have f3 := A1.out.free 3
  have a4 := A1.out.cell 4 _ rfl
  have f4 := A1.out.free 4
  go_wp2_with fail
  exact genR_end _ _ w _ _ _ _ _ rfl rfl A1.out B1.out

set_option maxHeartbeats 1600000 in
theorem genR_bare_inf (s : ByteArray) (b : Nat) (w : World) (hs : s.size ≤ 140737488351232) (hb : b < s.size) (t2 : ((s[b].toNat : Int) == 45) = false) (t3 : ((s[b].toNat : Int) == 43) = false)
    (SC : Hid (∀ W, Calls Tryd.prog 50 #[.string s] W (Same W (.int .i64 (b : Int)))))
    (AN : Hid (∀ W, Calls Tryd.prog 51 #[.string s, .int .i64 (b : Int), .string ⟨#[110, 97, 110]⟩] W (BeginsPost W false)))
    (AI : Hid (∀ W, Calls Tryd.prog 51 #[.string s, .int .i64 (b : Int), .string ⟨#[105, 110, 102]⟩] W (BeginsPost W true)))
    (AY : Hid (∀ W, Calls Tryd.prog 51 #[.string s, .int .i64 (b : Int), .string ⟨#[105, 110, 102, 105, 110, 105, 116, 121]⟩] W (BeginsPost W false)))
    : Calls Tryd.prog 26 #[.string s] w (RetBelow w (.agg #[.int .u8 4, .bool false, .string ⟨#[]⟩, .int .i64 0, .int .i64 ((b : Int) + 3)])) := by
  have A0 := Lib.hid (CellsAt.new w [.int .u8 0, .bool false, .string ⟨#[]⟩, .int .i64 0, .int .i64 0] 29)
  have B0 := Lib.hid ((Below.refl w.heap.size w).alloc (Nat.le_refl _) (Obj.cells #[.int .u8 0, .bool false, .string ⟨#[]⟩, .int .i64 0, .int .i64 0] 29))
  go_enter Tryd.func26, Tryd.ntmps26
  go_upto_region 1 with fail
  generalize hX : w.alloc (Obj.cells #[.int .u8 0, .bool false, .string ⟨#[]⟩, .int .i64 0, .int .i64 0] 29) = x at *
  clear hX
  go_wp2_with fail
  refine (SC.out _).mono ?_
  rintro e1 w1 ⟨rfl, rfl⟩
  go_wp2_with fail
  refine (AN.out _).mono ?_
  rintro e1 w1 ⟨rfl, n1, rfl⟩
  have A1 := Lib.hid (A0.out.step (below_drewN x n1))
  have B1 := Lib.hid (bdrewB B0.out n1)
  generalize x.drewN n1 = x1 at *
  go_wp2_with fail
  refine (AI.out _).mono ?_
  rintro e1 w1 ⟨rfl, n2, rfl⟩
  have A2 := Lib.hid (A1.out.step (below_drewN x1 n2))
  have B2 := Lib.hid (bdrewB B1.out n2)
  generalize x1.drewN n2 = x2 at *
  go_upto_region 10 with fail
  have A3 := Lib.hid (A2.out.alloc (Obj.cells #[.int .u8 4, .bool false, .string ⟨#[]⟩, .int .i64 0, .int .i64 ((b : Int) + 3)] 29))
  have N3 := Lib.hid (CellsAt.new x2 [.int .u8 4, .bool false, .string ⟨#[]⟩, .int .i64 0, .int .i64 ((b : Int) + 3)] 29)
  have B3 := Lib.hid (B2.out.alloc B2.out.size (Obj.cells #[.int .u8 4, .bool false, .string ⟨#[]⟩, .int .i64 0, .int .i64 ((b : Int) + 3)] 29))
  have hl : w.heap.size < x2.heap.size := A2.out.lt
  generalize hX : x2.alloc (Obj.cells #[.int .u8 4, .bool false, .string ⟨#[]⟩, .int .i64 0, .int .i64 ((b : Int) + 3)] 29) = x3 at *
  clear hX
  have N4 := N3
  have A4 := A3
  have B4 := B3
  clear N3 A3 B3
  generalize hX : x3 = x4 at *
  clear hX
  go_wp2_with fail
  refine (AY.out _).mono ?_
  rintro e1 w1 ⟨rfl, n5, rfl⟩
  have A5 := Lib.hid (A4.out.step (below_drewN x4 n5))
  have N5 := Lib.hid (N4.out.step (below_drewN x4 n5))
  have B5 := Lib.hid (bdrewB B4.out n5)
  generalize x4.drewN n5 = x5 at *
  have N6 := N5
  have A6 := A5
  have B6 := B5
  clear A5 B5
  have m0 := N6.out.cell 0 _ rfl
  have m1 := N6.out.cell 1 _ rfl
  have m2 := N6.out.cell 2 _ rfl
  have m3 := N6.out.cell 3 _ rfl
  have m4 := N6.out.cell 4 _ rfl
  have a0 := A6.out.cell 0 _ rfl
  have f0 := A6.out.free 0
  have a1 := A6.out.cell 1 _ rfl
  have f1 := A6.out.free 1
  have a2 := A6.out.cell 2 _ rfl
  have f2 := A6.out.free 2
  have a3 := A6.out.cell 3 _ rfl
  have f3 := A6.out.free 3
  have a4 := A6.out.cell 4 _ rfl
  have f4 := A6.out.free 4
  go_wp2_with fail
  exact genR_end _ _ w _ _ _ _ _ rfl rfl A6.out B6.out

set_option maxHeartbeats 1600000 in
theorem genR_bare_infinity (s : ByteArray) (b : Nat) (w : World) (hs : s.size ≤ 140737488351232) (hb : b < s.size) (t2 : ((s[b].toNat : Int) == 45) = false) (t3 : ((s[b].toNat : Int) == 43) = false)
    (SC : Hid (∀ W, Calls Tryd.prog 50 #[.string s] W (Same W (.int .i64 (b : Int)))))
    (AN : Hid (∀ W, Calls Tryd.prog 51 #[.string s, .int .i64 (b : Int), .string ⟨#[110, 97, 110]⟩] W (BeginsPost W false)))
    (AI : Hid (∀ W, Calls Tryd.prog 51 #[.string s, .int .i64 (b : Int), .string ⟨#[105, 110, 102]⟩] W (BeginsPost W true)))
    (AY : Hid (∀ W, Calls Tryd.prog 51 #[.string s, .int .i64 (b : Int), .string ⟨#[105, 110, 102, 105, 110, 105, 116, 121]⟩] W (BeginsPost W true)))
    : Calls Tryd.prog 26 #[.string s] w (RetBelow w (.agg #[.int .u8 4, .bool false, .string ⟨#[]⟩, .int .i64 0, .int .i64 ((b : Int) + 8)])) := by
  have A0 := Lib.hid (CellsAt.new w [.int .u8 0, .bool false, .string ⟨#[]⟩, .int .i64 0, .int .i64 0] 29)
  have B0 := Lib.hid ((Below.refl w.heap.size w).alloc (Nat.le_refl _) (Obj.cells #[.int .u8 0, .bool false, .string ⟨#[]⟩, .int .i64 0, .int .i64 0] 29))
  go_enter Tryd.func26, Tryd.ntmps26
  go_upto_region 1 with fail
  generalize hX : w.alloc (Obj.cells #[.int .u8 0, .bool false, .string ⟨#[]⟩, .int .i64 0, .int .i64 0] 29) = x at *
  clear hX
  go_wp2_with fail
  refine (SC.out _).mono ?_
  rintro e1 w1 ⟨rfl, rfl⟩
  go_wp2_with fail
  refine (AN.out _).mono ?_
  rintro e1 w1 ⟨rfl, n1, rfl⟩
  have A1 := Lib.hid (A0.out.step (below_drewN x n1))
  have B1 := Lib.hid (bdrewB B0.out n1)
  generalize x.drewN n1 = x1 at *
  go_wp2_with fail
  refine (AI.out _).mono ?_
  rintro e1 w1 ⟨rfl, n2, rfl⟩
  have A2 := Lib.hid (A1.out.step (below_drewN x1 n2))
  have B2 := Lib.hid (bdrewB B1.out n2)
  generalize x1.drewN n2 = x2 at *
  go_upto_region 10 with fail
  have A3 := Lib.hid (A2.out.alloc (Obj.cells #[.int .u8 4, .bool false, .string ⟨#[]⟩, .int .i64 0, .int .i64 ((b : Int) + 3)] 29))
  have N3 := Lib.hid (CellsAt.new x2 [.int .u8 4, .bool false, .string ⟨#[]⟩, .int .i64 0, .int .i64 ((b : Int) + 3)] 29)
  have B3 := Lib.hid (B2.out.alloc B2.out.size (Obj.cells #[.int .u8 4, .bool false, .string ⟨#[]⟩, .int .i64 0, .int .i64 ((b : Int) + 3)] 29))
  have hl : w.heap.size < x2.heap.size := A2.out.lt
  generalize hX : x2.alloc (Obj.cells #[.int .u8 4, .bool false, .string ⟨#[]⟩, .int .i64 0, .int .i64 ((b : Int) + 3)] 29) = x3 at *
  clear hX
  have N4 := N3
  have A4 := A3
  have B4 := B3
  clear N3 A3 B3
  generalize hX : x3 = x4 at *
  clear hX
  go_wp2_with fail
  refine (AY.out _).mono ?_
  rintro e1 w1 ⟨rfl, n5, rfl⟩
  have A5 := Lib.hid (A4.out.step (below_drewN x4 n5))
  have N5 := Lib.hid (N4.out.step (below_drewN x4 n5))
  have B5 := Lib.hid (bdrewB B4.out n5)
  generalize x4.drewN n5 = x5 at *
  have n4 := N5.out.cell 4 _ rfl
  have nf := N5.out.free 4
  have N6 := Lib.hid (N5.out.set 4 (.int .i64 ((b : Int) + 8)) (by simp))
  have A6 := Lib.hid (A5.out.other (show x2.heap.size ≠ w.heap.size by omega) 4 (.int .i64 ((b : Int) + 8)))
  have B6 := Lib.hid (B5.out.setCell (p := ⟨x2.heap.size, 4, none⟩) (by simp; omega) (.int .i64 ((b : Int) + 8)))
  go_upto_region 14 with fail
  generalize hX : x5.setCell ⟨x2.heap.size, 4, none⟩ (.int .i64 ((b : Int) + 8)) = x6 at *
  clear hX n4 nf
  have m0 := N6.out.cell 0 _ rfl
  have m1 := N6.out.cell 1 _ rfl
  have m2 := N6.out.cell 2 _ rfl
  have m3 := N6.out.cell 3 _ rfl
  have m4 := N6.out.cell 4 _ rfl
  have a0 := A6.out.cell 0 _ rfl
  have f0 := A6.out.free 0
  have a1 := A6.out.cell 1 _ rfl
  have f1 := A6.out.free 1
  have a2 := A6.out.cell 2 _ rfl
  have f2 := A6.out.free 2
  have a3 := A6.out.cell 3 _ rfl
  have f3 := A6.out.free 3
  have a4 := A6.out.cell 4 _ rfl
  have f4 := A6.out.free 4
  go_wp2_with fail
  exact genR_end _ _ w _ _ _ _ _ rfl rfl A6.out B6.out

set_option maxHeartbeats 1600000 in
theorem genR_bare_none (s : ByteArray) (b : Nat) (w : World) (hs : s.size ≤ 140737488351232) (hb : b < s.size) (t2 : ((s[b].toNat : Int) == 45) = false) (t3 : ((s[b].toNat : Int) == 43) = false)
    (SC : Hid (∀ W, Calls Tryd.prog 50 #[.string s] W (Same W (.int .i64 (b : Int)))))
    (AN : Hid (∀ W, Calls Tryd.prog 51 #[.string s, .int .i64 (b : Int), .string ⟨#[110, 97, 110]⟩] W (BeginsPost W false)))
    (AI : Hid (∀ W, Calls Tryd.prog 51 #[.string s, .int .i64 (b : Int), .string ⟨#[105, 110, 102]⟩] W (BeginsPost W false)))
    (PC : Hid (∀ W, Calls Tryd.prog 52 #[.string s, .int .i64 (b : Int)] W (Same W (.tuple #[.string ⟨#[]⟩, .int .i64 0, .int .i64 (-1)]))))
    : Calls Tryd.prog 26 #[.string s] w (RetBelow w (.agg #[.int .u8 0, .bool false, .string ⟨#[]⟩, .int .i64 0, .int .i64 0])) := by
  have A0 := Lib.hid (CellsAt.new w [.int .u8 0, .bool false, .string ⟨#[]⟩, .int .i64 0, .int .i64 0] 29)
  have B0 := Lib.hid ((Below.refl w.heap.size w).alloc (Nat.le_refl _) (Obj.cells #[.int .u8 0, .bool false, .string ⟨#[]⟩, .int .i64 0, .int .i64 0] 29))
  go_enter Tryd.func26, Tryd.ntmps26
  go_upto_region 1 with fail
  generalize hX : w.alloc (Obj.cells #[.int .u8 0, .bool false, .string ⟨#[]⟩, .int .i64 0, .int .i64 0] 29) = x at *
  clear hX
  go_wp2_with fail
  refine (SC.out _).mono ?_
  rintro e1 w1 ⟨rfl, rfl⟩
  go_wp2_with fail
  refine (AN.out _).mono ?_
  rintro e1 w1 ⟨rfl, n1, rfl⟩
  have A1 := Lib.hid (A0.out.step (below_drewN x n1))
  have B1 := Lib.hid (bdrewB B0.out n1)
  generalize x.drewN n1 = x1 at *
  go_wp2_with fail
  refine (AI.out _).mono ?_
  rintro e1 w1 ⟨rfl, n2, rfl⟩
  have A2 := Lib.hid (A1.out.step (below_drewN x1 n2))
  have B2 := Lib.hid (bdrewB B1.out n2)
  generalize x1.drewN n2 = x2 at *
  go_wp2_with fail
  refine (PC.out _).mono ?_
  rintro e1 w1 ⟨rfl, rfl⟩
  have a0 := A2.out.cell 0 _ rfl
  have f0 := A2.out.free 0
  have a1 := A2.out.cell 1 _ rfl
  have f1 := A2.out.free 1
  have a2 := A2.out.cell 2 _ rfl
  have f2 := A2.out.free 2
  have a3 := A2.out.cell 3 _ rfl
  have f3 := A2.out.free 3
  have a4 := A2.out.cell 4 _ rfl
  have f4 := A2.out.free 4
  go_wp2_with fail
  exact genR_end _ _ w _ _ _ _ _ rfl rfl A2.out B2.out

set_option maxHeartbeats 1600000 in
theorem genR_bare_num (s : ByteArray) (b : Nat) (w : World) (hs : s.size ≤ 140737488351232) (hb : b < s.size) (t2 : ((s[b].toNat : Int) == 45) = false) (t3 : ((s[b].toNat : Int) == 43) = false)
    (SC : Hid (∀ W, Calls Tryd.prog 50 #[.string s] W (Same W (.int .i64 (b : Int)))))
    (AN : Hid (∀ W, Calls Tryd.prog 51 #[.string s, .int .i64 (b : Int), .string ⟨#[110, 97, 110]⟩] W (BeginsPost W false)))
    (AI : Hid (∀ W, Calls Tryd.prog 51 #[.string s, .int .i64 (b : Int), .string ⟨#[105, 110, 102]⟩] W (BeginsPost W false)))
    (D nd : ByteArray) (pt en bh : Nat) (e np : Int) (nb : Bool) (hpt : pt ≤ 140737488351232) (he : -1099511627776 ≤ e ∧ e ≤ 1099511627776)
    (PC : Hid (∀ W, Calls Tryd.prog 52 #[.string s, .int .i64 (b : Int)] W (Same W (.tuple #[.string D, .int .i64 pt, .int .i64 en]))))
    (EC : Hid (∀ W, Calls Tryd.prog 53 #[.string s, .int .i64 en] W (Same W (.tuple #[.int .i64 e, .int .i64 bh]))))
    (NC : Hid (∀ W, Calls Tryd.prog 54 #[.agg #[.bool false, .string D, .int .i64 (pt + e), .int .i64 0]] W (RetBelow W (.agg #[.bool nb, .string nd, .int .i64 np, .int .i64 0]))))
    : Calls Tryd.prog 26 #[.string s] w (RetBelow w (.agg #[.int .u8 3, .bool nb, .string nd, .int .i64 np, .int .i64 bh])) := by
  obtain ⟨he1, he2⟩ := he
  have A0 := Lib.hid (CellsAt.new w [.int .u8 0, .bool false, .string ⟨#[]⟩, .int .i64 0, .int .i64 0] 29)
  have B0 := Lib.hid ((Below.refl w.heap.size w).alloc (Nat.le_refl _) (Obj.cells #[.int .u8 0, .bool false, .string ⟨#[]⟩, .int .i64 0, .int .i64 0] 29))
  go_enter Tryd.func26, Tryd.ntmps26
  go_upto_region 1 with fail
  generalize hX : w.alloc (Obj.cells #[.int .u8 0, .bool false, .string ⟨#[]⟩, .int .i64 0, .int .i64 0] 29) = x at *
  clear hX
  go_wp2_with fail
  refine (SC.out _).mono ?_
  rintro e1 w1 ⟨rfl, rfl⟩
  go_wp2_with fail
  refine (AN.out _).mono ?_
  rintro e1 w1 ⟨rfl, n1, rfl⟩
  have A1 := Lib.hid (A0.out.step (below_drewN x n1))
  have B1 := Lib.hid (bdrewB B0.out n1)
  generalize x.drewN n1 = x1 at *
  go_wp2_with fail
  refine (AI.out _).mono ?_
  rintro e1 w1 ⟨rfl, n2, rfl⟩
  have A2 := Lib.hid (A1.out.step (below_drewN x1 n2))
  have B2 := Lib.hid (bdrewB B1.out n2)
  generalize x1.drewN n2 = x2 at *
  go_wp2_with fail
  refine (PC.out _).mono ?_
  rintro e1 w1 ⟨rfl, rfl⟩
  go_wp2_with fail
  refine (EC.out _).mono ?_
  rintro e1 w1 ⟨rfl, rfl⟩
  go_wp2_with fail
  refine (NC.out _).mono ?_
  rintro e1 w3 ⟨rfl, hb3⟩
  have A3 := Lib.hid ((A2.out.step hb3).alloc (Obj.cells #[.bool nb, .string nd, .int .i64 np, .int .i64 0] 77))
  have N3 := Lib.hid (CellsAt.new w3 [.bool nb, .string nd, .int .i64 np, .int .i64 0] 77)
  have B3 := Lib.hid ((B2.out.trans (hb3.mono B2.out.size)).alloc (Nat.le_trans B2.out.size hb3.size) (Obj.cells #[.bool nb, .string nd, .int .i64 np, .int .i64 0] 77))
  clear hb3
  go_upto_region 20 with fail
  generalize hX : w3.alloc (Obj.cells #[.bool nb, .string nd, .int .i64 np, .int .i64 0] 77) = x3 at *
  clear hX
  have m0 := N3.out.cell 0 _ rfl
  have m1 := N3.out.cell 1 _ rfl
  have m2 := N3.out.cell 2 _ rfl
  have a0 := A3.out.cell 0 _ rfl
  have f0 := A3.out.free 0
  have a1 := A3.out.cell 1 _ rfl
  have f1 := A3.out.free 1
  have a2 := A3.out.cell 2 _ rfl
  have f2 := A3.out.free 2
  have a3 := A3.out.cell 3 _ rfl
  have f3 := A3.out.free 3
  have a4 := A3.out.cell 4 _ rfl
  have f4 := A3.out.free 4
  go_wp2_with fail
  exact genR_end _ _ w _ _ _ _ _ rfl rfl A3.out B3.out

set_option maxHeartbeats 1600000 in
theorem genR_end_none (s : ByteArray) (b : Nat) (w : World) (hs : s.size ≤ 140737488351232) (hb : ¬ b < s.size) (hb2 : b ≤ s.size)
    (SC : Hid (∀ W, Calls Tryd.prog 50 #[.string s] W (Same W (.int .i64 (b : Int)))))
    (AN : Hid (∀ W, Calls Tryd.prog 51 #[.string s, .int .i64 (b : Int), .string ⟨#[110, 97, 110]⟩] W (BeginsPost W false)))
    (AI : Hid (∀ W, Calls Tryd.prog 51 #[.string s, .int .i64 (b : Int), .string ⟨#[105, 110, 102]⟩] W (BeginsPost W false)))
    (PC : Hid (∀ W, Calls Tryd.prog 52 #[.string s, .int .i64 (b : Int)] W (Same W (.tuple #[.string ⟨#[]⟩, .int .i64 0, .int .i64 (-1)]))))
    : Calls Tryd.prog 26 #[.string s] w (RetBelow w (.agg #[.int .u8 0, .bool false, .string ⟨#[]⟩, .int .i64 0, .int .i64 0])) := by
  have A0 := Lib.hid (CellsAt.new w [.int .u8 0, .bool false, .string ⟨#[]⟩, .int .i64 0, .int .i64 0] 29)
  have B0 := Lib.hid ((Below.refl w.heap.size w).alloc (Nat.le_refl _) (Obj.cells #[.int .u8 0, .bool false, .string ⟨#[]⟩, .int .i64 0, .int .i64 0] 29))
  go_enter Tryd.func26, Tryd.ntmps26
  go_upto_region 1 with fail
  generalize hX : w.alloc (Obj.cells #[.int .u8 0, .bool false, .string ⟨#[]⟩, .int .i64 0, .int .i64 0] 29) = x at *
  clear hX
  go_wp2_with fail
  refine (SC.out _).mono ?_
  rintro e1 w1 ⟨rfl, rfl⟩
  go_wp2_with fail
  refine (AN.out _).mono ?_
  rintro e1 w1 ⟨rfl, n1, rfl⟩
  have A1 := Lib.hid (A0.out.step (below_drewN x n1))
  have B1 := Lib.hid (bdrewB B0.out n1)
  generalize x.drewN n1 = x1 at *
  go_wp2_with fail
  refine (AI.out _).mono ?_
  rintro e1 w1 ⟨rfl, n2, rfl⟩
  have A2 := Lib.hid (A1.out.step (below_drewN x1 n2))
  have B2 := Lib.hid (bdrewB B1.out n2)
  generalize x1.drewN n2 = x2 at *
  go_wp2_with fail
  refine (PC.out _).mono ?_
  rintro e1 w1 ⟨rfl, rfl⟩
  have a0 := A2.out.cell 0 _ rfl
  have f0 := A2.out.free 0
  have a1 := A2.out.cell 1 _ rfl
  have f1 := A2.out.free 1
  have a2 := A2.out.cell 2 _ rfl
  have f2 := A2.out.free 2
  have a3 := A2.out.cell 3 _ rfl
  have f3 := A2.out.free 3
  have a4 := A2.out.cell 4 _ rfl
  have f4 := A2.out.free 4
  go_wp2_with fail
  exact genR_end _ _ w _ _ _ _ _ rfl rfl A2.out B2.out

end Go.Proofs.YtpbbgmfjdachnaaDoor
