/- The key of an order without keys: keyOf. -/
import Derived.Test.YtnpnccjeapejdaaGreatDoorNil
import Derived.Deep.RegionHeld3
import Derived.Laws.EntriesVeiled
namespace Go.Proofs.YtnpnccjeapejdaaGreatDoor
section
section
section
open Go.RowKit

def RetV (w : World) (v : Value) (e : Ending) (w' : World) : Prop := e = .returned v ∧ w = w'
set_option maxRecDepth 100000
theorem within_true (n l m : Int) (h1 : l ≤ n) (h2 : n ≤ m) (w : World) : Calls Tryz.prog 72 #[.int .i64 n, .int .i64 l, .int .i64 m] w (RetV w (.bool true)) := by
  have t1 : decide (l ≤ n) = true := by simpa using h1
  have t2 : decide (n ≤ m) = true := by simpa using h2
  go_enter Tryz.func72, Tryz.ntmps72
  go_wp2_with fail
  go_ret
  exact ⟨rfl, rfl⟩
theorem index_nilS (f : Value) (w : World) : Calls Tryz.prog 99 #[.slice none 0 0, f] w (RetV w (.int .i64 (-1))) := by
  go_enter Tryz.func99, Tryz.ntmps99
  go_wp2_with fail
  refine wp_loop_rounds 1 ?_
  rw [rounds_succ]
  go_wp2_with fail
  go_ret
  exact ⟨rfl, rfl⟩
theorem contains_nilS (f : Value) (w : World) : Calls Tryz.prog 74 #[.slice none 0 0, f] w (RetV w (.bool false)) := by
  have C := Lib.hid (index_nilS f w)
  go_enter Tryz.func74, Tryz.ntmps74
  go_wp2_with fail
  refine C.out.mono ?_
  rintro e w' ⟨rfl, rfl⟩
  go_wp2_with fail
  go_ret
  exact ⟨rfl, rfl⟩
def o0C : List Value := [.slice none 0 0, .int .u16 0, .int .i64 (-1), .bool false, .bool false, .bool false, .bool false, .int .u8 0, .string ⟨#[]⟩, .bool false, .int .i64 0, .int .i64 0, .int .i64 0, .int .i64 0, .string ⟨#[]⟩, .bool false, .string ⟨#[]⟩, .slice none 0 0]
end
section
open Go.RowKit

set_option maxRecDepth 100000
theorem wpList_load_mid_g {P : Program} {ops : Array Oper} {rest : List Oper} {op : Oper} {a : Act} {w : World} {Q : Exit → Act → World → Prop} (hw : Region.wanted op (yielded ops a.tmps) = true) (ty : TypeId) (x : Operand) (ho : op.op = .load ty x)
    (b o : Nat) (hx : a.eval x = .pointer (some ⟨b, o, none⟩)) (cs : List Value) (d : TypeDesc) (hc : w.rangeAt b o cs)
    (hu : P.underlying ty = some d) (hd : d.isRow = true) (hi : (P.info? ty).map (·.size) = some cs.length)
    (h : wpList P ops Q rest (a.put op.dst (.agg cs.toArray)) w) : wpList P ops Q (op :: rest) a w :=
  wpList_step fun _ hK => by rw [if_pos hw]; exact wp_load_mid ty x ho b o hx cs d hc hu hd hi (hK _ _ h)
end
end
section
open Go.RowKit

set_option maxRecDepth 100000
end
end
section
open Go.RowKit

set_option maxRecDepth 100000
def k0C : List Value := [.int .i64 1, .int .i64 1, .int .i64 0, .int .i64 0, .int .u16 0, .bool false]
def z10 : List Value := [.int .i64 0, .int .i64 0, .int .i64 0, .int .i64 0, .int .u16 0, .bool false, .int .i64 0, .int .u8 0, .bool false, .nilFunc]
theorem drewB {B : Nat} {a w : World} (h : Below B a w) : Below B a w.drew := ⟨h.os, h.tape, h.output, h.size, h.block⟩
theorem drewC {w : World} {b : Nat} {vs : List Value} (h : CellsAt w b vs) : CellsAt w.drew b vs := ⟨h.lt, h.cell, h.free⟩
theorem CellsAt.ten {w : World} {b : Nat} {vs : List Value} (h : CellsAt w b vs) (hl : vs.length = 10) (x0 x1 x2 x3 x4 x5 x6 x7 x8 x9 : Value) : CellsAt ((((((((((w.setCell ⟨b, 0, none⟩ x0).setCell ⟨b, 1, none⟩ x1).setCell ⟨b, 2, none⟩ x2).setCell ⟨b, 3, none⟩ x3).setCell ⟨b, 4, none⟩ x4).setCell ⟨b, 5, none⟩ x5).setCell ⟨b, 6, none⟩ x6).setCell ⟨b, 7, none⟩ x7).setCell ⟨b, 8, none⟩ x8).setCell ⟨b, 9, none⟩ x9) b [x0, x1, x2, x3, x4, x5, x6, x7, x8, x9] := by
  match vs, hl with
  | [v0, v1, v2, v3, v4, v5, v6, v7, v8, v9], _ => exact ((((((((((h.set 0 x0 (by simp)).set 1 x1 (by simp)).set 2 x2 (by simp)).set 3 x3 (by simp)).set 4 x4 (by simp)).set 5 x5 (by simp)).set 6 x6 (by simp)).set 7 x7 (by simp)).set 8 x8 (by simp)).set 9 x9 (by simp))
theorem CellsAt.tenOther {w : World} {b c : Nat} {vs : List Value} (h : CellsAt w b vs) (hc : c ≠ b) (x0 x1 x2 x3 x4 x5 x6 x7 x8 x9 : Value) : CellsAt ((((((((((w.setCell ⟨c, 0, none⟩ x0).setCell ⟨c, 1, none⟩ x1).setCell ⟨c, 2, none⟩ x2).setCell ⟨c, 3, none⟩ x3).setCell ⟨c, 4, none⟩ x4).setCell ⟨c, 5, none⟩ x5).setCell ⟨c, 6, none⟩ x6).setCell ⟨c, 7, none⟩ x7).setCell ⟨c, 8, none⟩ x8).setCell ⟨c, 9, none⟩ x9) b vs := ((((((((((h.other hc 0 x0).other hc 1 x1).other hc 2 x2).other hc 3 x3).other hc 4 x4).other hc 5 x5).other hc 6 x6).other hc 7 x7).other hc 8 x8).other hc 9 x9)
theorem below_ten {B : Nat} {a w : World} (h : Below B a w) {b : Nat} (hb : B ≤ b) (x0 x1 x2 x3 x4 x5 x6 x7 x8 x9 : Value) : Below B a ((((((((((w.setCell ⟨b, 0, none⟩ x0).setCell ⟨b, 1, none⟩ x1).setCell ⟨b, 2, none⟩ x2).setCell ⟨b, 3, none⟩ x3).setCell ⟨b, 4, none⟩ x4).setCell ⟨b, 5, none⟩ x5).setCell ⟨b, 6, none⟩ x6).setCell ⟨b, 7, none⟩ x7).setCell ⟨b, 8, none⟩ x8).setCell ⟨b, 9, none⟩ x9) := ((((((((((h.setCell (p := ⟨b, 0, none⟩) hb x0).setCell (p := ⟨b, 1, none⟩) hb x1).setCell (p := ⟨b, 2, none⟩) hb x2).setCell (p := ⟨b, 3, none⟩) hb x3).setCell (p := ⟨b, 4, none⟩) hb x4).setCell (p := ⟨b, 5, none⟩) hb x5).setCell (p := ⟨b, 6, none⟩) hb x6).setCell (p := ⟨b, 7, none⟩) hb x7).setCell (p := ⟨b, 8, none⟩) hb x8).setCell (p := ⟨b, 9, none⟩) hb x9)
def kk10 : List Value := [.int .i64 1, .int .i64 1, .int .i64 0, .int .i64 0, .int .u16 0, .bool false, .int .i64 (-1), .int .u8 0, .bool false, .nilFunc]
/-- Within keyOf: the argument's block, the answer's, the key's. -/
structure KoIn (w x : World) (K : Nat) : Prop where
  arg : CellsAt x w.heap.size k0C
  res : CellsAt x (w.heap.size + 1) z10
  key : CellsAt x K kk10
  lo : w.heap.size + 1 < K
  below : Below w.heap.size w x
theorem KoIn.step {w x x2 : World} {K : Nat} (h : KoIn w x K) (b : Below x.drew.heap.size x.drew x2) : KoIn w x2 K :=
  ⟨(drewC h.arg).step b, (drewC h.res).step b, (drewC h.key).step b, h.lo, (drewB h.below).trans (b.mono (drewB h.below).size)⟩
def kf10 : List Value := [.int .i64 1, .int .i64 1, .int .i64 0, .int .i64 0, .int .u16 0, .bool false, .int .i64 (-1), .int .u8 0, .bool false, .func (.func 23) #[] #[]]
/-- Behind the comparison's store. -/
structure KoEnd (w x : World) (K : Nat) : Prop where
  arg : CellsAt x w.heap.size k0C
  res : CellsAt x (w.heap.size + 1) z10
  key : CellsAt x K kf10
  below : Below w.heap.size w x
theorem KoIn.fin {w x : World} {K : Nat} (h : KoIn w x K) : KoEnd w (x.setCell ⟨K, 9, none⟩ (.func (.func 23) #[] #[])) K :=
  have hl := h.lo
  ⟨h.arg.other (by omega) 9 _, h.res.other (by omega) 9 _, h.key.set 9 _ (by simp [kk10]), h.below.setCell (p := ⟨K, 9, none⟩) (by show w.heap.size ≤ K; omega) _⟩
end
end Go.Proofs.YtnpnccjeapejdaaGreatDoor
