/- The key of an order without keys: keyOf. -/
import Derived.Test.YtgpcmlbmmcnkjaaGreatDoorNil
import Derived.Deep.RegionHeld3
import Derived.Laws.EntriesVeiled
namespace Go.Proofs.YtgpcmlbmmcnkjaaGreatDoor
section
section
section
open Go.RowKit

def RetV (w : World) (v : Value) (e : Ending) (w' : World) : Prop := e = .returned v ∧ w = w'
def RetB (w : World) (v : Value) (e : Ending) (w' : World) : Prop := e = .returned v ∧ Below w.heap.size w w'
set_option maxRecDepth 100000
theorem within_true (n l m : Int) (h1 : l ≤ n) (h2 : n ≤ m) (w : World) : Calls Tryz.prog 72 #[.int .i64 n, .int .i64 l, .int .i64 m] w (RetV w (.bool true)) := by
  have t1 : decide (l ≤ n) = true := by simpa using h1
  have t2 : decide (n ≤ m) = true := by simpa using h2
  go_enter Tryz.func72, Tryz.ntmps72
  go_wp2_with fail
  go_ret
  exact ⟨rfl, rfl⟩
theorem index_nilK (f : Value) (w : World) : Calls Tryz.prog 98 #[.slice none 0 0, f] w (RetV w (.int .i64 (-1))) := by
  go_enter Tryz.func98, Tryz.ntmps98
  go_wp2_with fail
  refine wp_loop_rounds 1 ?_
  rw [rounds_succ]
  go_wp2_with fail
  go_ret
  exact ⟨rfl, rfl⟩
theorem contains_nilK (f : Value) (w : World) : Calls Tryz.prog 69 #[.slice none 0 0, f] w (RetV w (.bool false)) := by
  have C := Lib.hid (index_nilK f w)
  go_enter Tryz.func69, Tryz.ntmps69
  go_wp2_with fail
  refine C.out.mono ?_
  rintro e w' ⟨rfl, rfl⟩
  go_wp2_with fail
  go_ret
  exact ⟨rfl, rfl⟩
theorem index_nilS (f : Value) (w : World) : Calls Tryz.prog 99 #[.slice none 0 0, f] w (RetV w (.int .i64 (-1))) := by
  go_enter Tryz.func99, Tryz.ntmps99
  go_wp2_with fail
  refine wp_loop_rounds 1 ?_
  rw [rounds_succ]
  go_wp2_with fail
  go_ret
  exact ⟨rfl, rfl⟩
theorem contains_nilS (f : Value) (w : World) : Calls Tryz.prog 74 #[.slice none 0 0, f] w (RetV w (.bool false)) := by
  have C := Lib.hid (index_nilS f w)
  go_enter Tryz.func74, Tryz.ntmps74
  go_wp2_with fail
  refine C.out.mono ?_
  rintro e w' ⟨rfl, rfl⟩
  go_wp2_with fail
  go_ret
  exact ⟨rfl, rfl⟩
theorem tog0 (w : World) : Calls Tryz.prog 76 #[.int .u16 0] w (RetV w (.bool true)) := by
  go_enter Tryz.func76, Tryz.ntmps76
  go_wp2_with fail
  go_ret
  exact ⟨rfl, rfl⟩
theorem eff0 (w : World) : Calls Tryz.prog 41 #[.agg #[.slice none 0 0, .int .u16 0, .int .i64 (-1), .bool false, .bool false, .bool false, .bool false, .int .u8 0, .string ⟨#[]⟩, .bool false, .int .i64 0, .int .i64 0, .int .i64 0, .int .i64 0, .string ⟨#[]⟩, .bool false, .string ⟨#[]⟩, .slice none 0 0]] w (RetKeys w [⟨1, 1, 0, 0, 0, false⟩]) :=
  eff_nil ⟨0, -1, false, false, false, false, 0, ⟨#[]⟩, false, 0, 0, 0, 0, ⟨#[]⟩, false, ⟨#[]⟩⟩ (.slice none 0 0) (.slice none 0 0) w ⟨rfl, Or.inl ⟨Or.inl rfl, rfl⟩⟩
def o0C : List Value := [.slice none 0 0, .int .u16 0, .int .i64 (-1), .bool false, .bool false, .bool false, .bool false, .int .u8 0, .string ⟨#[]⟩, .bool false, .int .i64 0, .int .i64 0, .int .i64 0, .int .i64 0, .string ⟨#[]⟩, .bool false, .string ⟨#[]⟩, .slice none 0 0]
set_option maxHeartbeats 3200000 in
theorem fields0 (w : World) : Calls Tryz.prog 51 #[.agg #[.slice none 0 0, .int .u16 0, .int .i64 (-1), .bool false, .bool false, .bool false, .bool false, .int .u8 0, .string ⟨#[]⟩, .bool false, .int .i64 0, .int .i64 0, .int .i64 0, .int .i64 0, .string ⟨#[]⟩, .bool false, .string ⟨#[]⟩, .slice none 0 0]] w (RetB w (.bool true)) := by
  have A0 := Lib.hid (CellsAt.new w o0C 28)
  go_enter Tryz.func51, Tryz.ntmps51
  go_wp2_with (first
    | (go_at_call 69; refine (contains_nilK _ _).mono ?_; rintro e w' ⟨rfl, rfl⟩)
    | (go_at_call 74; refine (contains_nilS _ _).mono ?_; rintro e w' ⟨rfl, rfl⟩)
    | (go_at_call 72; refine (within_true _ _ _ (by decide) (by decide) _).mono ?_; rintro e w' ⟨rfl, rfl⟩))
  go_ret
  exact ⟨rfl, (Below.refl _ _).alloc (Nat.le_refl _) _⟩
end
section
open Go.RowKit

set_option maxRecDepth 100000
theorem wpList_load_mid_g {P : Program} {ops : Array Oper} {rest : List Oper} {op : Oper} {a : Act} {w : World} {Q : Exit → Act → World → Prop} (hw : Region.wanted op (yielded ops a.tmps) = true) (ty : TypeId) (x : Operand) (ho : op.op = .load ty x)
    (b o : Nat) (hx : a.eval x = .pointer (some ⟨b, o, none⟩)) (cs : List Value) (d : TypeDesc) (hc : w.rangeAt b o cs)
    (hu : P.underlying ty = some d) (hd : d.isRow = true) (hi : (P.info? ty).map (·.size) = some cs.length)
    (h : wpList P ops Q rest (a.put op.dst (.agg cs.toArray)) w) : wpList P ops Q (op :: rest) a w :=
  wpList_step fun _ hK => by rw [if_pos hw]; exact wp_load_mid ty x ho b o hx cs d hc hu hd hi (hK _ _ h)
theorem o0_load : (Tryz.prog.info? 28).map (·.size) = some o0C.length := by kernel_rfl
set_option maxHeartbeats 3200000 in
theorem clash0 (w : World) : Calls Tryz.prog 52 #[.agg #[.slice none 0 0, .int .u16 0, .int .i64 (-1), .bool false, .bool false, .bool false, .bool false, .int .u8 0, .string ⟨#[]⟩, .bool false, .int .i64 0, .int .i64 0, .int .i64 0, .int .i64 0, .string ⟨#[]⟩, .bool false, .string ⟨#[]⟩, .slice none 0 0]] w (RetB w (.int .i64 0)) := by
  have A0 := Lib.hid (CellsAt.new w o0C 28)
  have R0 := Lib.hid (A0.out.range)
  have B0 := Lib.hid ((Below.refl w.heap.size w).alloc (Nat.le_refl _) (.cells o0C.toArray 28))
  go_enter Tryz.func52, Tryz.ntmps52
  go_wp2_with first
    | (guard_target =~ wpList _ _ _ (⟨some _, Op.load 28 _, _, _, _, _⟩ :: _) _ _; go_must (refine wpList_load_mid rfl 28 _ rfl w.heap.size 0 rfl o0C _ R0.out Tryz.underlying28 rfl o0_load ?_))
  refine (eff0 _).mono ?_
  rintro e w1 ⟨g, c, he, h1, h2, h3, h4⟩
  obtain rfl : e = .returned (.slice (some ⟨g, 0, none⟩) 1 c) := he
  have A1 := Lib.hid (A0.out.step h4)
  have B1 := Lib.hid (B0.out.trans (h4.mono (by simp)))
  have k0 := h3 0 _ rfl
  have k1 := h3 1 _ rfl
  have k2 := h3 2 _ rfl
  have k3 := h3 3 _ rfl
  have k4 := h3 4 _ rfl
  have k5 := h3 5 _ rfl
  simp only [Nat.zero_add] at k0 k1 k2 k3 k4 k5
  clear h1 h3 h4 A0 R0 B0
  have G2 := Lib.hid h2
  go_wp2_with fail
  refine wp_loop_rounds 2 ?_
  rw [rounds_succ]
  go_wp2_with fail
  refine (tog0 _).mono ?_
  rintro e w2 ⟨rfl, rfl⟩
  generalize hw : w1.alloc _ = w2
  have A2 := Lib.hid (show CellsAt w2 w.heap.size o0C from by rw [← hw]; exact A1.out.alloc _)
  have B2 := Lib.hid (show Below w.heap.size w w2 from by rw [← hw]; exact B1.out.alloc B1.out.size _)
  clear hw k0 k1 k2 k3 k4 k5
  have a6 := A2.out.cell 6 _ rfl
  have a7 := A2.out.cell 7 _ rfl
  have a9 := A2.out.cell 9 _ rfl
  have a16 := A2.out.cell 16 _ rfl
  have a17 := A2.out.cell 17 _ rfl
  go_wp2_with fail
  rw [rounds_succ]
  go_wp2_with fail
  go_ret
  exact ⟨rfl, B2.out⟩
set_option maxHeartbeats 3200000 in
theorem check0 (w : World) : Calls Tryz.prog 40 #[.agg #[.slice none 0 0, .int .u16 0, .int .i64 (-1), .bool false, .bool false, .bool false, .bool false, .int .u8 0, .string ⟨#[]⟩, .bool false, .int .i64 0, .int .i64 0, .int .i64 0, .int .i64 0, .string ⟨#[]⟩, .bool false, .string ⟨#[]⟩, .slice none 0 0]] w (RetB w (.int .i64 0)) := by
  have A0 := Lib.hid (CellsAt.new w o0C 28)
  have R0 := Lib.hid (A0.out.range)
  have B0 := Lib.hid ((Below.refl w.heap.size w).alloc (Nat.le_refl _) (.cells o0C.toArray 28))
  go_enter Tryz.func40, Tryz.ntmps40
  go_wp2_with first
    | (guard_target =~ wpList _ _ _ (⟨some _, Op.load 28 _, _, _, _, _⟩ :: _) _ _; go_must (refine wpList_load_mid rfl 28 _ rfl w.heap.size 0 rfl o0C _ R0.out Tryz.underlying28 rfl o0_load ?_))
  refine (fields0 _).mono ?_
  rintro e w1 ⟨rfl, h4⟩
  have A1 := Lib.hid (A0.out.step h4)
  have R1 := Lib.hid (A1.out.range)
  have B1 := Lib.hid (B0.out.trans (h4.mono (by simp)))
  clear h4 A0 R0 B0
  go_wp2_with first
    | (guard_target =~ wpList _ _ _ (⟨some _, Op.load 28 _, _, _, _, _⟩ :: _) _ _; go_must (refine wpList_load_mid_g rfl 28 _ rfl w.heap.size 0 rfl o0C _ R1.out Tryz.underlying28 rfl o0_load ?_))
  refine (clash0 _).mono ?_
  rintro e w2 ⟨rfl, h4⟩
  have B2 := Lib.hid (B1.out.trans (h4.mono B1.out.size))
  clear h4 A1 R1 B1
  go_wp2_with fail
  go_ret
  exact ⟨rfl, B2.out⟩
end
end
section
open Go.RowKit

set_option maxRecDepth 100000
theorem kind0 (w : World) : Calls Tryz.prog 55 #[.int .u16 0] w (RetV w (.int .u16 0)) := by
  go_enter Tryz.func55, Tryz.ntmps55
  go_wp2_with fail
  go_ret
  exact ⟨rfl, rfl⟩
theorem filter0 (w : World) : Calls Tryz.prog 53 #[.int .u16 0] w (RetB w (.agg #[.int .u8 0, .bool false])) := by
  have b4 : bits BinOp.and IntKind.u16 0 4 = 0 := by decide +kernel
  have b2 : bits BinOp.and IntKind.u16 0 2 = 0 := by decide +kernel
  have b8 : bits BinOp.and IntKind.u16 0 8 = 0 := by decide +kernel
  go_enter Tryz.func53, Tryz.ntmps53
  go_wp2_with fail
  exact bodyPost_ret (v := .agg #[.int .u8 0, .bool false]) (by simp [results, Tryz.results53, go_sem]) rfl ⟨rfl, ((Below.refl _ _).alloc (Nat.le_refl _) _).alloc (by simp) _⟩
theorem comparison0 (w : World) : Calls Tryz.prog 54 #[.int .u16 0, .agg #[.int .u8 0, .bool false]] w (fun e w' => e = .returned (.func (.func 27) #[] #[]) ∧ Below w.heap.size w w') := by
  go_enter Tryz.func54, Tryz.ntmps54
  go_wp2_with fail

  go_ret
  exact ⟨rfl, ((Below.refl _ _).alloc (Nat.le_refl _) _).alloc (by simp) _⟩
end
end
section
open Go.RowKit

set_option maxRecDepth 100000
def k0C : List Value := [.int .i64 1, .int .i64 1, .int .i64 0, .int .i64 0, .int .u16 0, .bool false]
def z10 : List Value := [.int .i64 0, .int .i64 0, .int .i64 0, .int .i64 0, .int .u16 0, .bool false, .int .i64 0, .int .u8 0, .bool false, .nilFunc]
theorem drewB {B : Nat} {a w : World} (h : Below B a w) : Below B a w.drew := ⟨h.os, h.tape, h.output, h.size, h.block⟩
theorem drewC {w : World} {b : Nat} {vs : List Value} (h : CellsAt w b vs) : CellsAt w.drew b vs := ⟨h.lt, h.cell, h.free⟩
theorem CellsAt.ten {w : World} {b : Nat} {vs : List Value} (h : CellsAt w b vs) (hl : vs.length = 10) (x0 x1 x2 x3 x4 x5 x6 x7 x8 x9 : Value) : CellsAt ((((((((((w.setCell ⟨b, 0, none⟩ x0).setCell ⟨b, 1, none⟩ x1).setCell ⟨b, 2, none⟩ x2).setCell ⟨b, 3, none⟩ x3).setCell ⟨b, 4, none⟩ x4).setCell ⟨b, 5, none⟩ x5).setCell ⟨b, 6, none⟩ x6).setCell ⟨b, 7, none⟩ x7).setCell ⟨b, 8, none⟩ x8).setCell ⟨b, 9, none⟩ x9) b [x0, x1, x2, x3, x4, x5, x6, x7, x8, x9] := by
  match vs, hl with
  | [v0, v1, v2, v3, v4, v5, v6, v7, v8, v9], _ => exact ((((((((((h.set 0 x0 (by simp)).set 1 x1 (by simp)).set 2 x2 (by simp)).set 3 x3 (by simp)).set 4 x4 (by simp)).set 5 x5 (by simp)).set 6 x6 (by simp)).set 7 x7 (by simp)).set 8 x8 (by simp)).set 9 x9 (by simp))
theorem CellsAt.tenOther {w : World} {b c : Nat} {vs : List Value} (h : CellsAt w b vs) (hc : c ≠ b) (x0 x1 x2 x3 x4 x5 x6 x7 x8 x9 : Value) : CellsAt ((((((((((w.setCell ⟨c, 0, none⟩ x0).setCell ⟨c, 1, none⟩ x1).setCell ⟨c, 2, none⟩ x2).setCell ⟨c, 3, none⟩ x3).setCell ⟨c, 4, none⟩ x4).setCell ⟨c, 5, none⟩ x5).setCell ⟨c, 6, none⟩ x6).setCell ⟨c, 7, none⟩ x7).setCell ⟨c, 8, none⟩ x8).setCell ⟨c, 9, none⟩ x9) b vs := ((((((((((h.other hc 0 x0).other hc 1 x1).other hc 2 x2).other hc 3 x3).other hc 4 x4).other hc 5 x5).other hc 6 x6).other hc 7 x7).other hc 8 x8).other hc 9 x9)
theorem below_ten {B : Nat} {a w : World} (h : Below B a w) {b : Nat} (hb : B ≤ b) (x0 x1 x2 x3 x4 x5 x6 x7 x8 x9 : Value) : Below B a ((((((((((w.setCell ⟨b, 0, none⟩ x0).setCell ⟨b, 1, none⟩ x1).setCell ⟨b, 2, none⟩ x2).setCell ⟨b, 3, none⟩ x3).setCell ⟨b, 4, none⟩ x4).setCell ⟨b, 5, none⟩ x5).setCell ⟨b, 6, none⟩ x6).setCell ⟨b, 7, none⟩ x7).setCell ⟨b, 8, none⟩ x8).setCell ⟨b, 9, none⟩ x9) := ((((((((((h.setCell (p := ⟨b, 0, none⟩) hb x0).setCell (p := ⟨b, 1, none⟩) hb x1).setCell (p := ⟨b, 2, none⟩) hb x2).setCell (p := ⟨b, 3, none⟩) hb x3).setCell (p := ⟨b, 4, none⟩) hb x4).setCell (p := ⟨b, 5, none⟩) hb x5).setCell (p := ⟨b, 6, none⟩) hb x6).setCell (p := ⟨b, 7, none⟩) hb x7).setCell (p := ⟨b, 8, none⟩) hb x8).setCell (p := ⟨b, 9, none⟩) hb x9)
def kk10 : List Value := [.int .i64 1, .int .i64 1, .int .i64 0, .int .i64 0, .int .u16 0, .bool false, .int .i64 (-1), .int .u8 0, .bool false, .nilFunc]
/-- Within keyOf: the argument's block, the answer's, the key's. -/
structure KoIn (w x : World) (K : Nat) : Prop where
  arg : CellsAt x w.heap.size k0C
  res : CellsAt x (w.heap.size + 1) z10
  key : CellsAt x K kk10
  lo : w.heap.size + 1 < K
  below : Below w.heap.size w x
theorem KoIn.step {w x x2 : World} {K : Nat} (h : KoIn w x K) (b : Below x.drew.heap.size x.drew x2) : KoIn w x2 K :=
  ⟨(drewC h.arg).step b, (drewC h.res).step b, (drewC h.key).step b, h.lo, (drewB h.below).trans (b.mono (drewB h.below).size)⟩
def kf10 : List Value := [.int .i64 1, .int .i64 1, .int .i64 0, .int .i64 0, .int .u16 0, .bool false, .int .i64 (-1), .int .u8 0, .bool false, .func (.func 27) #[] #[]]
/-- Behind the comparison's store. -/
structure KoEnd (w x : World) (K : Nat) : Prop where
  arg : CellsAt x w.heap.size k0C
  res : CellsAt x (w.heap.size + 1) z10
  key : CellsAt x K kf10
  below : Below w.heap.size w x
theorem KoIn.fin {w x : World} {K : Nat} (h : KoIn w x K) : KoEnd w (x.setCell ⟨K, 9, none⟩ (.func (.func 27) #[] #[])) K :=
  have hl := h.lo
  ⟨h.arg.other (by omega) 9 _, h.res.other (by omega) 9 _, h.key.set 9 _ (by simp [kk10]), h.below.setCell (p := ⟨K, 9, none⟩) (by show w.heap.size ≤ K; omega) _⟩
theorem info65 : (Tryz.prog.info? 65).map (·.size) = some 10 := by kernel_rfl
set_option maxHeartbeats 3200000 in
theorem keyOf0 (w : World) : Calls Tryz.prog 42 #[.agg #[.int .i64 1, .int .i64 1, .int .i64 0, .int .i64 0, .int .u16 0, .bool false], .int .i64 (-1)] w (RetB w (.agg #[.int .i64 1, .int .i64 1, .int .i64 0, .int .i64 0, .int .u16 0, .bool false, .int .i64 (-1), .int .u8 0, .bool false, .func (.func 27) #[] #[]])) := by
  go_enter Tryz.func42, Tryz.ntmps42
  go_wp2_with fail
  have A0 := (CellsAt.new w k0C 35).alloc (.cells z10.toArray 65)
  have B0 := ((Below.refl w.heap.size w).alloc (Nat.le_refl _) (.cells k0C.toArray 35)).alloc (by simp) (.cells z10.toArray 65)
  have Z0 := CellsAt.new (w.alloc (.cells k0C.toArray 35)) z10 65
  rw [show (w.alloc (.cells k0C.toArray 35)).heap.size = w.heap.size + 1 by simp] at Z0
  unfold k0C z10 at A0 B0 Z0
  generalize World.alloc (World.alloc w _) _ = W0 at *
  have HB := Lib.hid B0
  have HA := Lib.hid A0
  have HZ := Lib.hid Z0
  clear A0 B0 Z0
  have r0 := HA.out.cell 0 _ rfl
  have r1 := HA.out.cell 1 _ rfl
  have r2 := HA.out.cell 2 _ rfl
  have r3 := HA.out.cell 3 _ rfl
  have r4 := HA.out.cell 4 _ rfl
  have r5 := HA.out.cell 5 _ rfl
  have hw0 := HA.out.lt
  have hne : ¬ W0.heap.size = w.heap.size := by omega
  have hne2 : ¬ w.heap.size = W0.heap.size := by omega
  go_region_held3 (fun w' => w'.cell? ⟨w.heap.size, 0, none⟩ = some (.int .i64 1) ∧ w'.cell? ⟨w.heap.size, 1, none⟩ = some (.int .i64 1) ∧ w'.cell? ⟨w.heap.size, 2, none⟩ = some (.int .i64 0) ∧ w'.cell? ⟨w.heap.size, 3, none⟩ = some (.int .i64 0) ∧ w'.cell? ⟨w.heap.size, 4, none⟩ = some (.int .u16 0) ∧ w'.cell? ⟨w.heap.size, 5, none⟩ = some (.bool false))
    (first | go_keep)
    ((first | (go_at_call 53; refine (filter0 W0.drew).mono ?_; rintro e w1 ⟨rfl, hb⟩; have HA1 := Lib.hid (show CellsAt w1 w.heap.size k0C from (drewC HA.out).step hb); have HZ1 := Lib.hid (show CellsAt w1 (w.heap.size + 1) z10 from (drewC HZ.out).step hb); have HB1 := Lib.hid (show Below w.heap.size w w1 from (drewB HB.out).trans (hb.mono (drewB HB.out).size)); clear hb; have q0 := HA1.out.cell 0 _ rfl; have q1 := HA1.out.cell 1 _ rfl; have q2 := HA1.out.cell 2 _ rfl; have q3 := HA1.out.cell 3 _ rfl; have q4 := HA1.out.cell 4 _ rfl; have q5 := HA1.out.cell 5 _ rfl; have hl1 := HA1.out.lt) | (go_at_call 53; refine (filter0 (W0.alloc (.cells z10.toArray 65)).drew).mono ?_; rintro e w1 ⟨rfl, hb⟩; have HA1 := Lib.hid (show CellsAt w1 w.heap.size k0C from (drewC (HA.out.alloc (.cells z10.toArray 65))).step hb); have HZ1 := Lib.hid (show CellsAt w1 (w.heap.size + 1) z10 from (drewC (HZ.out.alloc (.cells z10.toArray 65))).step hb); have HB1 := Lib.hid (show Below w.heap.size w w1 from (drewB (HB.out.alloc HB.out.size (.cells z10.toArray 65))).trans (hb.mono (drewB (HB.out.alloc HB.out.size (.cells z10.toArray 65))).size)); have HN1 := Lib.hid (show CellsAt w1 W0.heap.size z10 from (drewC (CellsAt.new W0 z10 65)).step hb); clear hb; have q0 := HA1.out.cell 0 _ rfl; have q1 := HA1.out.cell 1 _ rfl; have q2 := HA1.out.cell 2 _ rfl; have q3 := HA1.out.cell 3 _ rfl; have q4 := HA1.out.cell 4 _ rfl; have q5 := HA1.out.cell 5 _ rfl; have n0 := HN1.out.cell 0 _ rfl; have m0 := HN1.out.free 0; have n1 := HN1.out.cell 1 _ rfl; have m1 := HN1.out.free 1; have n2 := HN1.out.cell 2 _ rfl; have m2 := HN1.out.free 2; have n3 := HN1.out.cell 3 _ rfl; have m3 := HN1.out.free 3; have n4 := HN1.out.cell 4 _ rfl; have m4 := HN1.out.free 4; have n5 := HN1.out.cell 5 _ rfl; have m5 := HN1.out.free 5; have n6 := HN1.out.cell 6 _ rfl; have m6 := HN1.out.free 6; have n7 := HN1.out.cell 7 _ rfl; have m7 := HN1.out.free 7; have n8 := HN1.out.cell 8 _ rfl; have m8 := HN1.out.free 8; have n9 := HN1.out.cell 9 _ rfl; have m9 := HN1.out.free 9; have hln := HN1.out.lt; have hl1 := HA1.out.lt)))
  · have K1 := Lib.hid (show KoIn w (w1.alloc (.cells #[.int .i64 1, .int .i64 1, .int .i64 0, .int .i64 0, .int .u16 0, .bool false, .int .i64 (-1), .int .u8 0, .bool false, .nilFunc] 65)) w1.heap.size from ⟨HA1.out.alloc _, HZ1.out.alloc _, CellsAt.new w1 kk10 65, HZ1.out.lt, HB1.out.alloc HB1.out.size _⟩)
    generalize hx : w1.alloc (.cells #[.int .i64 1, .int .i64 1, .int .i64 0, .int .i64 0, .int .u16 0, .bool false, .int .i64 (-1), .int .u8 0, .bool false, .nilFunc] 65) = x at K1 ⊢
    generalize hK : w1.heap.size = K at K1 ⊢
    clear q0 q1 q2 q3 q4 q5 r0 r1 r2 r3 r4 r5 hx hK HB HA HZ HA1 HZ1 HB1 hl1 hw0 hne hne2
    have c0 := K1.out.arg.cell 4 _ rfl
    have c1 := K1.out.key.cell 7 _ rfl
    have c2 := K1.out.key.cell 8 _ rfl
    have c3 := K1.out.key.cell 9 _ rfl
    have f3 := K1.out.key.free 9
    have lK := K1.out.lo
    have ne1 : ¬ w.heap.size = K := by omega
    have ne2 : ¬ K = w.heap.size := by omega
    have lx := K1.out.key.lt
    have c0d : x.drew.cell? ⟨w.heap.size, 4, none⟩ = some (.int .u16 0) := c0
    have c1d : x.drew.cell? ⟨K, 7, none⟩ = some (.int .u8 0) := c1
    have c2d : x.drew.cell? ⟨K, 8, none⟩ = some (.bool false) := c2
    go_wp2_with fail
    go_region_held3 (fun w' => w'.cell? ⟨w.heap.size, 4, none⟩ = some (.int .u16 0) ∧ w'.cell? ⟨K, 7, none⟩ = some (.int .u8 0) ∧ w'.cell? ⟨K, 8, none⟩ = some (.bool false))
      (first | go_keep)
      ((first | (go_at_call 55; refine (kind0 _).mono ?_; rintro e w2 ⟨rfl, rfl⟩) | (go_at_call 54; refine (comparison0 _).mono ?_; rintro e w2 ⟨rfl, hb⟩; have K2 := Lib.hid (KoIn.step K1.out hb); clear hb; have d0 := K2.out.arg.cell 4 _ rfl; have d1 := K2.out.key.cell 7 _ rfl; have d2 := K2.out.key.cell 8 _ rfl; have d3 := K2.out.key.cell 9 _ rfl; have g3 := K2.out.key.free 9; have ly := K2.out.key.lt; have d1s : (w2.setCell ⟨K, 9, none⟩ (.func (.func 27) #[] #[])).cell? ⟨K, 7, none⟩ = some (.int .u8 0) := (World.cell?_setCell_other _ _ _ _ (by simp)).trans d1; have d2s : (w2.setCell ⟨K, 9, none⟩ (.func (.func 27) #[] #[])).cell? ⟨K, 8, none⟩ = some (.bool false) := (World.cell?_setCell_other _ _ _ _ (by simp)).trans d2)))
    have Y := Lib.hid (K2.out.fin)
    clear d0 d1 d2 d3 g3 ly d1s d2s K2 K1 c0 c1 c2 c3 f3 c0d c1d c2d lx
    generalize w2.setCell ⟨K, 9, none⟩ (.func (.func 27) #[] #[]) = y at Y ⊢
    have b512 : bits BinOp.and IntKind.u16 0 512 = 0 := by decide +kernel
    have d4 := Y.out.arg.cell 4 _ rfl
    have k0 := Y.out.key.cell 0 _ rfl
    have k1 := Y.out.key.cell 1 _ rfl
    have k2 := Y.out.key.cell 2 _ rfl
    have k3 := Y.out.key.cell 3 _ rfl
    have k4 := Y.out.key.cell 4 _ rfl
    have k5 := Y.out.key.cell 5 _ rfl
    have k6 := Y.out.key.cell 6 _ rfl
    have k7 := Y.out.key.cell 7 _ rfl
    have k8 := Y.out.key.cell 8 _ rfl
    have k9 := Y.out.key.cell 9 _ rfl
    have r0 := Y.out.res.cell 0 _ rfl
    have s0 := Y.out.res.free 0
    have r1 := Y.out.res.cell 1 _ rfl
    have s1 := Y.out.res.free 1
    have r2 := Y.out.res.cell 2 _ rfl
    have s2 := Y.out.res.free 2
    have r3 := Y.out.res.cell 3 _ rfl
    have s3 := Y.out.res.free 3
    have r4 := Y.out.res.cell 4 _ rfl
    have s4 := Y.out.res.free 4
    have r5 := Y.out.res.cell 5 _ rfl
    have s5 := Y.out.res.free 5
    have r6 := Y.out.res.cell 6 _ rfl
    have s6 := Y.out.res.free 6
    have r7 := Y.out.res.cell 7 _ rfl
    have s7 := Y.out.res.free 7
    have r8 := Y.out.res.cell 8 _ rfl
    have s8 := Y.out.res.free 8
    have r9 := Y.out.res.cell 9 _ rfl
    have s9 := Y.out.res.free 9
    have lr := Y.out.res.lt
    have ne3 : ¬ w.heap.size + 1 = K := by omega
    have ne4 : ¬ K = w.heap.size + 1 := by omega
    have Q := Y.out.res.ten rfl (.int .i64 1) (.int .i64 1) (.int .i64 0) (.int .i64 0) (.int .u16 0) (.bool false) (.int .i64 (-1)) (.int .u8 0) (.bool false) (.func (.func 27) #[] #[])
    have e0 := Q.cell 0 _ rfl
    have e1 := Q.cell 1 _ rfl
    have e2 := Q.cell 2 _ rfl
    have e3 := Q.cell 3 _ rfl
    have e4 := Q.cell 4 _ rfl
    have e5 := Q.cell 5 _ rfl
    have e6 := Q.cell 6 _ rfl
    have e7 := Q.cell 7 _ rfl
    have e8 := Q.cell 8 _ rfl
    have e9 := Q.cell 9 _ rfl
    have HQ := Lib.hid (below_ten Y.out.below (Nat.le_succ _) (.int .i64 1) (.int .i64 1) (.int .i64 0) (.int .i64 0) (.int .u16 0) (.bool false) (.int .i64 (-1)) (.int .u8 0) (.bool false) (.func (.func 27) #[] #[]))
    clear Q
    go_wp2_with fail
    exact bodyPost_ret (v := .agg #[.int .i64 1, .int .i64 1, .int .i64 0, .int .i64 0, .int .u16 0, .bool false, .int .i64 (-1), .int .u8 0, .bool false, .func (.func 27) #[] #[]]) (by simp [results, Tryz.results42, go_sem, e0, e1, e2, e3, e4, e5, e6, e7, e8, e9]) rfl ⟨rfl, HQ.out⟩
  · have K1 := Lib.hid (show KoIn w ((((((((((w1.setCell ⟨W0.heap.size, 0, none⟩ (.int .i64 1)).setCell ⟨W0.heap.size, 1, none⟩ (.int .i64 1)).setCell ⟨W0.heap.size, 2, none⟩ (.int .i64 0)).setCell ⟨W0.heap.size, 3, none⟩ (.int .i64 0)).setCell ⟨W0.heap.size, 4, none⟩ (.int .u16 0)).setCell ⟨W0.heap.size, 5, none⟩ (.bool false)).setCell ⟨W0.heap.size, 6, none⟩ (.int .i64 (-1))).setCell ⟨W0.heap.size, 7, none⟩ (.int .u8 0)).setCell ⟨W0.heap.size, 8, none⟩ (.bool false)).setCell ⟨W0.heap.size, 9, none⟩ (.nilFunc)) W0.heap.size from ⟨HA1.out.tenOther (by omega) (.int .i64 1) (.int .i64 1) (.int .i64 0) (.int .i64 0) (.int .u16 0) (.bool false) (.int .i64 (-1)) (.int .u8 0) (.bool false) .nilFunc, HZ1.out.tenOther (by have := HZ.out.lt; omega) (.int .i64 1) (.int .i64 1) (.int .i64 0) (.int .i64 0) (.int .u16 0) (.bool false) (.int .i64 (-1)) (.int .u8 0) (.bool false) .nilFunc, HN1.out.ten rfl (.int .i64 1) (.int .i64 1) (.int .i64 0) (.int .i64 0) (.int .u16 0) (.bool false) (.int .i64 (-1)) (.int .u8 0) (.bool false) .nilFunc, HZ.out.lt, below_ten HB1.out (by omega) (.int .i64 1) (.int .i64 1) (.int .i64 0) (.int .i64 0) (.int .u16 0) (.bool false) (.int .i64 (-1)) (.int .u8 0) (.bool false) .nilFunc⟩)
    generalize hx : ((((((((((w1.setCell ⟨W0.heap.size, 0, none⟩ (.int .i64 1)).setCell ⟨W0.heap.size, 1, none⟩ (.int .i64 1)).setCell ⟨W0.heap.size, 2, none⟩ (.int .i64 0)).setCell ⟨W0.heap.size, 3, none⟩ (.int .i64 0)).setCell ⟨W0.heap.size, 4, none⟩ (.int .u16 0)).setCell ⟨W0.heap.size, 5, none⟩ (.bool false)).setCell ⟨W0.heap.size, 6, none⟩ (.int .i64 (-1))).setCell ⟨W0.heap.size, 7, none⟩ (.int .u8 0)).setCell ⟨W0.heap.size, 8, none⟩ (.bool false)).setCell ⟨W0.heap.size, 9, none⟩ (.nilFunc)) = x at K1 ⊢
    generalize hK : W0.heap.size = K at K1 ⊢
    clear q0 q1 q2 q3 q4 q5 r0 r1 r2 r3 r4 r5 hx hK HB HA HZ HA1 HZ1 HB1 hl1 hw0 hne hne2 n0 m0 n1 m1 n2 m2 n3 m3 n4 m4 n5 m5 n6 m6 n7 m7 n8 m8 n9 m9 HN1 hln
    have c0 := K1.out.arg.cell 4 _ rfl
    have c1 := K1.out.key.cell 7 _ rfl
    have c2 := K1.out.key.cell 8 _ rfl
    have c3 := K1.out.key.cell 9 _ rfl
    have f3 := K1.out.key.free 9
    have lK := K1.out.lo
    have ne1 : ¬ w.heap.size = K := by omega
    have ne2 : ¬ K = w.heap.size := by omega
    have lx := K1.out.key.lt
    have c0d : x.drew.cell? ⟨w.heap.size, 4, none⟩ = some (.int .u16 0) := c0
    have c1d : x.drew.cell? ⟨K, 7, none⟩ = some (.int .u8 0) := c1
    have c2d : x.drew.cell? ⟨K, 8, none⟩ = some (.bool false) := c2
    go_wp2_with fail
    go_region_held3 (fun w' => w'.cell? ⟨w.heap.size, 4, none⟩ = some (.int .u16 0) ∧ w'.cell? ⟨K, 7, none⟩ = some (.int .u8 0) ∧ w'.cell? ⟨K, 8, none⟩ = some (.bool false))
      (first | go_keep)
      ((first | (go_at_call 55; refine (kind0 _).mono ?_; rintro e w2 ⟨rfl, rfl⟩) | (go_at_call 54; refine (comparison0 _).mono ?_; rintro e w2 ⟨rfl, hb⟩; have K2 := Lib.hid (KoIn.step K1.out hb); clear hb; have d0 := K2.out.arg.cell 4 _ rfl; have d1 := K2.out.key.cell 7 _ rfl; have d2 := K2.out.key.cell 8 _ rfl; have d3 := K2.out.key.cell 9 _ rfl; have g3 := K2.out.key.free 9; have ly := K2.out.key.lt; have d1s : (w2.setCell ⟨K, 9, none⟩ (.func (.func 27) #[] #[])).cell? ⟨K, 7, none⟩ = some (.int .u8 0) := (World.cell?_setCell_other _ _ _ _ (by simp)).trans d1; have d2s : (w2.setCell ⟨K, 9, none⟩ (.func (.func 27) #[] #[])).cell? ⟨K, 8, none⟩ = some (.bool false) := (World.cell?_setCell_other _ _ _ _ (by simp)).trans d2)))
    have Y := Lib.hid (K2.out.fin)
    clear d0 d1 d2 d3 g3 ly d1s d2s K2 K1 c0 c1 c2 c3 f3 c0d c1d c2d lx
    generalize w2.setCell ⟨K, 9, none⟩ (.func (.func 27) #[] #[]) = y at Y ⊢
    have b512 : bits BinOp.and IntKind.u16 0 512 = 0 := by decide +kernel
    have d4 := Y.out.arg.cell 4 _ rfl
    have k0 := Y.out.key.cell 0 _ rfl
    have k1 := Y.out.key.cell 1 _ rfl
    have k2 := Y.out.key.cell 2 _ rfl
    have k3 := Y.out.key.cell 3 _ rfl
    have k4 := Y.out.key.cell 4 _ rfl
    have k5 := Y.out.key.cell 5 _ rfl
    have k6 := Y.out.key.cell 6 _ rfl
    have k7 := Y.out.key.cell 7 _ rfl
    have k8 := Y.out.key.cell 8 _ rfl
    have k9 := Y.out.key.cell 9 _ rfl
    have r0 := Y.out.res.cell 0 _ rfl
    have s0 := Y.out.res.free 0
    have r1 := Y.out.res.cell 1 _ rfl
    have s1 := Y.out.res.free 1
    have r2 := Y.out.res.cell 2 _ rfl
    have s2 := Y.out.res.free 2
    have r3 := Y.out.res.cell 3 _ rfl
    have s3 := Y.out.res.free 3
    have r4 := Y.out.res.cell 4 _ rfl
    have s4 := Y.out.res.free 4
    have r5 := Y.out.res.cell 5 _ rfl
    have s5 := Y.out.res.free 5
    have r6 := Y.out.res.cell 6 _ rfl
    have s6 := Y.out.res.free 6
    have r7 := Y.out.res.cell 7 _ rfl
    have s7 := Y.out.res.free 7
    have r8 := Y.out.res.cell 8 _ rfl
    have s8 := Y.out.res.free 8
    have r9 := Y.out.res.cell 9 _ rfl
    have s9 := Y.out.res.free 9
    have lr := Y.out.res.lt
    have ne3 : ¬ w.heap.size + 1 = K := by omega
    have ne4 : ¬ K = w.heap.size + 1 := by omega
    have Q := Y.out.res.ten rfl (.int .i64 1) (.int .i64 1) (.int .i64 0) (.int .i64 0) (.int .u16 0) (.bool false) (.int .i64 (-1)) (.int .u8 0) (.bool false) (.func (.func 27) #[] #[])
    have e0 := Q.cell 0 _ rfl
    have e1 := Q.cell 1 _ rfl
    have e2 := Q.cell 2 _ rfl
    have e3 := Q.cell 3 _ rfl
    have e4 := Q.cell 4 _ rfl
    have e5 := Q.cell 5 _ rfl
    have e6 := Q.cell 6 _ rfl
    have e7 := Q.cell 7 _ rfl
    have e8 := Q.cell 8 _ rfl
    have e9 := Q.cell 9 _ rfl
    have HQ := Lib.hid (below_ten Y.out.below (Nat.le_succ _) (.int .i64 1) (.int .i64 1) (.int .i64 0) (.int .i64 0) (.int .u16 0) (.bool false) (.int .i64 (-1)) (.int .u8 0) (.bool false) (.func (.func 27) #[] #[]))
    clear Q
    go_wp2_with fail
    exact bodyPost_ret (v := .agg #[.int .i64 1, .int .i64 1, .int .i64 0, .int .i64 0, .int .u16 0, .bool false, .int .i64 (-1), .int .u8 0, .bool false, .func (.func 27) #[] #[]]) (by simp [results, Tryz.results42, go_sem, e0, e1, e2, e3, e4, e5, e6, e7, e8, e9]) rfl ⟨rfl, HQ.out⟩
end
end Go.Proofs.YtgpcmlbmmcnkjaaGreatDoor
