/- Options without keys, as New hands them on: Check takes them; what keyOf makes of the one key. -/
import Derived.Test.YtgpcmlbmmcnkjaaGreatDoorCn
import Derived.Deep.RegionHeld3
namespace Go.Proofs.YtgpcmlbmmcnkjaaGreatDoor
open Go.RowKit

set_option maxRecDepth 100000
theorem wpList_load_mid_g {P : Program} {ops : Array Oper} {rest : List Oper} {op : Oper} {a : Act} {w : World} {Q : Exit → Act → World → Prop} (hw : Region.wanted op (yielded ops a.tmps) = true) (ty : TypeId) (x : Operand) (ho : op.op = .load ty x)
    (b o : Nat) (hx : a.eval x = .pointer (some ⟨b, o, none⟩)) (cs : List Value) (d : TypeDesc) (hc : w.rangeAt b o cs)
    (hu : P.underlying ty = some d) (hd : d.isRow = true) (hi : (P.info? ty).map (·.size) = some cs.length)
    (h : wpList P ops Q rest (a.put op.dst (.agg cs.toArray)) w) : wpList P ops Q (op :: rest) a w :=
  wpList_step fun _ hK => by rw [if_pos hw]; exact wp_load_mid ty x ho b o hx cs d hc hu hd hi (hK _ _ h)
theorem o0_load : (Tryz.prog.info? 28).map (·.size) = some o0C.length := by kernel_rfl
set_option maxHeartbeats 3200000 in
theorem clash0 (w : World) : Calls Tryz.prog 52 #[.agg #[.slice none 0 0, .int .u16 0, .int .i64 (-1), .bool false, .bool false, .bool false, .bool false, .int .u8 0, .string ⟨#[]⟩, .bool false, .int .i64 0, .int .i64 0, .int .i64 0, .int .i64 0, .string ⟨#[]⟩, .bool false, .string ⟨#[]⟩, .slice none 0 0]] w (RetB w (.int .i64 0)) := by
  have A0 := Lib.hid (CellsAt.new w o0C 28)
  have R0 := Lib.hid (A0.out.range)
  have B0 := Lib.hid ((Below.refl w.heap.size w).alloc (Nat.le_refl _) (.cells o0C.toArray 28))
  go_enter Tryz.func52, Tryz.ntmps52
  go_wp2_with first
    | (guard_target =~ wpList _ _ _ (⟨some _, Op.load 28 _, _, _, _, _⟩ :: _) _ _; go_must (refine wpList_load_mid rfl 28 _ rfl w.heap.size 0 rfl o0C _ R0.out Tryz.underlying28 rfl o0_load ?_))
  refine (eff0 _).mono ?_
  rintro e w1 ⟨g, c, he, h1, h2, h3, h4⟩
  obtain rfl : e = .returned (.slice (some ⟨g, 0, none⟩) 1 c) := he
  have A1 := Lib.hid (A0.out.step h4)
  have B1 := Lib.hid (B0.out.trans (h4.mono (by simp)))
  have k0 := h3 0 _ rfl
  have k1 := h3 1 _ rfl
  have k2 := h3 2 _ rfl
  have k3 := h3 3 _ rfl
  have k4 := h3 4 _ rfl
  have k5 := h3 5 _ rfl
  simp only [Nat.zero_add] at k0 k1 k2 k3 k4 k5
  clear h1 h3 h4 A0 R0 B0
  have G2 := Lib.hid h2
  go_wp2_with fail
  refine wp_loop_rounds 2 ?_
  rw [rounds_succ]
  go_wp2_with fail
  refine (tog0 _).mono ?_
  rintro e w2 ⟨rfl, rfl⟩
  generalize hw : w1.alloc _ = w2
  have A2 := Lib.hid (show CellsAt w2 w.heap.size o0C from by rw [← hw]; exact A1.out.alloc _)
  have B2 := Lib.hid (show Below w.heap.size w w2 from by rw [← hw]; exact B1.out.alloc B1.out.size _)
  clear hw k0 k1 k2 k3 k4 k5
  have a6 := A2.out.cell 6 _ rfl
  have a7 := A2.out.cell 7 _ rfl
  have a9 := A2.out.cell 9 _ rfl
  have a16 := A2.out.cell 16 _ rfl
  have a17 := A2.out.cell 17 _ rfl
  go_wp2_with fail
  rw [rounds_succ]
  go_wp2_with fail
  go_ret
  exact ⟨rfl, B2.out⟩
set_option maxHeartbeats 3200000 in
theorem check0 (w : World) : Calls Tryz.prog 40 #[.agg #[.slice none 0 0, .int .u16 0, .int .i64 (-1), .bool false, .bool false, .bool false, .bool false, .int .u8 0, .string ⟨#[]⟩, .bool false, .int .i64 0, .int .i64 0, .int .i64 0, .int .i64 0, .string ⟨#[]⟩, .bool false, .string ⟨#[]⟩, .slice none 0 0]] w (RetB w (.int .i64 0)) := by
  have A0 := Lib.hid (CellsAt.new w o0C 28)
  have R0 := Lib.hid (A0.out.range)
  have B0 := Lib.hid ((Below.refl w.heap.size w).alloc (Nat.le_refl _) (.cells o0C.toArray 28))
  go_enter Tryz.func40, Tryz.ntmps40
  go_wp2_with first
    | (guard_target =~ wpList _ _ _ (⟨some _, Op.load 28 _, _, _, _, _⟩ :: _) _ _; go_must (refine wpList_load_mid rfl 28 _ rfl w.heap.size 0 rfl o0C _ R0.out Tryz.underlying28 rfl o0_load ?_))
  refine (fields0 _).mono ?_
  rintro e w1 ⟨rfl, h4⟩
  have A1 := Lib.hid (A0.out.step h4)
  have R1 := Lib.hid (A1.out.range)
  have B1 := Lib.hid (B0.out.trans (h4.mono (by simp)))
  clear h4 A0 R0 B0
  go_wp2_with first
    | (guard_target =~ wpList _ _ _ (⟨some _, Op.load 28 _, _, _, _, _⟩ :: _) _ _; go_must (refine wpList_load_mid_g rfl 28 _ rfl w.heap.size 0 rfl o0C _ R1.out Tryz.underlying28 rfl o0_load ?_))
  refine (clash0 _).mono ?_
  rintro e w2 ⟨rfl, h4⟩
  have B2 := Lib.hid (B1.out.trans (h4.mono B1.out.size))
  clear h4 A1 R1 B1
  go_wp2_with fail
  go_ret
  exact ⟨rfl, B2.out⟩
end Go.Proofs.YtgpcmlbmmcnkjaaGreatDoor
