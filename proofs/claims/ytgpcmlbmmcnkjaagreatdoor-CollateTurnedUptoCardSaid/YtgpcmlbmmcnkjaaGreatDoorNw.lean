/- New of options without keys. -/
import Derived.Test.YtgpcmlbmmcnkjaaGreatDoorKf
import Derived.Deep.AppendLies
import Derived.Deep.RegionHeldLaw
namespace Go.Proofs.YtgpcmlbmmcnkjaaGreatDoor
open Go.RowKit

set_option maxRecDepth 100000
theorem count_nil (w : World) : Calls Tryz.prog 15 #[.pointer none] w (RetV w (.int .i64 0)) := by
  go_enter Tryz.func15, Tryz.ntmps15
  go_wp2_with fail
  go_ret
  exact ⟨rfl, rfl⟩
theorem count_ok (p n c : Nat) (a : Option Addr) (w : World) (h : w.cell? ⟨p, 0, none⟩ = some (.slice a n c)) : Calls Tryz.prog 15 #[.pointer (some ⟨p, 0, none⟩)] w (RetV w (.int .i64 (n : Int))) := by
  go_enter Tryz.func15, Tryz.ntmps15
  go_wp2_with fail
  go_ret
  exact ⟨rfl, rfl⟩
/-- The order that New gives: a pointer to three cells, the first a slice of n keys. -/
def RetNew (w : World) (n : Nat) (e : Ending) (w' : World) : Prop :=
  ∃ p a c, e = .returned (.tuple #[.pointer (some ⟨p, 0, none⟩), .int .i64 0]) ∧ w'.cell? ⟨p, 0, none⟩ = some (.slice a n c) ∧ Below w.heap.size w w'
def ordC (v : Value) : List Value := [v, .bool true, .bool false]
/-- Within New. -/
structure NwIn (w x : World) (P T : Nat) (v : Value) : Prop where
  opt : CellsAt x w.heap.size o0C
  ord : CellsAt x P (ordC v)
  key : CellsAt x T k0C
  lo : w.heap.size < P
  mid : P < T
  below : Below w.heap.size w x
theorem NwIn.step {w x x2 : World} {P T : Nat} {v : Value} (h : NwIn w x P T v) (b : Below x.heap.size x x2) : NwIn w x2 P T v :=
  ⟨h.opt.step b, h.ord.step b, h.key.step b, h.lo, h.mid, h.below.trans (b.mono h.below.size)⟩
theorem NwIn.alloc {w x : World} {P T : Nat} {v : Value} (h : NwIn w x P T v) (o : Obj) : NwIn w (x.alloc o) P T v := h.step ((Below.refl _ _).alloc (Nat.le_refl _) o)
theorem NwIn.drew {w x : World} {P T : Nat} {v : Value} (h : NwIn w x P T v) : NwIn w x.drew P T v := ⟨drewC h.opt, drewC h.ord, drewC h.key, h.lo, h.mid, drewB h.below⟩
theorem below_of_none {w w' : World} (h : w.grownBy w' (Value.slice none 0 0).ownBlock) : Below w.heap.size w w' := ⟨h.os, h.tape, h.output, h.size, fun b hb => h.block b hb (by simp [Value.ownBlock])⟩
theorem info65k : (Tryz.prog.info? 65).map (fun i => (i.zero, i.size, i.bytes)) = some (some (.agg #[.int .i64 0, .int .i64 0, .int .i64 0, .int .i64 0, .int .u16 0, .bool false, .int .i64 0, .int .u8 0, .bool false, .nilFunc]), 10, 64) := by kernel_rfl
set_option maxHeartbeats 3200000 in
theorem new0 (w : World) : Calls Tryz.prog 25 #[.agg #[.slice none 0 0, .int .u16 0, .int .i64 (-1), .bool false, .bool false, .bool false, .bool false, .int .u8 0, .string ⟨#[]⟩, .bool false, .int .i64 0, .int .i64 0, .int .i64 0, .int .i64 0, .string ⟨#[]⟩, .bool false, .string ⟨#[]⟩, .slice none 0 0]] w (RetNew w 1) := by
  have A0 := Lib.hid (CellsAt.new w o0C 28)
  have B0 := Lib.hid ((Below.refl w.heap.size w).alloc (Nat.le_refl _) (.cells o0C.toArray 28))
  go_enter Tryz.func25, Tryz.ntmps25
  go_wp2_with fail
  refine (check0 _).mono ?_
  rintro e w1 ⟨rfl, h4⟩
  have A1 := Lib.hid (A0.out.step h4)
  have B1 := Lib.hid (B0.out.trans (h4.mono (by simp)))
  clear h4 A0 B0
  have a1 := A1.out.cell 1 _ rfl
  have a3 := A1.out.cell 3 _ rfl
  have a4 := A1.out.cell 4 _ rfl
  have b512 : bits BinOp.and IntKind.u16 0 512 = 0 := by decide +kernel
  have R1 := Lib.hid ((A1.out.alloc (.cells (ordC (.slice none 0 0)).toArray 59)).range)
  go_wp2_with first
    | (guard_target =~ wpList _ _ _ (⟨some _, Op.load 28 _, _, _, _, _⟩ :: _) _ _; go_must (refine wpList_load_mid rfl 28 _ rfl w.heap.size 0 rfl o0C _ R1.out Tryz.underlying28 rfl o0_load ?_))
  have C2 := Lib.hid (CellsAt.new w1 (ordC (.slice none 0 0)) 59)
  have A2 := Lib.hid (A1.out.alloc (.cells (ordC (.slice none 0 0)).toArray 59))
  have B2 := Lib.hid (B1.out.alloc B1.out.size (.cells (ordC (.slice none 0 0)).toArray 59))
  have L2 := Lib.hid (A1.out.lt)
  clear A1 B1 R1 a1 a3 a4
  refine (eff0 _).mono ?_
  rintro e w3 ⟨g, c, he, h1, h2, h3, h4⟩
  obtain rfl : e = .returned (.slice (some ⟨g, 0, none⟩) 1 c) := he
  have A3 := Lib.hid (A2.out.step h4)
  have C3 := Lib.hid (C2.out.step h4)
  have B3 := Lib.hid (B2.out.trans (h4.mono B2.out.size))
  have k0 := h3 0 _ rfl
  have k1 := h3 1 _ rfl
  have k2 := h3 2 _ rfl
  have k3 := h3 3 _ rfl
  have k4 := h3 4 _ rfl
  have k5 := h3 5 _ rfl
  simp only [Nat.zero_add] at k0 k1 k2 k3 k4 k5
  clear h1 h2 h3 h4 A2 B2 C2
  go_wp2_with fail
  refine wp_loop_rounds 2 ?_
  rw [rounds_succ]
  go_wp2_with fail
  have N3 := Lib.hid (show NwIn w (w3.alloc (.cells k0C.toArray 35)) w1.heap.size w3.heap.size (.slice none 0 0) from ⟨A3.out.alloc _, C3.out.alloc _, CellsAt.new w3 k0C 35, L2.out, C3.out.lt, B3.out.alloc B3.out.size _⟩)
  change Hid (NwIn w (w3.alloc (.cells #[.int .i64 1, .int .i64 1, .int .i64 0, .int .i64 0, .int .u16 0, .bool false] 35)) w1.heap.size w3.heap.size (.slice none 0 0)) at N3
  generalize hx : w3.alloc (.cells #[.int .i64 1, .int .i64 1, .int .i64 0, .int .i64 0, .int .u16 0, .bool false] 35) = x at N3 ⊢
  generalize hT : w3.heap.size = T at N3 ⊢
  generalize hP : w1.heap.size = P at N3 ⊢
  clear hx hT hP k0 k1 k2 k3 k4 k5 A3 C3 B3 L2
  have lo := N3.out.lo
  have mi := N3.out.mid
  have ne1 : ¬ P = T := by omega
  have ne2 : ¬ T = P := by omega
  have ne3 : ¬ P = w.heap.size := by omega
  have ne4 : ¬ w.heap.size = P := by omega
  obtain ⟨i0, hi0, hz0, hz1, hz2⟩ := info_parts info65k
  have Hi0 := Lib.hid hi0
  have Hz0 := Lib.hid hz0
  have Hz1 := Lib.hid hz1
  have Hz2 := Lib.hid hz2
  clear hi0 hz0 hz1 hz2
  have xd := Lib.hid N3.out.drew
  have ap := N3.out.ord.cell 0 _ rfl
  have ao := N3.out.opt.cell 2 _ rfl
  have a0 := N3.out.key.cell 0 _ rfl
  have a1 := N3.out.key.cell 1 _ rfl
  have a2 := N3.out.key.cell 2 _ rfl
  have a3 := N3.out.key.cell 3 _ rfl
  have a4 := N3.out.key.cell 4 _ rfl
  have a5 := N3.out.key.cell 5 _ rfl
  go_region_law
    ((first
      | (go_simp; go_at_call 42; refine (keyOf0 x.drew).mono ?_; rintro e w4 ⟨rfl, hb⟩; have N4 := Lib.hid (xd.out.step hb); have hl4 := N4.out.key.lt; have hp4 := N4.out.ord.lt; have ho4 := N4.out.opt.lt; clear hb; have bp := N4.out.ord.cell 0 _ rfl; have bo := N4.out.opt.cell 2 _ rfl; have b0 := N4.out.key.cell 0 _ rfl; have b1 := N4.out.key.cell 1 _ rfl; have b2 := N4.out.key.cell 2 _ rfl; have b3 := N4.out.key.cell 3 _ rfl; have b4 := N4.out.key.cell 4 _ rfl; have b5 := N4.out.key.cell 5 _ rfl)
      | (refine step_append_lies _ (by rfl) _ _ _ (by rfl) 0 65 i0 _ 10 64 Tryz.underlying57 Hi0.out Hz0.out Hz1.out Hz2.out rfl (by omega) (.slice none 0 0) 0 [] (by rfl) (World.ownsRow_nil _ _ _ _) ⟨w4.heap.size, 0, none⟩ 1 1 [.int .i64 1, .int .i64 1, .int .i64 0, .int .i64 0, .int .u16 0, .bool false, .int .i64 (-1), .int .u8 0, .bool false, .func (.func 27) #[] #[]] (by rfl) (by rfl) (World.news_of_block (heap_alloc_new w4 _)) (by simp [Value.oneCell']) (by omega) (by decide) (by omega) (Nat.zero_le _) (w4.heap.size + 1) (by simp) ?_; intro gg cap w5 hown5 hgrow5 hat5 hlt5; have N5 := Lib.hid ((N4.out.alloc (.cells #[.int .i64 1, .int .i64 1, .int .i64 0, .int .i64 0, .int .u16 0, .bool false, .int .i64 (-1), .int .u8 0, .bool false, .func (.func 27) #[] #[]] 65)).step (below_of_none hgrow5)); have hl5 := N5.out.key.lt; have hp5 := N5.out.ord.lt; clear hown5 hgrow5 hat5; have cp := N5.out.ord.cell 0 _ rfl; have co := N5.out.opt.cell 2 _ rfl; have c0 := N5.out.key.cell 0 _ rfl; have c1 := N5.out.key.cell 1 _ rfl; have c2 := N5.out.key.cell 2 _ rfl; have c3 := N5.out.key.cell 3 _ rfl; have c4 := N5.out.key.cell 4 _ rfl; have c5 := N5.out.key.cell 5 _ rfl; have fp := N5.out.ord.free 0)))

  all_goals
    have hY := Lib.hid ((N5.out.ord.set 0 (.slice (some ⟨gg, 0, none⟩) 1 cap) (by simp [ordC])).cell 0 _ rfl)
    have BY := Lib.hid (N5.out.below.setCell (p := ⟨P, 0, none⟩) (by show w.heap.size ≤ P; omega) (.slice (some ⟨gg, 0, none⟩) 1 cap))
    generalize w5.setCell ⟨P, 0, none⟩ (.slice (some ⟨gg, 0, none⟩) 1 cap) = y at hY BY ⊢
    clear cp co c0 c1 c2 c3 c4 c5 bp bo b0 b1 b2 b3 b4 b5 ap ao a0 a1 a2 a3 a4 a5 fp hlt5
    go_wp2_with fail
    rw [rounds_succ]
    go_wp2_with fail
    go_ret2
    exact ⟨P, _, cap, rfl, hY.out, BY.out⟩
end Go.Proofs.YtgpcmlbmmcnkjaaGreatDoor
