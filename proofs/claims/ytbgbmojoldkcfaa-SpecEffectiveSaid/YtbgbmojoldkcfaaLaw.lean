/- SpecEffective: the walk. -/
import Derived.Test.YtbgbmojoldkcfaaSameO
import Derived.Deep.RegionHeld3
namespace Go.Proofs.Ytbgbmojoldkcfaa
open Go.RowKit

theorem size_setCells (w : World) (b o : Nat) (xs : List Value) : w.heap.size ≤ (w.setCells b o xs).heap.size :=
  (below_setCells (B := 0) (Nat.zero_le b) xs o w (Below.refl 0 w)).size
theorem CellsAt.setOther {w : World} {b c : Nat} {vs xs : List Value} (h : CellsAt w b vs) (hc : c ≠ b) : CellsAt (w.setCells c 0 xs) b vs :=
  ⟨Nat.lt_of_lt_of_le h.lt (size_setCells w c 0 xs), fun j v hv => by
    have hb := World.heap_setCells_other w c 0 xs h.lt (Ne.symm hc)
    have := h.cell j v hv
    rw [World.cell?_of_block (a := ⟨b, j, none⟩) hb]
    exact this, fun j => by
    rw [World.frozen?_setCells]; exact h.free j⟩
theorem slat_v {w : World} {ao : Option Addr} {n c size : Nat} {xs : List Value} (h : SlAt w w.heap.size (.slice ao n c) size n xs) : SlV w ao n size xs := by
  obtain ⟨ao', c', e, hv⟩ := h.val
  injection e with e1 e2 e3
  subst e1
  exact hv
theorem dflt_len (o : Opt) (ks : List KeyL) (h : ks.length * 40 ≤ 140737488355328) : ((dflt ks).map (own o)).length ≤ 140737488355328 := by
  rw [List.length_map]
  unfold dflt
  split
  · simp
  · omega
/-- Both options stand: the argument's at its block, the copy's at g. -/
structure After (w : World) (o : Opt) (ks : List KeyL) (l : List ByteArray) (kv fv k1 f1 : Value) (g : Nat) (wr : World) : Prop where
  opt : CellsAt wr w.heap.size (optC o kv fv)
  two : wr.rangeAt g 0 (optC o k1 f1)
  glt : g < wr.heap.size
  key : SlAt wr wr.heap.size k1 6 ks.length (ksV ks)
  file : SlAt wr wr.heap.size f1 1 l.length (wsV l)
  below : Below w.heap.size w wr
theorem After.step {w : World} {o : Opt} {ks : List KeyL} {l : List ByteArray} {kv fv k1 f1 : Value} {g : Nat} {wr w' : World} (h : After w o ks l kv fv k1 f1 g wr) (k : Below wr.heap.size wr w') : After w o ks l kv fv k1 f1 g w' :=
  ⟨h.opt.step k, range_below h.two k h.glt, Nat.lt_of_lt_of_le h.glt k.size, (h.key.keep k (Nat.le_refl _)).mono k.size, (h.file.keep k (Nat.le_refl _)).mono k.size, h.below.trans (k.mono h.below.size)⟩
theorem after_store {w w0 w1 : World} {o : Opt} {ks : List KeyL} {l : List ByteArray} {kv fv k1 f1 : Value} (zs : List Value) (hz : zs.length = 18) (hA : CellsAt w0 w.heap.size (optC o kv fv)) (hB : Below w.heap.size w w0)
    (r1 : w1.ownsRow w0.heap.size 35 6 k1 ks.length (ksV ks)) (r2 : w1.ownsRow w0.heap.size 9 1 f1 l.length (wsV l)) (hb : Below w0.heap.size w0 w1) :
    After w o ks l kv fv k1 f1 w1.heap.size ((w1.alloc (.cells zs.toArray 28)).setCells w1.heap.size 0 (optC o k1 f1)) := by
  have hl := hA.lt
  have hs := hb.size
  have hbz : Below w1.heap.size w1 (w1.alloc (.cells zs.toArray 28)) := (Below.refl _ _).alloc (Nat.le_refl _) _
  have hZ := CellsAt.new w1 zs 28
  have hAz : CellsAt (w1.alloc (.cells zs.toArray 28)) w.heap.size (optC o kv fv) := (hA.keep hb hl).step hbz
  have hbs : Below w1.heap.size w1 ((w1.alloc (.cells zs.toArray 28)).setCells w1.heap.size 0 (optC o k1 f1)) := below_setCells (Nat.le_refl _) (optC o k1 f1) 0 _ hbz
  refine ⟨hAz.setOther (by omega), World.rangeAt_setCells_same _ _ _ _ ?_, Nat.lt_of_lt_of_le hZ.lt (size_setCells _ _ _ _), ?_, ?_, hB.trans ((hb.trans (hbs.mono hs)).mono hB.size)⟩
  · have := hZ.there
    rw [hz] at this
    exact this
  · exact ((own_slat r1).keep hbs (Nat.le_refl _)).mono hbs.size
  · exact ((own_slat r2).keep hbs (Nat.le_refl _)).mono hbs.size
theorem wpList_load_mid_g {P : Program} {ops : Array Oper} {rest : List Oper} {op : Oper} {a : Act} {w : World} {Q : Exit → Act → World → Prop} (hw : Region.wanted op (yielded ops a.tmps) = true) (ty : TypeId) (x : Operand) (ho : op.op = .load ty x)
    (b o : Nat) (hx : a.eval x = .pointer (some ⟨b, o, none⟩)) (cs : List Value) (d : TypeDesc) (hc : w.rangeAt b o cs)
    (hu : P.underlying ty = some d) (hd : d.isRow = true) (hi : (P.info? ty).map (·.size) = some cs.length)
    (h : wpList P ops Q rest (a.put op.dst (.agg cs.toArray)) w) : wpList P ops Q (op :: rest) a w :=
  wpList_step fun _ hK => by rw [if_pos hw]; exact wp_load_mid ty x ho b o hx cs d hc hu hd hi (hK _ _ h)
def zeroC : List Value := [.slice none 0 0, .int .u16 0, .int .i64 0, .bool false, .bool false, .bool false, .bool false, .int .u8 0, .string ⟨#[]⟩, .bool false, .int .i64 0, .int .i64 0, .int .i64 0, .int .i64 0, .string ⟨#[]⟩, .bool false, .string ⟨#[]⟩, .slice none 0 0]

set_option maxRecDepth 100000
set_option maxHeartbeats 1600000 in
theorem effective_law (o : Opt) (ks : List KeyL) (l : List ByteArray) (ka fa : Option Addr) (kcp fcp : Nat) (w : World) (hk : SlAt w w.heap.size (.slice ka ks.length kcp) 6 ks.length (ksV ks)) (hf : SlAt w w.heap.size (.slice fa l.length fcp) 1 l.length (wsV l)) (hkl : ks.length * 40 ≤ 140737488355328) (hfl : l.length * 16 ≤ 140737488355328) :
    Calls Try.prog 3 #[optV o (.slice ka ks.length kcp) (.slice fa l.length fcp)] w (RetB w (.bool true)) := by
  have HK := Lib.hid hk
  have HF := Lib.hid hf
  clear hk hf
  have HKL := Lib.hid hkl
  have HFL := Lib.hid hfl
  clear hkl hfl
  have A0 := Lib.hid (CellsAt.new w (optC o (.slice ka ks.length kcp) (.slice fa l.length fcp)) 28)
  have B0 := Lib.hid ((Below.refl w.heap.size w).alloc (Nat.le_refl _) (Obj.cells (optC o (.slice ka ks.length kcp) (.slice fa l.length fcp)).toArray 28))
  have HK0 := Lib.hid ((HK.out.keep B0.out (Nat.le_refl _)).mono (show w.heap.size ≤ (w.alloc (Obj.cells (optC o (.slice ka ks.length kcp) (.slice fa l.length fcp)).toArray 28)).heap.size by simp))
  have HF0 := Lib.hid ((HF.out.keep B0.out (Nat.le_refl _)).mono (show w.heap.size ≤ (w.alloc (Obj.cells (optC o (.slice ka ks.length kcp) (.slice fa l.length fcp)).toArray 28)).heap.size by simp))
  unfold optV optC
  go_enter Try.func3, Try.ntmps3
  go_wp2_with first
    | (guard_target =~ wpList _ _ _ (⟨some _, Op.load 28 _, _, _, _, _⟩ :: _) _ _; go_must (refine wpList_load_mid rfl 28 _ rfl w.heap.size 0 rfl (optC o (.slice ka ks.length kcp) (.slice fa l.length fcp)) _ A0.out.range Try.underlying28 rfl info28 ?_))
  refine (twin_ok o ks l _ _ _ HK0.out HF0.out HKL.out HFL.out).mono ?_
  rintro e w1 ⟨kv1, fv1, rfl, r1, r2, hb1⟩
  obtain ⟨ao1, cp1, rfl⟩ := own_slice r1
  obtain ⟨ao2, cp2, rfl⟩ := own_slice r2
  have AF := Lib.hid (after_store (kv := .slice ka ks.length kcp) (fv := .slice fa l.length fcp) zeroC rfl A0.out B0.out r1 r2 hb1)
  have TH := Lib.hid (CellsAt.new w1 zeroC 28).there
  clear r1 r2 hb1 A0 B0 HK0 HF0
  go_wp2_with first
    | (guard_target =~ wpList _ _ _ (⟨none, Op.store 28 _ _, _, _, _, _⟩ :: _) _ _; go_must (refine wpList_store_mid rfl 28 _ _ rfl w1.heap.size 0 (optC o (.slice ao1 ks.length cp1) (.slice ao2 l.length cp2)).toArray rfl rfl TH.out info28 (optC_one o _ _ _ _ _ _) ?_; rw [List.toList_toArray]))
    | (guard_target =~ wpList _ _ _ (⟨some _, Op.load 28 _, _, _, _, _⟩ :: _) _ _; go_must (refine wpList_load_mid rfl 28 _ rfl w1.heap.size 0 rfl (optC o (.slice ao1 ks.length cp1) (.slice ao2 l.length cp2)) _ AF.out.two Try.underlying28 rfl info28 ?_))
  refine (eff_ok o ks _ _ _ AF.out.key HKL.out).mono ?_
  rintro e w3 ⟨g, c, rfl, hg1, hg2, hg3, hb3⟩
  have AF3 := Lib.hid (AF.out.step hb3)
  have HK3 := Lib.hid ((HK.out.keep AF3.out.below (Nat.le_refl _)).mono AF3.out.below.size)
  have HF3 := Lib.hid ((HF.out.keep AF3.out.below (Nat.le_refl _)).mono AF3.out.below.size)
  have G3 := Lib.hid hg3
  clear hg1 hg3 hb3 AF TH
  go_wp2_with first
    | (guard_target =~ wpList _ _ _ (⟨some 10, Op.load 28 _, _, _, _, _⟩ :: _) _ _; go_must (refine wpList_load_mid rfl 28 _ rfl w.heap.size 0 rfl (optC o (.slice ka ks.length kcp) (.slice fa l.length fcp)) _ AF3.out.opt.range Try.underlying28 rfl info28 ?_))
  refine (ref_ok o ks _ _ _ HK3.out HKL.out).mono ?_
  rintro e w4 ⟨g', c', rfl, hq1, hq2, hq3, hb4⟩
  have AF4 := Lib.hid (AF3.out.step hb4)
  have HK4 := Lib.hid ((HK3.out.keep hb4 (Nat.le_refl _)).mono hb4.size)
  have HF4 := Lib.hid ((HF3.out.keep hb4 (Nat.le_refl _)).mono hb4.size)
  have G4 := Lib.hid (range_below G3.out hb4 hg2)
  have Q4 := Lib.hid hq3
  have hl4 : g < w4.heap.size := Nat.lt_of_lt_of_le hg2 hb4.size
  clear hq1 hq3 hb4 HK3 HF3 AF3 G3 hg2
  have HL := Lib.hid (dflt_len o ks HKL.out)
  have hkeys := keys_ok ((dflt ks).map (own o)) g g' c c' w4 hl4 hq2 G4.out Q4.out HL.out
  rw [List.length_map] at hkeys
  have HKEYS := Lib.hid hkeys
  clear hkeys
  go_wp2_with fail
  refine HKEYS.out.mono ?_
  rintro e w5 ⟨rfl, hb5⟩
  have AF5 := Lib.hid (AF4.out.step hb5)
  have HK5 := Lib.hid ((HK4.out.keep hb5 (Nat.le_refl _)).mono hb5.size)
  have HF5 := Lib.hid ((HF4.out.keep hb5 (Nat.le_refl _)).mono hb5.size)
  clear hb5 HK4 HF4 AF4 G4 Q4 hq2 hl4
  go_wp2_with first
    | (guard_target =~ wpList _ _ _ (⟨some 14, Op.load 28 _, _, _, _, _⟩ :: _) _ _; go_must (refine wpList_load_mid_g (by rfl) 28 _ rfl w1.heap.size 0 rfl (optC o (.slice ao1 ks.length cp1) (.slice ao2 l.length cp2)) _ AF5.out.two Try.underlying28 rfl info28 ?_))
    | (guard_target =~ wpList _ _ _ (⟨some 15, Op.load 28 _, _, _, _, _⟩ :: _) _ _; go_must (refine wpList_load_mid_g (by rfl) 28 _ rfl w.heap.size 0 rfl (optC o (.slice ka ks.length kcp) (.slice fa l.length fcp)) _ AF5.out.opt.range Try.underlying28 rfl info28 ?_))
  have q1 := slat_v AF5.out.key
  have q2 := slat_v HK5.out
  have q3 := slat_v AF5.out.file
  have q4 := slat_v HF5.out
  refine (same_ok o ks l ao1 ka ao2 fa cp1 kcp cp2 fcp w5 q1 q2 q3 q4 HKL.out HFL.out).mono ?_
  rintro e w6 ⟨rfl, hb6⟩
  have AF6 := Lib.hid (AF5.out.step hb6)
  clear q1 q2 q3 q4 hb6
  go_wp2_with fail
  go_ret
  exact ⟨rfl, AF6.out.below⟩
end Go.Proofs.Ytbgbmojoldkcfaa
