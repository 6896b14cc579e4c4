/- twin: a copy of options. -/
import Derived.Test.YtbgbmojoldkcfaaBase
import Derived.Deep.MidRow
import Derived.Deep.Upon
import Derived.Deep.DeepMust
import Derived.Lib.LazyBuf
namespace Go.Proofs.Ytbgbmojoldkcfaa
open Go.RowKit

/-- Options but for their keys and files. -/
structure Opt where
  mods : Nat
  tab : Int
  stable : Bool
  unique : Bool
  zero : Bool
  merge : Bool
  check : Nat
  output : ByteArray
  hasOutput : Bool
  lines : Int
  bytes : Int
  fan : Int
  parallel : Int
  temp : ByteArray
  pack : Bool
  checkpoint : ByteArray
def optC (o : Opt) (kv fv : Value) : List Value :=
  [kv, .int .u16 o.mods, .int .i64 o.tab, .bool o.stable, .bool o.unique, .bool o.zero, .bool o.merge, .int .u8 o.check, .string o.output, .bool o.hasOutput, .int .i64 o.lines, .int .i64 o.bytes, .int .i64 o.fan, .int .i64 o.parallel, .string o.temp, .bool o.pack, .string o.checkpoint, fv]
def optV (o : Opt) (kv fv : Value) : Value := .agg (optC o kv fv).toArray

theorem CellsAt.range {w : World} {b : Nat} {vs : List Value} (h : CellsAt w b vs) : w.rangeAt b 0 vs := fun j v hv => by
  rw [Nat.zero_add]; exact h.cell j v hv
theorem CellsAt.there {w : World} {b : Nat} {vs : List Value} (h : CellsAt w b vs) : w.there b 0 vs.length := fun j hj => by
  rw [Nat.zero_add, h.cell j _ (List.getElem?_eq_getElem hj)]
  exact ⟨rfl, h.free j⟩
theorem own_sets {w : World} {B : Nat} {e : TypeId} {size n : Nat} {v : Value} {xs : List Value} (h : w.ownsRow B e size v n xs) (b : Nat) (hb : b < B) (o : Nat) (vs : List Value) : (w.setCells b o vs).ownsRow B e size v n xs :=
  own_keep h fun g hg => World.heap_setCells_other w b o vs (h.lt g hg).2 (by have := (h.lt g hg).1; omega)
theorem optC_one (o : Opt) (a b : Option Addr) (n m c d : Nat) : (optC o (.slice a n c) (.slice b m d)).toArray.all (·.oneCell') = true := by simp [optC, Value.oneCell']
theorem info28 : (Try.prog.info? 28).map (·.size) = some 18 := by kernel_rfl

theorem results_range {P : Program} {fn : Func} {p : Tmp} {ty : TypeId} (h : fn.results = #[.cell p ty]) (tmps : Array Value) (w : World) (b : Nat) (cs : List Value) (d : TypeDesc)
    (hp : tmps.getD p undef = .pointer (some ⟨b, 0, none⟩)) (hc : w.rangeAt b 0 cs) (hu : P.underlying ty = some d) (hd : d.isRow = true) (hi : (P.info? ty).map (·.size) = some cs.length) :
    (results fn tmps).run P w = .ok (.agg cs.toArray) w := by
  have hp' : tmps[p]?.getD undef = .pointer (some ⟨b, 0, none⟩) := by simpa using hp
  simp [results, h, hp', asAddr, run_loadVar_mid w b 0 ty cs d hc hu hd hi]

def RetTwin (w : World) (o : Opt) (ks : List KeyL) (l : List ByteArray) (e : Ending) (w' : World) : Prop :=
  ∃ kv fv, e = .returned (optV o kv fv) ∧ w'.ownsRow w.heap.size 35 6 kv ks.length (ksV ks) ∧ w'.ownsRow w.heap.size 9 1 fv l.length (wsV l) ∧ Below w.heap.size w w'

set_option maxRecDepth 100000
set_option maxHeartbeats 1600000 in
theorem twin_ok (o : Opt) (ks : List KeyL) (l : List ByteArray) (kv fv : Value) (w : World) (hk : SlAt w w.heap.size kv 6 ks.length (ksV ks)) (hf : SlAt w w.heap.size fv 1 l.length (wsV l)) (hkl : ks.length * 40 ≤ 140737488355328) (hfl : l.length * 16 ≤ 140737488355328) :
    Calls Try.prog 4 #[optV o kv fv] w (RetTwin w o ks l) := by
  unfold optV optC
  have HK := Lib.hid hk
  have HF := Lib.hid hf
  clear hk hf
  have hs2 : ((w.alloc (Obj.cells #[kv, .int .u16 o.mods, .int .i64 o.tab, .bool o.stable, .bool o.unique, .bool o.zero, .bool o.merge, .int .u8 o.check, .string o.output, .bool o.hasOutput, .int .i64 o.lines, .int .i64 o.bytes, .int .i64 o.fan, .int .i64 o.parallel, .string o.temp, .bool o.pack, .string o.checkpoint, fv] 28)).alloc (Obj.cells #[.slice none 0 0, .int .u16 0, .int .i64 0, .bool false, .bool false, .bool false, .bool false, .int .u8 0, .string ⟨#[]⟩, .bool false, .int .i64 0, .int .i64 0, .int .i64 0, .int .i64 0, .string ⟨#[]⟩, .bool false, .string ⟨#[]⟩, .slice none 0 0] 28)).heap.size = w.heap.size + 2 := by simp
  have A0 := Lib.hid ((CellsAt.new w [kv, .int .u16 o.mods, .int .i64 o.tab, .bool o.stable, .bool o.unique, .bool o.zero, .bool o.merge, .int .u8 o.check, .string o.output, .bool o.hasOutput, .int .i64 o.lines, .int .i64 o.bytes, .int .i64 o.fan, .int .i64 o.parallel, .string o.temp, .bool o.pack, .string o.checkpoint, fv] 28).alloc (Obj.cells #[.slice none 0 0, .int .u16 0, .int .i64 0, .bool false, .bool false, .bool false, .bool false, .int .u8 0, .string ⟨#[]⟩, .bool false, .int .i64 0, .int .i64 0, .int .i64 0, .int .i64 0, .string ⟨#[]⟩, .bool false, .string ⟨#[]⟩, .slice none 0 0] 28))
  have Z0 := CellsAt.new (w.alloc (Obj.cells #[kv, .int .u16 o.mods, .int .i64 o.tab, .bool o.stable, .bool o.unique, .bool o.zero, .bool o.merge, .int .u8 o.check, .string o.output, .bool o.hasOutput, .int .i64 o.lines, .int .i64 o.bytes, .int .i64 o.fan, .int .i64 o.parallel, .string o.temp, .bool o.pack, .string o.checkpoint, fv] 28)) [.slice none 0 0, .int .u16 0, .int .i64 0, .bool false, .bool false, .bool false, .bool false, .int .u8 0, .string ⟨#[]⟩, .bool false, .int .i64 0, .int .i64 0, .int .i64 0, .int .i64 0, .string ⟨#[]⟩, .bool false, .string ⟨#[]⟩, .slice none 0 0] 28
  rw [show (w.alloc (Obj.cells #[kv, .int .u16 o.mods, .int .i64 o.tab, .bool o.stable, .bool o.unique, .bool o.zero, .bool o.merge, .int .u8 o.check, .string o.output, .bool o.hasOutput, .int .i64 o.lines, .int .i64 o.bytes, .int .i64 o.fan, .int .i64 o.parallel, .string o.temp, .bool o.pack, .string o.checkpoint, fv] 28)).heap.size = w.heap.size + 1 by simp] at Z0
  have HZ0 := Lib.hid Z0
  have B0 := Lib.hid (((Below.refl w.heap.size w).alloc (Nat.le_refl _) (Obj.cells #[kv, .int .u16 o.mods, .int .i64 o.tab, .bool o.stable, .bool o.unique, .bool o.zero, .bool o.merge, .int .u8 o.check, .string o.output, .bool o.hasOutput, .int .i64 o.lines, .int .i64 o.bytes, .int .i64 o.fan, .int .i64 o.parallel, .string o.temp, .bool o.pack, .string o.checkpoint, fv] 28)).alloc (by simp) (Obj.cells #[.slice none 0 0, .int .u16 0, .int .i64 0, .bool false, .bool false, .bool false, .bool false, .int .u8 0, .string ⟨#[]⟩, .bool false, .int .i64 0, .int .i64 0, .int .i64 0, .int .i64 0, .string ⟨#[]⟩, .bool false, .string ⟨#[]⟩, .slice none 0 0] 28))
  have HS2 := Lib.hid hs2
  clear Z0 hs2
  go_enter Try.func4, Try.ntmps4
  have a0 := A0.out.cell 0 _ rfl
  go_wp2_with (at_builtin; refine wp_copyK rfl _ _ rfl (w.heap.size + 2) (by rw [HS2.out]; exact Nat.le_refl _) rfl kv rfl ks w.heap.size (HK.out.keep B0.out (Nat.le_refl _)) hkl ?_)
  intro v1 w1 h1 hb1
  obtain ⟨ao1, cp1, rfl⟩ := own_slice h1
  have A1 := Lib.hid (A0.out.keep hb1 (by omega))
  have Z1 := Lib.hid (HZ0.out.keep hb1 (by omega))
  have B1 := Lib.hid (B0.out.trans (hb1.mono (by omega)))
  have O1 := Lib.hid h1
  have L1 := Lib.hid (show w.heap.size + 2 ≤ w1.heap.size by have := hb1.size; have h2 := HS2.out; omega)
  clear h1 hb1 a0
  have a0 := A1.out.cell 0 _ rfl
  have f0 := A1.out.free 0
  have A2 := Lib.hid (A1.out.set 0 (.slice ao1 ks.length cp1) (by simp))
  have a17 := A2.out.cell 17 _ rfl
  have Z2 := Lib.hid (Z1.out.other (show w.heap.size ≠ w.heap.size + 1 by omega) 0 (.slice ao1 ks.length cp1))
  have B2 := Lib.hid (B1.out.setCell (p := ⟨w.heap.size, 0, none⟩) (Nat.le_refl _) (.slice ao1 ks.length cp1))
  have O2 := Lib.hid (own_set O1.out w.heap.size (by omega) 0 (.slice ao1 ks.length cp1))
  go_wp2_with (at_builtin; refine wp_copyS rfl _ _ rfl (w.heap.size + 2) (by rw [show (w1.setCell ⟨w.heap.size, 0, none⟩ (.slice ao1 ks.length cp1)).heap.size = w1.heap.size by simp]; exact L1.out) rfl fv rfl l w.heap.size (HF.out.keep B2.out (Nat.le_refl _)) hfl ?_)
  intro v2 w3 h3 hb3
  obtain ⟨ao2, cp2, rfl⟩ := own_slice h3
  have A3 := Lib.hid (A2.out.keep hb3 (by have := L1.out; omega))
  have Z3 := Lib.hid (Z2.out.keep hb3 (by have := L1.out; omega))
  have B3 := Lib.hid (B2.out.trans (hb3.mono (by have := L1.out; omega)))
  have O3 := Lib.hid (own_below O2.out hb3 (by simp))
  have P3 := Lib.hid h3
  clear h3 hb3 a0 f0 a17
  have a17 := A3.out.cell 17 _ rfl
  have f17 := A3.out.free 17
  have A4 := Lib.hid (A3.out.set 17 (.slice ao2 l.length cp2) (by simp))
  have Z4 := Lib.hid (Z3.out.other (show w.heap.size ≠ w.heap.size + 1 by omega) 17 (.slice ao2 l.length cp2))
  have O4 := Lib.hid (own_set O3.out w.heap.size (by omega) 17 (.slice ao2 l.length cp2))
  have P4 := Lib.hid (own_set P3.out w.heap.size (by omega) 17 (.slice ao2 l.length cp2))
  have B4 := Lib.hid (B3.out.setCell (p := ⟨w.heap.size, 17, none⟩) (Nat.le_refl _) (.slice ao2 l.length cp2))
  have R4 : (((w3.setCell ⟨w.heap.size, 17, none⟩ (.slice ao2 l.length cp2)))).rangeAt w.heap.size 0 (optC o (.slice ao1 ks.length cp1) (.slice ao2 l.length cp2)) := A4.out.range
  have T4 := Z4.out.there
  have HR4 := Lib.hid R4
  have HT4 := Lib.hid T4
  clear R4 T4 A4 Z4 A3 Z3 A2 Z2 A1 Z1 A0 HZ0 B0 B1 B2 B3 O1 O2 O3 P3 HK HF
  go_wp2_with first
    | (guard_target =~ wpList _ _ _ (⟨some _, Op.load 28 _, _, _, _, _⟩ :: _) _ _; go_must (refine wpList_load_mid rfl 28 _ rfl w.heap.size 0 rfl (optC o (.slice ao1 ks.length cp1) (.slice ao2 l.length cp2)) _ HR4.out Try.underlying28 rfl info28 ?_))
    | (guard_target =~ wpList _ _ _ (⟨none, Op.store 28 _ _, _, _, _, _⟩ :: _) _ _; go_must (refine wpList_store_mid rfl 28 _ _ rfl (w.heap.size + 1) 0 (optC o (.slice ao1 ks.length cp1) (.slice ao2 l.length cp2)).toArray rfl rfl HT4.out info28 (optC_one o _ _ _ _ _ _) ?_; rw [List.toList_toArray]))
  have R5 := World.rangeAt_setCells_same _ (w.heap.size + 1) 0 (optC o (.slice ao1 ks.length cp1) (.slice ao2 l.length cp2)) HT4.out
  exact ⟨rfl, _, results_range rfl _ _ (w.heap.size + 1) _ _ rfl R5 Try.underlying28 rfl info28, _, _, rfl, own_mono (own_sets O4.out (w.heap.size + 1) (by omega) 0 _) (by omega), own_mono (own_sets P4.out (w.heap.size + 1) (by omega) 0 _) (by omega), below_setCells (by omega) _ 0 _ B4.out⟩
end Go.Proofs.Ytbgbmojoldkcfaa
