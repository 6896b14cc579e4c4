/- twin: a copy of options. -/
import Derived.Test.YtgpcmlbmmcnkjaaGreatDoorBase
import Derived.Deep.MidRow
import Derived.Deep.Upon
import Derived.Deep.DeepMust
import Derived.Lib.LazyBuf
namespace Go.Proofs.YtgpcmlbmmcnkjaaGreatDoor
open Go.RowKit

/-- Options but for their keys and files. -/
structure Opt where
  mods : Nat
  tab : Int
  stable : Bool
  unique : Bool
  zero : Bool
  merge : Bool
  check : Nat
  output : ByteArray
  hasOutput : Bool
  lines : Int
  bytes : Int
  fan : Int
  parallel : Int
  temp : ByteArray
  pack : Bool
  checkpoint : ByteArray
def optC (o : Opt) (kv fv : Value) : List Value :=
  [kv, .int .u16 o.mods, .int .i64 o.tab, .bool o.stable, .bool o.unique, .bool o.zero, .bool o.merge, .int .u8 o.check, .string o.output, .bool o.hasOutput, .int .i64 o.lines, .int .i64 o.bytes, .int .i64 o.fan, .int .i64 o.parallel, .string o.temp, .bool o.pack, .string o.checkpoint, fv]
def optV (o : Opt) (kv fv : Value) : Value := .agg (optC o kv fv).toArray

theorem CellsAt.range {w : World} {b : Nat} {vs : List Value} (h : CellsAt w b vs) : w.rangeAt b 0 vs := fun j v hv => by
  rw [Nat.zero_add]; exact h.cell j v hv
theorem CellsAt.there {w : World} {b : Nat} {vs : List Value} (h : CellsAt w b vs) : w.there b 0 vs.length := fun j hj => by
  rw [Nat.zero_add, h.cell j _ (List.getElem?_eq_getElem hj)]
  exact ⟨rfl, h.free j⟩
theorem own_sets {w : World} {B : Nat} {e : TypeId} {size n : Nat} {v : Value} {xs : List Value} (h : w.ownsRow B e size v n xs) (b : Nat) (hb : b < B) (o : Nat) (vs : List Value) : (w.setCells b o vs).ownsRow B e size v n xs :=
  own_keep h fun g hg => World.heap_setCells_other w b o vs (h.lt g hg).2 (by have := (h.lt g hg).1; omega)
theorem optC_one (o : Opt) (a b : Option Addr) (n m c d : Nat) : (optC o (.slice a n c) (.slice b m d)).toArray.all (·.oneCell') = true := by simp [optC, Value.oneCell']
theorem info28 : (Tryz.prog.info? 28).map (·.size) = some 18 := by kernel_rfl

theorem results_range {P : Program} {fn : Func} {p : Tmp} {ty : TypeId} (h : fn.results = #[.cell p ty]) (tmps : Array Value) (w : World) (b : Nat) (cs : List Value) (d : TypeDesc)
    (hp : tmps.getD p undef = .pointer (some ⟨b, 0, none⟩)) (hc : w.rangeAt b 0 cs) (hu : P.underlying ty = some d) (hd : d.isRow = true) (hi : (P.info? ty).map (·.size) = some cs.length) :
    (results fn tmps).run P w = .ok (.agg cs.toArray) w := by
  have hp' : tmps[p]?.getD undef = .pointer (some ⟨b, 0, none⟩) := by simpa using hp
  simp [results, h, hp', asAddr, run_loadVar_mid w b 0 ty cs d hc hu hd hi]

end Go.Proofs.YtgpcmlbmmcnkjaaGreatDoor
