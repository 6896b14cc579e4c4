/- New of options without keys. -/
import Derived.Test.YtnpnccjeapejdaaGreatDoorKf
import Derived.Deep.AppendLies
import Derived.Deep.RegionHeldLaw
namespace Go.Proofs.YtnpnccjeapejdaaGreatDoor
open Go.RowKit

set_option maxRecDepth 100000
theorem count_ok (p n c : Nat) (a : Option Addr) (w : World) (h : w.cell? ⟨p, 0, none⟩ = some (.slice a n c)) : Calls Tryz.prog 8 #[.pointer (some ⟨p, 0, none⟩)] w (RetV w (.int .i64 (n : Int))) := by
  go_enter Tryz.func8, Tryz.ntmps8
  go_wp2_with fail
  go_ret
  exact ⟨rfl, rfl⟩
def ordC (v : Value) : List Value := [v, .bool true, .bool false]
/-- Within New. -/
structure NwIn (w x : World) (P T : Nat) (v : Value) : Prop where
  opt : CellsAt x w.heap.size o0C
  ord : CellsAt x P (ordC v)
  key : CellsAt x T k0C
  lo : w.heap.size < P
  mid : P < T
  below : Below w.heap.size w x
theorem NwIn.step {w x x2 : World} {P T : Nat} {v : Value} (h : NwIn w x P T v) (b : Below x.heap.size x x2) : NwIn w x2 P T v :=
  ⟨h.opt.step b, h.ord.step b, h.key.step b, h.lo, h.mid, h.below.trans (b.mono h.below.size)⟩
theorem NwIn.alloc {w x : World} {P T : Nat} {v : Value} (h : NwIn w x P T v) (o : Obj) : NwIn w (x.alloc o) P T v := h.step ((Below.refl _ _).alloc (Nat.le_refl _) o)
theorem NwIn.drew {w x : World} {P T : Nat} {v : Value} (h : NwIn w x P T v) : NwIn w x.drew P T v := ⟨drewC h.opt, drewC h.ord, drewC h.key, h.lo, h.mid, drewB h.below⟩
theorem info65k : (Tryz.prog.info? 59).map (fun i => (i.zero, i.size, i.bytes)) = some (some (.agg #[.int .i64 0, .int .i64 0, .int .i64 0, .int .i64 0, .int .u16 0, .bool false, .int .i64 0, .int .u8 0, .bool false, .nilFunc]), 10, 64) := by kernel_rfl
end Go.Proofs.YtnpnccjeapejdaaGreatDoor
