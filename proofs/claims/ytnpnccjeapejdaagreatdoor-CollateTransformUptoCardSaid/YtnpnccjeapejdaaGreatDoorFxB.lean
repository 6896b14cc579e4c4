/- Does a byte count (Ct: 35), a text's copy (Cz: 33, 47), the text of a span (Cu: 28), Order.Filter and Order.Span (Of: 20, 16), millref5.Filter (Mi: 21). -/
import Derived.Test.YtnpnccjeapejdaaGreatDoorFxA
import Derived.Test.YtnpnccjeapejdaaGreatDoorSq
import Derived.Test.YtnpnccjeapejdaaGreatDoorProg
import Derived.Shelf.Strconv.Clone
import Derived.Ground.Names2Prog
import Derived.Test.YtnpnccjeapejdaaGreatDoorOs
import Derived.Deep.RegionHeld3
namespace Go.Proofs.YtnpnccjeapejdaaGreatDoor
section
open Go.RowKit
set_option maxRecDepth 100000

end
section
open Go.Shelf
end
section
open Go.RowKit
set_option maxRecDepth 100000
set_option maxHeartbeats 1600000 in
theorem cut_g (s : ByteArray) (pv : Value) (p q : Nat) (w : World) (hpq : p ≤ q) (hq : q ≤ s.size)
    (KS : Hid (∀ W, Below w.heap.size w W → Calls Tryz.prog 51 #[pv, .string s] W (RetBk W (.agg #[.int .i64 (p : Int), .int .i64 (q : Int)])))) :
    Calls Tryz.prog 34 #[pv, .string s] w (RetBk w (.string (s.extract p q))) := by
  go_enter Tryz.func34, Tryz.ntmps34
  go_wp2_with fail
  refine (KS.out _ (Below.refl _ _)).mono ?_
  rintro e w1 ⟨rfl, b1⟩
  have B := Lib.hid (b1.alloc b1.size (.cells #[.int .i64 (p : Int), .int .i64 (q : Int)] 90))
  clear KS b1
  go_wp2_with fail
  go_ret
  exact ⟨rfl, B.out⟩
end
section
open Go.RowKit
set_option maxRecDepth 100000
structure FlAt (w W : World) (gg k : Nat) (lets : Nat) (fold : Bool) : Prop where
  c7 : W.cell? ⟨gg, k + 7, none⟩ = some (.int .u8 (lets : Int))
  c8 : W.cell? ⟨gg, k + 8, none⟩ = some (.bool fold)
  lt : gg < W.heap.size
  bel : Below w.heap.size w W
theorem FlAt.step {w W W' : World} {gg k lets : Nat} {fold : Bool} (h : FlAt w W gg k lets fold) (b : Below W.heap.size W W') : FlAt w W' gg k lets fold :=
  ⟨(b.cell (p := ⟨gg, _, none⟩) h.lt).trans h.c7, (b.cell (p := ⟨gg, _, none⟩) h.lt).trans h.c8, Nat.lt_of_lt_of_le h.lt b.size, h.bel.trans (b.mono h.bel.size)⟩
end
section
open Go.RowKit
set_option maxRecDepth 100000
end
end Go.Proofs.YtnpnccjeapejdaaGreatDoor
