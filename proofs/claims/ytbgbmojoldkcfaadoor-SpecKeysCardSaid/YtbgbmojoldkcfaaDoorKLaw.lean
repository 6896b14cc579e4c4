/- SpecKeys: the walk. -/
import Derived.Test.YtbgbmojoldkcfaaDoorPkG
import Derived.Test.YtbgbmojoldkcfaaDoorNLaw
namespace Go.Proofs.YtbgbmojoldkcfaaDoor
open Go.RowKit

set_option maxHeartbeats 800000 in
theorem keys_law (s : ByteArray) (w : World) (hs : s.size ≤ 140737488351232) (T : BitsT w) : Calls Tryd.prog 4 #[.string s] w (RetB w (.bool true)) := by
  have C1 := Lib.hid (pkey_ok s w hs T)
  have C2 := Lib.hid (fun w' => rkey_ok s w' hs)
  clear T
  generalize keyS s.data.toList = p at *
  obtain ⟨⟨f, c, ef, ec, m, b⟩, at_, er⟩ := p
  go_enter Tryd.func4, Tryd.ntmps4
  go_wp2_with fail
  refine C1.out.mono ?_
  rintro e w1 ⟨he, hb1⟩
  obtain rfl : e = .returned (.tuple #[.agg #[.int .i64 (f : Int), .int .i64 (c : Int), .int .i64 (ef : Int), .int .i64 (ec : Int), .int .u16 (m : Int), .bool b], .int .i64 (at_ : Int), .int .i64 (er : Int)]) := he
  have B1 := Lib.hid hb1
  clear hb1 C1
  go_wp2_with fail
  have ZC := Lib.hid (CellsAt.new w1 [.int .i64 (f : Int), .int .i64 (c : Int), .int .i64 (ef : Int), .int .i64 (ec : Int), .int .u16 (m : Int), .bool b] 36)
  have B2 := Lib.hid (B1.out.alloc B1.out.size (.cells #[.int .i64 (f : Int), .int .i64 (c : Int), .int .i64 (ef : Int), .int .i64 (ec : Int), .int .u16 (m : Int), .bool b] 36))
  change Hid (CellsAt (w1.alloc (.cells #[.int .i64 (f : Int), .int .i64 (c : Int), .int .i64 (ef : Int), .int .i64 (ec : Int), .int .u16 (m : Int), .bool b] 36)) w1.heap.size _) at ZC
  generalize w1.alloc (.cells #[.int .i64 (f : Int), .int .i64 (c : Int), .int .i64 (ef : Int), .int .i64 (ec : Int), .int .u16 (m : Int), .bool b] 36) = w2 at *
  generalize w1.heap.size = H at *
  refine (C2.out _).mono ?_
  rintro e w3 ⟨he, hb3⟩
  obtain rfl : e = .returned (.tuple #[.agg #[.int .i64 (f : Int), .int .i64 (c : Int), .int .i64 (ef : Int), .int .i64 (ec : Int), .int .u16 (m : Int), .bool b], .int .i64 (at_ : Int), .int .i64 (er : Int)]) := he
  have Z3 := Lib.hid (ZC.out.step hb3)
  have B3 := Lib.hid (B2.out.trans (hb3.mono B2.out.size))
  clear hb3 ZC
  have z0 := Z3.out.cell 0 _ rfl
  have z1 := Z3.out.cell 1 _ rfl
  have z2 := Z3.out.cell 2 _ rfl
  have z3 := Z3.out.cell 3 _ rfl
  have z4 := Z3.out.cell 4 _ rfl
  have z5 := Z3.out.cell 5 _ rfl
  have zl := Z3.out.lt
  go_wp2_with (first | (go_at_call 10; refine (num_ok _ _).mono ?_; rintro e w' ⟨rfl, rfl⟩))
  go_ret
  exact ⟨rfl, B3.out.alloc B3.out.size _⟩
end Go.Proofs.YtbgbmojoldkcfaaDoor
