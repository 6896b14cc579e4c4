/- ParseKey, the program's: the walk. -/
import Derived.Test.YtbgbmojoldkcfaaDoorPkB
import Derived.Deep.RegionHeld3
namespace Go.Proofs.YtbgbmojoldkcfaaDoor
open Go.RowKit

set_option maxRecDepth 100000
set_option maxHeartbeats 6400000 in
theorem pk_bad (t : ByteArray) (w : World) (ht : t.size ≤ 140737488351232) (T : BitsT w) (a : Nat) (hp : placeS t.data.toList 0 1 = .bad a) : Calls Tryd.prog 11 #[.string t] w (RetKey w (keyS t.data.toList)) := by
  have IN := Lib.hid (PkIn.start w t T)
  have h2 := lt2 T
  have C1 := half_ok t 0 (w.heap.size + 1) 1 _ (by omega) ht (by omega) IN.out.sc (by omega) IN.out.bits
  rw [hp] at C1
  have C1 := Lib.hid C1
  have HR := Lib.hid (show keyS t.data.toList = (zeroK, a, 43) from by unfold keyS; rw [hp]; rfl)
  clear hp T
  generalize keyS t.data.toList = R at *
  go_enter Tryd.func11, Tryd.ntmps11
  go_wp2_with fail
  refine wp_scope_once (rest := ?r) 0 ?hf ?_
  case hf => simp [findLabel]; rfl
  go_wp2_with fail
  refine wp_label ?_
  go_wp2_with fail
  refine C1.out.mono ?_
  rintro e w1 ⟨⟨f, c, m, he⟩, hs, kx⟩
  obtain rfl : e = .returned (.tuple #[.agg #[.int .i64 (f : Int), .int .i64 (c : Int), .int .u16 (m : Int)], .bool false]) := he
  have I1 := Lib.hid (IN.out.half hs kx h2)
  clear hs kx
  go_wp2_with fail
  generalize hw : World.alloc w1 _ = x1
  have X1 := Lib.hid (show PkIn w t a _ x1 from by rw [← hw]; exact I1.out.alloc _)
  clear hw
  have s0 := X1.out.sc.cell 0 _ rfl
  have s1 := X1.out.sc.cell 1 _ rfl
  have r0 := X1.out.res.cell 0 _ rfl
  have r1 := X1.out.res.cell 1 _ rfl
  have r2 := X1.out.res.cell 2 _ rfl
  have r3 := X1.out.res.cell 3 _ rfl
  have r4 := X1.out.res.cell 4 _ rfl
  have r5 := X1.out.res.cell 5 _ rfl
  have f0 := X1.out.res.free 0
  have f1 := X1.out.res.free 1
  have f2 := X1.out.res.free 2
  have f3 := X1.out.res.free 3
  have f4 := X1.out.res.free 4
  have f5 := X1.out.res.free 5
  have hlr := X1.out.res.lt
  have s1d : x1.drew.cell? ⟨w.heap.size + 1, 1, none⟩ = some (.int .i64 (a : Int)) := s1
  go_region_held3 (fun w' => w'.cell? ⟨w.heap.size + 1, 1, none⟩ = some (.int .i64 (a : Int))) (first | go_keep) (fail)
  have Q := (X1.out.res.six rfl (.int .i64 0) (.int .i64 0) (.int .i64 0) (.int .i64 0) (.int .u16 0) (.bool false)).drew
  have e0 := Q.cell 0 _ rfl
  have e1 := Q.cell 1 _ rfl
  have e2 := Q.cell 2 _ rfl
  have e3 := Q.cell 3 _ rfl
  have e4 := Q.cell 4 _ rfl
  have e5 := Q.cell 5 _ rfl
  have HB := Lib.hid (below_six X1.out.below (Nat.le_refl _) (.int .i64 0) (.int .i64 0) (.int .i64 0) (.int .i64 0) (.int .u16 0) (.bool false))
  clear Q
  go_wp2_with fail
  exact bodyPost_ret (v := .tuple #[.agg #[.int .i64 0, .int .i64 0, .int .i64 0, .int .i64 0, .int .u16 0, .bool false], .int .i64 (a : Int), .int .i64 43]) (by simp [results, Tryd.results11, go_sem, e0, e1, e2, e3, e4, e5]) rfl ⟨by rw [HR.out]; rfl, HB.out.drew⟩
end Go.Proofs.YtbgbmojoldkcfaaDoor
