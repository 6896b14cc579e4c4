/- What is wrong with a block's frame. -/
import Derived.Test.YtfbeipfpkikakaaDoorLc
namespace Go.Proofs.YtfbeipfpkikakaaDoor
open Go.RowKit

set_option maxRecDepth 100000
set_option maxHeartbeats 1600000 in
theorem frameFault_ok (b off cp : Nat) (l : List UInt8) (hcp : l.length ≤ cp) (hl : cp ≤ 9223372036854775807) (m r d : Nat) (hL : l.length = 16 + d) (hr : r < 16777216) (hd : d < 16777216) (most : Int) (hmo : (r : Int) ≤ most) (w : World) (HB : HeldB w b off l) (T : Tabs w)
    (hs : numB (cutN l (12 + d) 4) = sumN (cutN l 12 d)) :
    Calls Tryd.prog 43 #[.slice (some ⟨b, off, none⟩) l.length cp, .agg #[.int .i64 m, .int .i64 r, .int .i64 d, .int .i64 (16 + (d : Int))], .int .i64 most] w (RetBelow w (.tuple #[.int .i64 0, .int .i64 0])) := by
  have l4 : (cutN l (12 + d) 4).length = 4 := cutN_len (by omega)
  have l8 : (cutN l 12 d).length = d := cutN_len (by omega)
  have b8 : sumN (cutN l 12 d) < 2 ^ 32 := sumMoreN_lt (by decide) _
  have NB := Lib.hid (fun (c : Nat) (W : World) (k : Below w.heap.size w W) => same_q (number_some b (off + (12 + d)) c (cutN l (12 + d) 4) (by omega) W ((HB.below k).cut (12 + d) 4).lt ((HB.below k).cut (12 + d) 4).cell))
  have SB := Lib.hid (fun (c : Nat) (W : World) (k : Below w.heap.size w W) => same_q (sum_ok _ (cutN l 12 d) W (by omega) (((HB.below k).cut 12 d).sl (c := c)) (T.below k)))
  rw [l4] at NB
  rw [l8] at SB
  rw [hs] at NB
  have hbl := HB.lt
  clear l4 l8 HB T hs
  generalize sumN (cutN l 12 d) = sb at *
  rw [hL] at hcp ⊢
  have t1 : decide (most < (r : Int)) = false := decide_eq_false (by omega)
  go_enter Tryd.func43, Tryd.ntmps43
  go_upto_region 1 with fail
  have A1 := Lib.hid (CellsAt.new w [.int .i64 m, .int .i64 r, .int .i64 d, .int .i64 (16 + (d : Int))] 44)
  have B1 := Lib.hid (below_alloc w (Obj.cells #[.int .i64 m, .int .i64 r, .int .i64 d, .int .i64 (16 + (d : Int))] 44))
  generalize hX : w.alloc (Obj.cells #[.int .i64 m, .int .i64 r, .int .i64 d, .int .i64 (16 + (d : Int))] 44) = x1 at *
  clear hX
  have a1 := A1.out.cell 1 _ rfl
  have a2 := A1.out.cell 2 _ rfl
  have a3 := A1.out.cell 3 _ rfl
  go_upto_region 8 with fail
  have j1 : (12 + (d : Int)).toNat = 12 + d := by omega
  have j2 : 16 + d - (12 + d) = 4 := by omega
  have j3 : (0 : Int) ≤ 12 + (d : Int) := by omega
  have j4 : 12 + (d : Int) ≤ ((16 + d : Nat) : Int) := by omega
  have j5 : 12 + (d : Int) ≤ (cp : Int) := by omega
  have j6 : ¬ cp = 12 + d := by omega
  have j7 : ¬ cp = 12 := by omega
  have j8 : 12 + d - 12 = d := by omega
  have j9 : (12 : Int) ≤ 12 + (d : Int) := by omega
  have ja : 12 + d ≤ 16 + d := by omega
  have jb : 12 + d ≤ cp := by omega
  have jc : 16 + d ≤ cp := hcp
  go_quiet ((first | (go_at_call 34; exact Calls.quiet_of_same (NB.out _ _ (bdrewB B1.out _))) | (go_at_call 12; exact Calls.quiet_of_same (SB.out _ _ (bdrewB B1.out _)))))
  clear j1 j2 j3 j4 j5 j6 j7 j8 j9 ja jb jc
  go_wp2_with fail
  go_ret2
  exact ⟨rfl, bdrewB B1.out _⟩
end Go.Proofs.YtfbeipfpkikakaaDoor
