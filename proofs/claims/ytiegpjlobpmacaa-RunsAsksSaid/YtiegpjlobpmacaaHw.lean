/- The heap: less, above, ahead. -/
import Derived.Test.YtiegpjlobpmacaaHp
import Derived.ProofKit
import Derived.WalkKit
import Derived.Laws.EntriesVeiled
import Derived.Scope
import Derived.Deep.Cut
import Derived.Deep.QuietTactic
import Derived.BigQuiet
import Derived.IntWalk
import Derived.Deep.RegionHeld3
import Derived.StillTailTactics
namespace Go.Proofs.Ytiegpjlobpmacaa
open Go.RowKit
set_option maxRecDepth 100000

theorem less_ok (k1 w1 k2 w2 : Int) (w : World) : Calls Try.prog 6 #[.agg #[.int .i64 k1, .int .i64 w1], .agg #[.int .i64 k2, .int .i64 w2]] w (RetBelow w (.bool (decide (k1 < k2)))) := by
  go_enter Try.func6, Try.ntmps6
  go_wp2_with fail
  go_ret
  exact ⟨rfl, ((Below.refl _ _).alloc (Nat.le_refl _) _).alloc (by simp) _⟩
theorem above_pos (p : Nat) (hp : 0 < p) (hb : p ≤ 1099511627776) (w : World) : Calls Try.prog 20 #[.int .i64 (p : Int)] w (Same w (.int .i64 (abv p : Int))) := by
  have e : (abv p : Int) = ((p : Int) + 1) / 2 - 1 := by unfold abv; omega
  rw [e]
  clear e
  go_enter Try.func20, Try.ntmps20
  go_wp2_with fail
  go_ret
  exact ⟨rfl, rfl⟩
theorem above_zero (w : World) : Calls Try.prog 20 #[.int .i64 0] w (Same w (.int .i64 (-1))) := by
  go_enter Try.func20, Try.ntmps20
  go_wp2_with fail
  go_ret
  exact ⟨rfl, rfl⟩
def itA (x : It) : Value := .agg #[.int .i64 x.key, .int .i64 x.who, .int .u64 (x.num : Int)]
/-- A heap's function. -/
structure LessAt (w : World) (h : Nat) : Prop where
  lt : h < w.heap.size
  cell : w.cell? ⟨h, 0, none⟩ = some (.func (.func 6) #[] #[])
theorem LessAt.keep {w w' : World} {h : Nat} (l : LessAt w h) (k : Below w.heap.size w w') : LessAt w' h := ⟨Nat.lt_of_lt_of_le l.lt k.size, ((bcell k).1 h 0 l.lt).trans l.cell⟩
set_option maxHeartbeats 800000 in
theorem ahead_ok {w : World} {h : Nat} (hl : LessAt w h) (x y : It) : Calls Try.prog 24 #[.pointer (some ⟨h, 0, none⟩), .agg #[.int .i64 x.key, .int .i64 x.who, .int .u64 (x.num : Int)], .agg #[.int .i64 y.key, .int .i64 y.who, .int .u64 (y.num : Int)]] w (RetBelow w (.bool (ahd x y))) := by
  obtain ⟨xk, xw, xn⟩ := x
  obtain ⟨yk, yw, yn⟩ := y
  have hc := hl.cell
  have hlt := hl.lt
  by_cases hn : xn < yn
  · have e : ahd ⟨xk, xw, xn⟩ ⟨yk, yw, yn⟩ = !(decide (yk < xk)) := if_pos hn
    have t1 : decide (xn < yn) = true := decide_eq_true hn
    rw [e]
    clear e hn
    go_enter Try.func24, Try.ntmps24
    go_upto_region 2 with fail
    have R1 := Lib.hid ((CellsAt.new w [.int .i64 xk, .int .i64 xw, .int .u64 (xn : Int)] 50).alloc (.cells #[.int .i64 yk, .int .i64 yw, .int .u64 (yn : Int)] 50))
    have R2 := Lib.hid (CellsAt.new (w.alloc (.cells #[.int .i64 xk, .int .i64 xw, .int .u64 (xn : Int)] 50)) [.int .i64 yk, .int .i64 yw, .int .u64 (yn : Int)] 50)
    have B1 := Lib.hid (((Below.refl w.heap.size w).alloc (Nat.le_refl _) (.cells #[.int .i64 xk, .int .i64 xw, .int .u64 (xn : Int)] 50)).alloc (by simp) (.cells #[.int .i64 yk, .int .i64 yw, .int .u64 (yn : Int)] 50))
    have LE := Lib.hid (fun W : World => less_ok yk yw xk xw W)
    change Hid (CellsAt ((w.alloc (.cells #[.int .i64 xk, .int .i64 xw, .int .u64 (xn : Int)] 50)).alloc (.cells #[.int .i64 yk, .int .i64 yw, .int .u64 (yn : Int)] 50)) (w.alloc (.cells #[.int .i64 xk, .int .i64 xw, .int .u64 (xn : Int)] 50)).heap.size _) at R2
    have hs2 : (w.alloc (.cells #[.int .i64 xk, .int .i64 xw, .int .u64 (xn : Int)] 50)).heap.size = w.heap.size + 1 := by simp
    rw [hs2] at R2
    clear hs2
    have hc1 := (((bcell B1.out).1 h 0 hlt)).trans hc
    clear hc
    generalize (w.alloc (.cells #[.int .i64 xk, .int .i64 xw, .int .u64 (xn : Int)] 50)).alloc (.cells #[.int .i64 yk, .int .i64 yw, .int .u64 (yn : Int)] 50) = x1 at R1 R2 B1 hc1 ⊢
    have a0 := R1.out.cell 0 _ rfl
    have a1 := R1.out.cell 1 _ rfl
    have a2 := R2.out.cell 0 _ rfl
    have a3 := R2.out.cell 1 _ rfl
    have a4 := R1.out.lt
    have a5 := R2.out.lt
    go_still_tail 8, (by kernel_rfl)
    change wpList _ _ _ _ _ (World.drew _)
    go_wp2_with fail
    refine (LE.out _).mono ?_
    rintro e w1 ⟨rfl, hb⟩
    go_wp2_with fail
    go_ret
    exact ⟨rfl, B1.out.drew.trans (hb.mono B1.out.drew.size)⟩
  · have e : ahd ⟨xk, xw, xn⟩ ⟨yk, yw, yn⟩ = decide (xk < yk) := if_neg hn
    have t1 : decide (xn < yn) = false := decide_eq_false hn
    rw [e]
    clear e hn
    go_enter Try.func24, Try.ntmps24
    go_upto_region 3 with fail
    have R1 := Lib.hid ((CellsAt.new w [.int .i64 xk, .int .i64 xw, .int .u64 (xn : Int)] 50).alloc (.cells #[.int .i64 yk, .int .i64 yw, .int .u64 (yn : Int)] 50))
    have R2 := Lib.hid (CellsAt.new (w.alloc (.cells #[.int .i64 xk, .int .i64 xw, .int .u64 (xn : Int)] 50)) [.int .i64 yk, .int .i64 yw, .int .u64 (yn : Int)] 50)
    have B1 := Lib.hid (((Below.refl w.heap.size w).alloc (Nat.le_refl _) (.cells #[.int .i64 xk, .int .i64 xw, .int .u64 (xn : Int)] 50)).alloc (by simp) (.cells #[.int .i64 yk, .int .i64 yw, .int .u64 (yn : Int)] 50))
    have LE := Lib.hid (fun W : World => less_ok xk xw yk yw W)
    change Hid (CellsAt ((w.alloc (.cells #[.int .i64 xk, .int .i64 xw, .int .u64 (xn : Int)] 50)).alloc (.cells #[.int .i64 yk, .int .i64 yw, .int .u64 (yn : Int)] 50)) (w.alloc (.cells #[.int .i64 xk, .int .i64 xw, .int .u64 (xn : Int)] 50)).heap.size _) at R2
    have hs2 : (w.alloc (.cells #[.int .i64 xk, .int .i64 xw, .int .u64 (xn : Int)] 50)).heap.size = w.heap.size + 1 := by simp
    rw [hs2] at R2
    clear hs2
    have hc1 := (((bcell B1.out).1 h 0 hlt)).trans hc
    clear hc
    generalize (w.alloc (.cells #[.int .i64 xk, .int .i64 xw, .int .u64 (xn : Int)] 50)).alloc (.cells #[.int .i64 yk, .int .i64 yw, .int .u64 (yn : Int)] 50) = x1 at R1 R2 B1 hc1 ⊢
    have a0 := R1.out.cell 0 _ rfl
    have a1 := R1.out.cell 1 _ rfl
    have a2 := R2.out.cell 0 _ rfl
    have a3 := R2.out.cell 1 _ rfl
    have a4 := R1.out.lt
    have a5 := R2.out.lt
    go_still_tail 8, (by kernel_rfl)
    change wpList _ _ _ _ _ (World.drew _)
    go_wp2_with fail
    refine (LE.out _).mono ?_
    rintro e w1 ⟨rfl, hb⟩
    go_wp2_with fail
    go_ret
    exact ⟨rfl, B1.out.drew.trans (hb.mono B1.out.drew.size)⟩
end Go.Proofs.Ytiegpjlobpmacaa
