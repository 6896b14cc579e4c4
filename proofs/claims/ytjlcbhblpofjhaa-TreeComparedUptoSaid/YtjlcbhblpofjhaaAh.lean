/- The tree of losers: ahead. -/
import Derived.Test.YtjlcbhblpofjhaaTr
namespace Go.Proofs.Ytjlcbhblpofjhaa
open Go.RowKit
set_option maxRecDepth 100000
theorem ahead_both {σ : Type} {E : Env σ} {T : TS σ} {one other : Nat} {x y : It} (h1 : T.H one = some x) (h2 : T.H other = some y) : aheadM E T one other = (decide ((E.nO T.s x y).1 < 0) || (decide ((E.nO T.s x y).1 = 0) && decide (one < other)), { T with cmpd := T.cmpd + 1, s := (E.nO T.s x y).2 }) := by
  unfold aheadM
  rw [h1, h2]
theorem ahead_one {σ : Type} {E : Env σ} {T : TS σ} {one other : Nat} {x : It} (h1 : T.H one = some x) (h2 : T.H other = none) : aheadM E T one other = (true, T) := by
  unfold aheadM
  rw [h1, h2]
theorem ahead_none {σ : Type} {E : Env σ} {T : TS σ} {one other : Nat} (h1 : T.H one = none) : aheadM E T one other = (false, T) := by
  unfold aheadM
  rw [h1]
theorem two_first (w : World) (a b : List Value) (t : TypeId) : CellsAt ((w.alloc (.cells a.toArray t)).alloc (.cells b.toArray t)).drew w.heap.size a :=
  have c := (CellsAt.new w a t).alloc (.cells b.toArray t)
  ⟨c.lt, c.cell, c.free⟩
theorem two_second (w : World) (a b : List Value) (t : TypeId) : CellsAt ((w.alloc (.cells a.toArray t)).alloc (.cells b.toArray t)).drew (w.heap.size + 1) b := by
  have c := CellsAt.new (w.alloc (.cells a.toArray t)) b t
  have e : (w.alloc (.cells a.toArray t)).heap.size = w.heap.size + 1 := by simp
  rw [e] at c
  exact ⟨c.lt, c.cell, c.free⟩
set_option maxHeartbeats 8000000 in
theorem ahead_both_ok {σ : Type} {E : Env σ} {G : Geo} {busy : Bool} {w : World} {Y : Nat → Prop} {T : TS σ} (ok : E.Ok G.k) (h : TreeAt E G busy w Y T) (one other : Nat) (ho : one < G.k) (hp : other < G.k) (hb : T.cmpd < 1099511627776) (x y : It) (hx : T.H one = some x) (hy : T.H other = some y) :
    Calls Try.prog 51 #[.pointer (some ⟨G.t, 0, none⟩), .int .i64 (one : Int), .int .i64 (other : Int)] w (StepR E G busy w Y (.bool (aheadM E T one other).1) (aheadM E T one other).2) := by
  have a0 := h.h0 one ho
  have a1 := h.h1 one ho
  have a2 := h.h2 one ho
  have b0 := h.h0 other hp
  have b1 := h.h1 other hp
  have b2 := h.h2 other hp
  rw [hx] at a0 a1 a2
  rw [hy] at b0 b1 b2
  change _ = some (Value.int .i64 x.key) at a0
  change _ = some (Value.int .i64 x.who) at a1
  change _ = some (Value.bool true) at a2
  change _ = some (Value.int .i64 y.key) at b0
  change _ = some (Value.int .i64 y.who) at b1
  change _ = some (Value.bool true) at b2
  rw [ahead_both hx hy]
  obtain ⟨xk, xw⟩ := x
  obtain ⟨yk, yw⟩ := y
  have HH := Lib.hid h
  have OK := Lib.hid ok
  have HB := Lib.hid hb
  have c2 := h.tree.cell 2 _ rfl
  have lt := h.tree.lt
  have lh := h.hlt
  have o1 : (one : Int) < (G.k : Int) := by omega
  have o2 : (0 : Int) ≤ (one : Int) := by omega
  have p1 : (other : Int) < (G.k : Int) := by omega
  have p2 : (0 : Int) ≤ (other : Int) := by omega
  clear h hx hy ok
  go_enter Try.func51, Try.ntmps51
  go_upto_region 1 with fail
  go_region
  · clear a0 a1 a2 b0 b1 b2 c2 o1 o2 p1 p2
    have B1 := Lib.hid (((Below.refl w.heap.size w).alloc (Nat.le_refl _) (.cells #[.int .i64 xk, .int .i64 xw, .bool true] 89)).alloc (by simp) (.cells #[.int .i64 yk, .int .i64 yw, .bool true] 89)).drew
    have R1 := Lib.hid (show CellsAt ((w.alloc (.cells #[.int .i64 xk, .int .i64 xw, .bool true] 89)).alloc (.cells #[.int .i64 yk, .int .i64 yw, .bool true] 89)).drew w.heap.size [.int .i64 xk, .int .i64 xw, .bool true] from two_first w _ _ 89)
    have R2 := Lib.hid (show CellsAt ((w.alloc (.cells #[.int .i64 xk, .int .i64 xw, .bool true] 89)).alloc (.cells #[.int .i64 yk, .int .i64 yw, .bool true] 89)).drew (w.heap.size + 1) [.int .i64 yk, .int .i64 yw, .bool true] from two_second w _ _ 89)
    generalize ((w.alloc (.cells #[.int .i64 xk, .int .i64 xw, .bool true] 89)).alloc (.cells #[.int .i64 yk, .int .i64 yw, .bool true] 89)).drew = x1 at R1 R2 B1 ⊢
    have NE1 := Lib.hid (show w.heap.size ≠ G.t by omega)
    have NE2 := Lib.hid (show (w.heap.size + 1) ≠ G.t by omega)
    generalize w.heap.size + 1 = pb at R1 R2 NE1 NE2 ⊢
    have H1 := Lib.hid (HH.out.below OK.out B1.out)
    have M1 := Lib.hid (Moves.below B1.out (own G Y))
    clear HH B1
    generalize w.heap.size = pa at R1 R2 NE1 NE2 ⊢
    have r2 := R1.out.cell 2 _ rfl
    have s2 := R2.out.cell 2 _ rfl
    have lp := R1.out.lt
    have lq := R2.out.lt
    have c9 := H1.out.tree.cell 9 _ rfl
    have f9 := H1.out.tree.free 9
    have lt := H1.out.tree.lt
    have g1 : (T.cmpd : Int) < 1099511627776 := by have := HB.out; omega
    have g2 : (0 : Int) ≤ (T.cmpd : Int) := by omega
    go_upto_region 5 with fail
    have H2 := Lib.hid (show TreeAt E G busy (x1.setCell ⟨G.t, 9, none⟩ (.int .i64 ((T.cmpd : Int) + 1))) Y { T with cmpd := T.cmpd + 1 } from H1.out.setT OK.out 9 _ _ (by unfold treeC; simp) (by omega) rfl rfl rfl H1.out.fst)
    have M2 := Lib.hid (M1.out.set (a := ⟨G.t, 9, none⟩) (own_t G Y) (.int .i64 ((T.cmpd : Int) + 1)))
    have R3 := Lib.hid (R1.out.other (c := G.t) (fun e => NE1.out e.symm) 9 (.int .i64 ((T.cmpd : Int) + 1)))
    have S3 := Lib.hid (R2.out.other (c := G.t) (fun e => NE2.out e.symm) 9 (.int .i64 ((T.cmpd : Int) + 1)))
    clear r2 s2 lp lq c9 f9 lt H1 M1 R1 R2 NE1 NE2 g1 g2
    generalize x1.setCell ⟨G.t, 9, none⟩ (.int .i64 ((T.cmpd : Int) + 1)) = x2 at H2 M2 R3 S3 ⊢
    have r0 := R3.out.cell 0 _ rfl
    have r1 := R3.out.cell 1 _ rfl
    have s0 := S3.out.cell 0 _ rfl
    have s1 := S3.out.cell 1 _ rfl
    have lp := R3.out.lt
    have lq := S3.out.lt
    have c0 := H2.out.tree.cell 0 _ rfl
    have lt := H2.out.tree.lt
    have ORD := Lib.hid (OK.out.order x2.drew Y T.s ⟨xk, xw⟩ ⟨yk, yw⟩ (OK.out.stable x2 x2.drew Y T.s H2.out.env (Nat.le_refl _) fun _ _ => rfl))
    have ENT := OK.out.enterO
    go_still_tail 8, (by kernel_rfl)
    change wpList _ _ _ _ _ (World.drew _)
    go_wp2_with fail
    clear ENT
    refine ORD.out.mono ?_
    rintro e w3 ⟨rfl, Y', hS, hM⟩
    have FIN := Lib.hid (show TreeAt E G busy w3 Y' { T with cmpd := T.cmpd + 1, s := (E.nO T.s ⟨xk, xw⟩ ⟨yk, yw⟩).2 } from (H2.out.below OK.out (Below.refl _ _).drew).env' hM hS)
    have FM := Lib.hid (M2.out.drew.trans (moves_own G hM))
    clear hS hM ORD H2 M2 r0 r1 s0 s1 lp lq c0 lt
    generalize (E.nO T.s ⟨xk, xw⟩ ⟨yk, yw⟩).2 = s' at *
    generalize (E.nO T.s ⟨xk, xw⟩ ⟨yk, yw⟩).1 = c at *
    rcases Int.lt_trichotomy c 0 with hc | hc | hc
    · have t1 : decide (c < 0) = true := decide_eq_true hc
      go_wp2_with fail
      go_ret
      rw [t1]
      exact ⟨rfl, Y', FIN.out, FM.out⟩
    · subst hc
      by_cases hl : one < other
      · have t2 : decide ((one : Int) < (other : Int)) = true := decide_eq_true (by omega)
        have t3 : decide (one < other) = true := decide_eq_true hl
        go_wp2_with fail
        go_ret
        rw [t3]
        exact ⟨rfl, Y', FIN.out, FM.out⟩
      · have t2 : decide ((one : Int) < (other : Int)) = false := decide_eq_false (by omega)
        have t3 : decide (one < other) = false := decide_eq_false hl
        go_wp2_with fail
        go_ret
        rw [t3]
        exact ⟨rfl, Y', FIN.out, FM.out⟩
    · have t1 : decide (c < 0) = false := decide_eq_false (by omega)
      have t2 : (c == 0) = false := by simp; omega
      have t3 : decide (c = 0) = false := decide_eq_false (by omega)
      go_wp2_with fail
      go_ret
      rw [t1, t3]
      exact ⟨rfl, Y', FIN.out, FM.out⟩
  · clear a0 a1 a2 b0 b1 b2 c2 o1 o2 p1 p2
    have B1 := Lib.hid (((Below.refl w.heap.size w).alloc (Nat.le_refl _) (.cells #[.int .i64 yk, .int .i64 yw, .bool true] 89)).alloc (by simp) (.cells #[.int .i64 xk, .int .i64 xw, .bool true] 89)).drew
    have R1 := Lib.hid (show CellsAt ((w.alloc (.cells #[.int .i64 yk, .int .i64 yw, .bool true] 89)).alloc (.cells #[.int .i64 xk, .int .i64 xw, .bool true] 89)).drew (w.heap.size + 1) [.int .i64 xk, .int .i64 xw, .bool true] from two_second w _ _ 89)
    have R2 := Lib.hid (show CellsAt ((w.alloc (.cells #[.int .i64 yk, .int .i64 yw, .bool true] 89)).alloc (.cells #[.int .i64 xk, .int .i64 xw, .bool true] 89)).drew w.heap.size [.int .i64 yk, .int .i64 yw, .bool true] from two_first w _ _ 89)
    generalize ((w.alloc (.cells #[.int .i64 yk, .int .i64 yw, .bool true] 89)).alloc (.cells #[.int .i64 xk, .int .i64 xw, .bool true] 89)).drew = x1 at R1 R2 B1 ⊢
    have NE1 := Lib.hid (show (w.heap.size + 1) ≠ G.t by omega)
    have NE2 := Lib.hid (show w.heap.size ≠ G.t by omega)
    generalize w.heap.size + 1 = pb at R1 R2 NE1 NE2 ⊢
    have H1 := Lib.hid (HH.out.below OK.out B1.out)
    have M1 := Lib.hid (Moves.below B1.out (own G Y))
    clear HH B1
    generalize w.heap.size = pa at R1 R2 NE1 NE2 ⊢
    have r2 := R1.out.cell 2 _ rfl
    have s2 := R2.out.cell 2 _ rfl
    have lp := R1.out.lt
    have lq := R2.out.lt
    have c9 := H1.out.tree.cell 9 _ rfl
    have f9 := H1.out.tree.free 9
    have lt := H1.out.tree.lt
    have g1 : (T.cmpd : Int) < 1099511627776 := by have := HB.out; omega
    have g2 : (0 : Int) ≤ (T.cmpd : Int) := by omega
    go_upto_region 5 with fail
    have H2 := Lib.hid (show TreeAt E G busy (x1.setCell ⟨G.t, 9, none⟩ (.int .i64 ((T.cmpd : Int) + 1))) Y { T with cmpd := T.cmpd + 1 } from H1.out.setT OK.out 9 _ _ (by unfold treeC; simp) (by omega) rfl rfl rfl H1.out.fst)
    have M2 := Lib.hid (M1.out.set (a := ⟨G.t, 9, none⟩) (own_t G Y) (.int .i64 ((T.cmpd : Int) + 1)))
    have R3 := Lib.hid (R1.out.other (c := G.t) (fun e => NE1.out e.symm) 9 (.int .i64 ((T.cmpd : Int) + 1)))
    have S3 := Lib.hid (R2.out.other (c := G.t) (fun e => NE2.out e.symm) 9 (.int .i64 ((T.cmpd : Int) + 1)))
    clear r2 s2 lp lq c9 f9 lt H1 M1 R1 R2 NE1 NE2 g1 g2
    generalize x1.setCell ⟨G.t, 9, none⟩ (.int .i64 ((T.cmpd : Int) + 1)) = x2 at H2 M2 R3 S3 ⊢
    have r0 := R3.out.cell 0 _ rfl
    have r1 := R3.out.cell 1 _ rfl
    have s0 := S3.out.cell 0 _ rfl
    have s1 := S3.out.cell 1 _ rfl
    have lp := R3.out.lt
    have lq := S3.out.lt
    have c0 := H2.out.tree.cell 0 _ rfl
    have lt := H2.out.tree.lt
    have ORD := Lib.hid (OK.out.order x2.drew Y T.s ⟨xk, xw⟩ ⟨yk, yw⟩ (OK.out.stable x2 x2.drew Y T.s H2.out.env (Nat.le_refl _) fun _ _ => rfl))
    have ENT := OK.out.enterO
    go_still_tail 8, (by kernel_rfl)
    change wpList _ _ _ _ _ (World.drew _)
    go_wp2_with fail
    clear ENT
    refine ORD.out.mono ?_
    rintro e w3 ⟨rfl, Y', hS, hM⟩
    have FIN := Lib.hid (show TreeAt E G busy w3 Y' { T with cmpd := T.cmpd + 1, s := (E.nO T.s ⟨xk, xw⟩ ⟨yk, yw⟩).2 } from (H2.out.below OK.out (Below.refl _ _).drew).env' hM hS)
    have FM := Lib.hid (M2.out.drew.trans (moves_own G hM))
    clear hS hM ORD H2 M2 r0 r1 s0 s1 lp lq c0 lt
    generalize (E.nO T.s ⟨xk, xw⟩ ⟨yk, yw⟩).2 = s' at *
    generalize (E.nO T.s ⟨xk, xw⟩ ⟨yk, yw⟩).1 = c at *
    rcases Int.lt_trichotomy c 0 with hc | hc | hc
    · have t1 : decide (c < 0) = true := decide_eq_true hc
      go_wp2_with fail
      go_ret
      rw [t1]
      exact ⟨rfl, Y', FIN.out, FM.out⟩
    · subst hc
      by_cases hl : one < other
      · have t2 : decide ((one : Int) < (other : Int)) = true := decide_eq_true (by omega)
        have t3 : decide (one < other) = true := decide_eq_true hl
        go_wp2_with fail
        go_ret
        rw [t3]
        exact ⟨rfl, Y', FIN.out, FM.out⟩
      · have t2 : decide ((one : Int) < (other : Int)) = false := decide_eq_false (by omega)
        have t3 : decide (one < other) = false := decide_eq_false hl
        go_wp2_with fail
        go_ret
        rw [t3]
        exact ⟨rfl, Y', FIN.out, FM.out⟩
    · have t1 : decide (c < 0) = false := decide_eq_false (by omega)
      have t2 : (c == 0) = false := by simp; omega
      have t3 : decide (c = 0) = false := decide_eq_false (by omega)
      go_wp2_with fail
      go_ret
      rw [t1, t3]
      exact ⟨rfl, Y', FIN.out, FM.out⟩
set_option maxHeartbeats 8000000 in
theorem ahead_one_ok {σ : Type} {E : Env σ} {G : Geo} {busy : Bool} {w : World} {Y : Nat → Prop} {T : TS σ} (ok : E.Ok G.k) (h : TreeAt E G busy w Y T) (one other : Nat) (ho : one < G.k) (hp : other < G.k) (x : It) (hx : T.H one = some x) (hy : T.H other = none) :
    Calls Try.prog 51 #[.pointer (some ⟨G.t, 0, none⟩), .int .i64 (one : Int), .int .i64 (other : Int)] w (StepR E G busy w Y (.bool (aheadM E T one other).1) (aheadM E T one other).2) := by
  have a0 := h.h0 one ho
  have a1 := h.h1 one ho
  have a2 := h.h2 one ho
  have b0 := h.h0 other hp
  have b1 := h.h1 other hp
  have b2 := h.h2 other hp
  rw [hx] at a0 a1 a2
  rw [hy] at b0 b1 b2
  change _ = some (Value.int .i64 x.key) at a0
  change _ = some (Value.int .i64 x.who) at a1
  change _ = some (Value.bool true) at a2
  change _ = some (Value.int .i64 0) at b0
  change _ = some (Value.int .i64 0) at b1
  change _ = some (Value.bool false) at b2
  rw [ahead_one hx hy]
  obtain ⟨xk, xw⟩ := x
  have HH := Lib.hid h
  have OK := Lib.hid ok
  have c2 := h.tree.cell 2 _ rfl
  have lt := h.tree.lt
  have lh := h.hlt
  have o1 : (one : Int) < (G.k : Int) := by omega
  have o2 : (0 : Int) ≤ (one : Int) := by omega
  have p1 : (other : Int) < (G.k : Int) := by omega
  have p2 : (0 : Int) ≤ (other : Int) := by omega
  clear h hx hy ok
  go_enter Try.func51, Try.ntmps51
  go_upto_region 1 with fail
  go_region
  · clear a0 a1 a2 b0 b1 b2 c2 o1 o2 p1 p2
    have B1 := Lib.hid (((Below.refl w.heap.size w).alloc (Nat.le_refl _) (.cells #[.int .i64 xk, .int .i64 xw, .bool true] 89)).alloc (by simp) (.cells #[.int .i64 0, .int .i64 0, .bool false] 89)).drew
    have R1 := Lib.hid (show CellsAt ((w.alloc (.cells #[.int .i64 xk, .int .i64 xw, .bool true] 89)).alloc (.cells #[.int .i64 0, .int .i64 0, .bool false] 89)).drew w.heap.size [.int .i64 xk, .int .i64 xw, .bool true] from two_first w _ _ 89)
    have R2 := Lib.hid (show CellsAt ((w.alloc (.cells #[.int .i64 xk, .int .i64 xw, .bool true] 89)).alloc (.cells #[.int .i64 0, .int .i64 0, .bool false] 89)).drew (w.heap.size + 1) [.int .i64 0, .int .i64 0, .bool false] from two_second w _ _ 89)
    generalize ((w.alloc (.cells #[.int .i64 xk, .int .i64 xw, .bool true] 89)).alloc (.cells #[.int .i64 0, .int .i64 0, .bool false] 89)).drew = x1 at R1 R2 B1 ⊢
    generalize w.heap.size + 1 = pb at R1 R2 ⊢
    have H1 := Lib.hid (HH.out.below OK.out B1.out)
    have M1 := Lib.hid (Moves.below B1.out (own G Y))
    clear HH B1
    generalize w.heap.size = pa at R1 R2 ⊢
    have r2 := R1.out.cell 2 _ rfl
    have s2 := R2.out.cell 2 _ rfl
    have lp := R1.out.lt
    have lq := R2.out.lt
    go_wp2_with fail
    go_ret
    exact ⟨rfl, Y, H1.out, M1.out⟩
  · clear a0 a1 a2 b0 b1 b2 c2 o1 o2 p1 p2
    have B1 := Lib.hid (((Below.refl w.heap.size w).alloc (Nat.le_refl _) (.cells #[.int .i64 0, .int .i64 0, .bool false] 89)).alloc (by simp) (.cells #[.int .i64 xk, .int .i64 xw, .bool true] 89)).drew
    have R1 := Lib.hid (show CellsAt ((w.alloc (.cells #[.int .i64 0, .int .i64 0, .bool false] 89)).alloc (.cells #[.int .i64 xk, .int .i64 xw, .bool true] 89)).drew (w.heap.size + 1) [.int .i64 xk, .int .i64 xw, .bool true] from two_second w _ _ 89)
    have R2 := Lib.hid (show CellsAt ((w.alloc (.cells #[.int .i64 0, .int .i64 0, .bool false] 89)).alloc (.cells #[.int .i64 xk, .int .i64 xw, .bool true] 89)).drew w.heap.size [.int .i64 0, .int .i64 0, .bool false] from two_first w _ _ 89)
    generalize ((w.alloc (.cells #[.int .i64 0, .int .i64 0, .bool false] 89)).alloc (.cells #[.int .i64 xk, .int .i64 xw, .bool true] 89)).drew = x1 at R1 R2 B1 ⊢
    generalize w.heap.size + 1 = pb at R1 R2 ⊢
    have H1 := Lib.hid (HH.out.below OK.out B1.out)
    have M1 := Lib.hid (Moves.below B1.out (own G Y))
    clear HH B1
    generalize w.heap.size = pa at R1 R2 ⊢
    have r2 := R1.out.cell 2 _ rfl
    have s2 := R2.out.cell 2 _ rfl
    have lp := R1.out.lt
    have lq := R2.out.lt
    go_wp2_with fail
    go_ret
    exact ⟨rfl, Y, H1.out, M1.out⟩
set_option maxHeartbeats 8000000 in
theorem ahead_none_ok {σ : Type} {E : Env σ} {G : Geo} {busy : Bool} {w : World} {Y : Nat → Prop} {T : TS σ} (ok : E.Ok G.k) (h : TreeAt E G busy w Y T) (one other : Nat) (ho : one < G.k) (hp : other < G.k) (hx : T.H one = none) :
    Calls Try.prog 51 #[.pointer (some ⟨G.t, 0, none⟩), .int .i64 (one : Int), .int .i64 (other : Int)] w (StepR E G busy w Y (.bool (aheadM E T one other).1) (aheadM E T one other).2) := by
  have a0 := h.h0 one ho
  have a1 := h.h1 one ho
  have a2 := h.h2 one ho
  have b0 := h.h0 other hp
  have b1 := h.h1 other hp
  have b2 := h.h2 other hp
  rw [hx] at a0 a1 a2
  change _ = some (Value.int .i64 0) at a0
  change _ = some (Value.int .i64 0) at a1
  change _ = some (Value.bool false) at a2
  generalize keyH (T.H other) = yk at b0
  generalize whoH (T.H other) = yw at b1
  generalize isH (T.H other) = yb at b2
  rw [ahead_none hx]
  have HH := Lib.hid h
  have OK := Lib.hid ok
  have c2 := h.tree.cell 2 _ rfl
  have lt := h.tree.lt
  have lh := h.hlt
  have o1 : (one : Int) < (G.k : Int) := by omega
  have o2 : (0 : Int) ≤ (one : Int) := by omega
  have p1 : (other : Int) < (G.k : Int) := by omega
  have p2 : (0 : Int) ≤ (other : Int) := by omega
  clear h hx ok
  go_enter Try.func51, Try.ntmps51
  go_upto_region 1 with fail
  go_region
  · clear a0 a1 a2 b0 b1 b2 c2 o1 o2 p1 p2
    have B1 := Lib.hid (((Below.refl w.heap.size w).alloc (Nat.le_refl _) (.cells #[.int .i64 0, .int .i64 0, .bool false] 89)).alloc (by simp) (.cells #[.int .i64 yk, .int .i64 yw, .bool yb] 89)).drew
    have R1 := Lib.hid (show CellsAt ((w.alloc (.cells #[.int .i64 0, .int .i64 0, .bool false] 89)).alloc (.cells #[.int .i64 yk, .int .i64 yw, .bool yb] 89)).drew w.heap.size [.int .i64 0, .int .i64 0, .bool false] from two_first w _ _ 89)
    have R2 := Lib.hid (show CellsAt ((w.alloc (.cells #[.int .i64 0, .int .i64 0, .bool false] 89)).alloc (.cells #[.int .i64 yk, .int .i64 yw, .bool yb] 89)).drew (w.heap.size + 1) [.int .i64 yk, .int .i64 yw, .bool yb] from two_second w _ _ 89)
    generalize ((w.alloc (.cells #[.int .i64 0, .int .i64 0, .bool false] 89)).alloc (.cells #[.int .i64 yk, .int .i64 yw, .bool yb] 89)).drew = x1 at R1 R2 B1 ⊢
    generalize w.heap.size + 1 = pb at R1 R2 ⊢
    have H1 := Lib.hid (HH.out.below OK.out B1.out)
    have M1 := Lib.hid (Moves.below B1.out (own G Y))
    clear HH B1
    generalize w.heap.size = pa at R1 R2 ⊢
    have r2 := R1.out.cell 2 _ rfl
    have s2 := R2.out.cell 2 _ rfl
    have lp := R1.out.lt
    have lq := R2.out.lt
    go_wp2_with fail
    go_ret
    exact ⟨rfl, Y, H1.out, M1.out⟩
  · clear a0 a1 a2 b0 b1 b2 c2 o1 o2 p1 p2
    have B1 := Lib.hid (((Below.refl w.heap.size w).alloc (Nat.le_refl _) (.cells #[.int .i64 yk, .int .i64 yw, .bool yb] 89)).alloc (by simp) (.cells #[.int .i64 0, .int .i64 0, .bool false] 89)).drew
    have R1 := Lib.hid (show CellsAt ((w.alloc (.cells #[.int .i64 yk, .int .i64 yw, .bool yb] 89)).alloc (.cells #[.int .i64 0, .int .i64 0, .bool false] 89)).drew (w.heap.size + 1) [.int .i64 0, .int .i64 0, .bool false] from two_second w _ _ 89)
    have R2 := Lib.hid (show CellsAt ((w.alloc (.cells #[.int .i64 yk, .int .i64 yw, .bool yb] 89)).alloc (.cells #[.int .i64 0, .int .i64 0, .bool false] 89)).drew w.heap.size [.int .i64 yk, .int .i64 yw, .bool yb] from two_first w _ _ 89)
    generalize ((w.alloc (.cells #[.int .i64 yk, .int .i64 yw, .bool yb] 89)).alloc (.cells #[.int .i64 0, .int .i64 0, .bool false] 89)).drew = x1 at R1 R2 B1 ⊢
    generalize w.heap.size + 1 = pb at R1 R2 ⊢
    have H1 := Lib.hid (HH.out.below OK.out B1.out)
    have M1 := Lib.hid (Moves.below B1.out (own G Y))
    clear HH B1
    generalize w.heap.size = pa at R1 R2 ⊢
    have r2 := R1.out.cell 2 _ rfl
    have s2 := R2.out.cell 2 _ rfl
    have lp := R1.out.lt
    have lq := R2.out.lt
    go_wp2_with fail
    go_ret
    exact ⟨rfl, Y, H1.out, M1.out⟩
/-- Is what one source has in hand ahead of what another has? -/
theorem ahead_ok {σ : Type} {E : Env σ} {G : Geo} {busy : Bool} {w : World} {Y : Nat → Prop} {T : TS σ} (ok : E.Ok G.k) (h : TreeAt E G busy w Y T) (one other : Nat) (ho : one < G.k) (hp : other < G.k) (hb : T.cmpd < 1099511627776) :
    Calls Try.prog 51 #[.pointer (some ⟨G.t, 0, none⟩), .int .i64 (one : Int), .int .i64 (other : Int)] w (StepR E G busy w Y (.bool (aheadM E T one other).1) (aheadM E T one other).2) := by
  rcases hx : T.H one with _ | x
  · exact ahead_none_ok ok h one other ho hp hx
  · rcases hy : T.H other with _ | y
    · exact ahead_one_ok ok h one other ho hp x hx hy
    · exact ahead_both_ok ok h one other ho hp hb x y hx hy
end Go.Proofs.Ytjlcbhblpofjhaa
