/- The tree of losers: take. -/
import Derived.Test.YtjlcbhblpofjhaaPl
namespace Go.Proofs.Ytjlcbhblpofjhaa
open Go.RowKit
set_option maxRecDepth 100000
/-- What the first one has in hand is taken. -/
def takeM {σ : Type} (T : TS σ) : TS σ := match T.H T.first with
  | some _ => { T with H := upN T.H T.first none, due := T.first, dueEnd := T.first + 1 }
  | none => T
theorem pair_first (w : World) (a b : List Value) (ta tb : TypeId) : CellsAt ((w.alloc (.cells a.toArray ta)).alloc (.cells b.toArray tb)) w.heap.size a := (CellsAt.new w a ta).alloc (.cells b.toArray tb)
theorem pair_second (w : World) (a b : List Value) (ta tb : TypeId) : CellsAt ((w.alloc (.cells a.toArray ta)).alloc (.cells b.toArray tb)) (w.heap.size + 1) b := by
  have c := CellsAt.new (w.alloc (.cells a.toArray ta)) b tb
  have e : (w.alloc (.cells a.toArray ta)).heap.size = w.heap.size + 1 := by simp
  rw [e] at c
  exact c
def TakeR {σ : Type} (E : Env σ) (G : Geo) (busy : Bool) (w : World) (Y : Nat → Prop) (x : Option It) (T' : TS σ) (e : Ending) (w' : World) : Prop :=
  e = .returned (.tuple #[.agg #[.int .i64 (keyH x), .int .i64 (whoH x)], .bool (isH x)]) ∧ TreeAt E G busy w' Y T' ∧ Moves w (own G Y) w' (own G Y)
theorem take_end {σ : Type} {E : Env σ} {G : Geo} {busy : Bool} {w w' : World} {Y : Nat → Prop} {T : TS σ} (ok : E.Ok G.k) (h : TreeAt E G busy w Y T) {p : Nat} (hp : ∀ b, own G Y b ∨ b = G.sb → b < p) (hp2 : w'.heap.size ≤ p) (m : Moves w' (own G Y) w (own G Y)) (u v : Value) :
    TreeAt E G busy ((w.drew.setCell ⟨p, 0, none⟩ u).setCell ⟨p, 1, none⟩ v) Y T ∧ Moves w' (own G Y) ((w.drew.setCell ⟨p, 0, none⟩ u).setCell ⟨p, 1, none⟩ v) (own G Y) :=
  ⟨((h.below ok (Below.refl _ _).drew).box ok hp 0 u).box ok hp 1 v, (m.drew.setNew (a := ⟨p, 0, none⟩) hp2 u).setNew (a := ⟨p, 1, none⟩) hp2 v⟩
set_option maxHeartbeats 4000000 in
theorem take_ok {σ : Type} {E : Env σ} {G : Geo} {busy : Bool} {w : World} {Y : Nat → Prop} {T : TS σ} (ok : E.Ok G.k) (h : TreeAt E G busy w Y T) :
    Calls Try.prog 43 #[.pointer (some ⟨G.t, 0, none⟩), .int .i64 (T.first : Int)] w (TakeR E G busy w Y (T.H T.first) (takeM T)) := by
  have OK := Lib.hid ok
  have fk := h.fst
  have a0 := h.h0 T.first fk
  have a1 := h.h1 T.first fk
  have a2 := h.h2 T.first fk
  have c2 := h.tree.cell 2 _ rfl
  have lt := h.tree.lt
  have lh := h.hlt
  have k64 := h.geo.k64
  have HF := Lib.hid fk
  have i1 : (T.first : Int) < (G.k : Int) := by omega
  have i2 : (0 : Int) ≤ (T.first : Int) := by omega
  have i3 : (T.first : Int) < 64 := by omega
  cases hx : T.H T.first with
  | some x =>
    obtain ⟨xk, xw⟩ := x
    have E1 : takeM T = { T with H := upN T.H T.first none, due := T.first, dueEnd := T.first + 1 } := by unfold takeM; rw [hx]
    rw [E1]
    rw [hx] at a0 a1 a2
    change _ = some (Value.int .i64 xk) at a0
    change _ = some (Value.int .i64 xw) at a1
    change _ = some (Value.bool true) at a2
    show Calls _ _ _ _ (TakeR E G busy w Y (some ⟨xk, xw⟩) _)
    have B1 := Lib.hid (((Below.refl w.heap.size w).alloc (Nat.le_refl _) (.cells #[.int .i64 0, .int .i64 0] 28)).alloc (by simp) (.cells #[.int .i64 xk, .int .i64 xw, .bool true] 89))
    have R1 := Lib.hid (show CellsAt ((w.alloc (.cells #[.int .i64 0, .int .i64 0] 28)).alloc (.cells #[.int .i64 xk, .int .i64 xw, .bool true] 89)) w.heap.size [.int .i64 0, .int .i64 0] from pair_first w _ _ 28 89)
    have R2 := Lib.hid (show CellsAt ((w.alloc (.cells #[.int .i64 0, .int .i64 0] 28)).alloc (.cells #[.int .i64 xk, .int .i64 xw, .bool true] 89)) (w.heap.size + 1) [.int .i64 xk, .int .i64 xw, .bool true] from pair_second w _ _ 28 89)
    have NE1 := Lib.hid (show w.heap.size ≠ G.t ∧ w.heap.size ≠ G.hb ∧ w.heap.size + 1 ≠ G.t ∧ w.heap.size + 1 ≠ G.hb ∧ w.heap.size + 1 ≠ w.heap.size by omega)
    have GE := Lib.hid (Nat.le_refl w.heap.size)
    have LOW := Lib.hid (h.low ok)
    have HH := Lib.hid h
    clear h ok E1 hx fk
    go_enter Try.func43, Try.ntmps43
    go_upto_region 2 with fail
    clear a0 a1 a2 c2
    generalize (w.alloc (.cells #[.int .i64 0, .int .i64 0] 28)).alloc (.cells #[.int .i64 xk, .int .i64 xw, .bool true] 89) = x1 at R1 R2 B1 ⊢
    generalize w.heap.size + 1 = pb at R2 NE1 ⊢
    have H1 := Lib.hid (HH.out.below OK.out B1.out)
    have M1 := Lib.hid (Moves.below B1.out (own G Y))
    have s2 := R2.out.cell 2 _ rfl
    have lq := R2.out.lt
    have h0 := H1.out.h0 T.first HF.out
    have h1 := H1.out.h1 T.first HF.out
    have h2 := H1.out.h2 T.first HF.out
    have hf0 := H1.out.hfree (T.first * 3)
    have hf1 := H1.out.hfree (T.first * 3 + 1)
    have hf2 := H1.out.hfree (T.first * 3 + 2)
    have c2 := H1.out.tree.cell 2 _ rfl
    have lt := H1.out.tree.lt
    have lh := H1.out.hlt
    go_upto_region 4 with fail
    have H2 := Lib.hid (show TreeAt E G busy (((x1.setCell ⟨G.hb, T.first * 3, none⟩ (.int .i64 0)).setCell ⟨G.hb, T.first * 3 + 1, none⟩ (.int .i64 0)).setCell ⟨G.hb, T.first * 3 + 2, none⟩ (.bool false)) Y { T with H := upN T.H T.first none } from H1.out.setH OK.out T.first none HF.out)
    have M2 := Lib.hid (((M1.out.set (a := ⟨G.hb, T.first * 3, none⟩) (own_h G Y) (.int .i64 0)).set (a := ⟨G.hb, T.first * 3 + 1, none⟩) (own_h G Y) (.int .i64 0)).set (a := ⟨G.hb, T.first * 3 + 2, none⟩) (own_h G Y) (.bool false))
    have S1 := Lib.hid (((R1.out.other (c := G.hb) (fun e => NE1.out.2.1 e.symm) (T.first * 3) (.int .i64 0)).other (c := G.hb) (fun e => NE1.out.2.1 e.symm) (T.first * 3 + 1) (.int .i64 0)).other (c := G.hb) (fun e => NE1.out.2.1 e.symm) (T.first * 3 + 2) (.bool false))
    have S2 := Lib.hid (((R2.out.other (c := G.hb) (fun e => NE1.out.2.2.2.1 e.symm) (T.first * 3) (.int .i64 0)).other (c := G.hb) (fun e => NE1.out.2.2.2.1 e.symm) (T.first * 3 + 1) (.int .i64 0)).other (c := G.hb) (fun e => NE1.out.2.2.2.1 e.symm) (T.first * 3 + 2) (.bool false))
    clear s2 lq h0 h1 h2 hf0 hf1 hf2 c2 lt lh R1 R2 B1 H1 M1
    generalize ((x1.setCell ⟨G.hb, T.first * 3, none⟩ (.int .i64 0)).setCell ⟨G.hb, T.first * 3 + 1, none⟩ (.int .i64 0)).setCell ⟨G.hb, T.first * 3 + 2, none⟩ (.bool false) = x2 at H2 M2 S1 S2 ⊢
    have c6 := H2.out.tree.cell 6 _ rfl
    have c7 := H2.out.tree.cell 7 _ rfl
    have f6 := H2.out.tree.free 6
    have f7 := H2.out.tree.free 7
    have lt := H2.out.tree.lt
    go_upto_region 5 with fail
    have H3 := Lib.hid (show TreeAt E G busy (x2.setCell ⟨G.t, 6, none⟩ (.int .i64 (T.first : Int))) Y { T with H := upN T.H T.first none, due := T.first } from H2.out.setT OK.out 6 _ _ (by unfold treeC; simp) (by omega) rfl rfl rfl HF.out)
    have H4 := Lib.hid (show TreeAt E G busy ((x2.setCell ⟨G.t, 6, none⟩ (.int .i64 (T.first : Int))).setCell ⟨G.t, 7, none⟩ (.int .i64 ((T.first : Int) + 1))) Y { T with H := upN T.H T.first none, due := T.first, dueEnd := T.first + 1 } from H3.out.setT OK.out 7 _ _ (by unfold treeC; simp) (by omega) rfl rfl rfl HF.out)
    have M4 := Lib.hid ((M2.out.set (a := ⟨G.t, 6, none⟩) (own_t G Y) (.int .i64 (T.first : Int))).set (a := ⟨G.t, 7, none⟩) (own_t G Y) (.int .i64 ((T.first : Int) + 1)))
    have S3 := Lib.hid ((S1.out.other (c := G.t) (fun e => NE1.out.1 e.symm) 6 (.int .i64 (T.first : Int))).other (c := G.t) (fun e => NE1.out.1 e.symm) 7 (.int .i64 ((T.first : Int) + 1)))
    have S4 := Lib.hid ((S2.out.other (c := G.t) (fun e => NE1.out.2.2.1 e.symm) 6 (.int .i64 (T.first : Int))).other (c := G.t) (fun e => NE1.out.2.2.1 e.symm) 7 (.int .i64 ((T.first : Int) + 1)))
    clear c6 c7 f6 f7 lt S1 S2 H2 M2 H3
    generalize (x2.setCell ⟨G.t, 6, none⟩ (.int .i64 (T.first : Int))).setCell ⟨G.t, 7, none⟩ (.int .i64 ((T.first : Int) + 1)) = x3 at H4 M4 S3 S4 ⊢
    have r0 := S3.out.cell 0 _ rfl
    have r1 := S3.out.cell 1 _ rfl
    have rf0 := S3.out.free 0
    have rf1 := S3.out.free 1
    have q0 := S4.out.cell 0 _ rfl
    have q1 := S4.out.cell 1 _ rfl
    have q2 := S4.out.cell 2 _ rfl
    have lp := S3.out.lt
    have lq := S4.out.lt
    have npq := NE1.out.2.2.2.2
    have npq' := npq.symm
    have FIN := Lib.hid (take_end OK.out H4.out LOW.out GE.out M4.out (.int .i64 xk) (.int .i64 xw))
    clear H4 M4 S3 S4
    generalize w.heap.size = pa at *
    go_region
    all_goals
      go_wp2_with fail
      exact bodyPost_ret (v := .tuple #[.agg #[.int .i64 xk, .int .i64 xw], .bool true]) (by simp [results, Try.results43, go_sem, r0, r1, lp]) rfl ⟨rfl, FIN.out⟩
  | none =>
    have E1 : takeM T = T := by unfold takeM; rw [hx]
    rw [E1]
    rw [hx] at a0 a1 a2
    change _ = some (Value.int .i64 0) at a0
    change _ = some (Value.int .i64 0) at a1
    change _ = some (Value.bool false) at a2
    have B1 := Lib.hid (((Below.refl w.heap.size w).alloc (Nat.le_refl _) (.cells #[.int .i64 0, .int .i64 0] 28)).alloc (by simp) (.cells #[.int .i64 0, .int .i64 0, .bool false] 89))
    have R1 := Lib.hid (show CellsAt ((w.alloc (.cells #[.int .i64 0, .int .i64 0] 28)).alloc (.cells #[.int .i64 0, .int .i64 0, .bool false] 89)) w.heap.size [.int .i64 0, .int .i64 0] from pair_first w _ _ 28 89)
    have R2 := Lib.hid (show CellsAt ((w.alloc (.cells #[.int .i64 0, .int .i64 0] 28)).alloc (.cells #[.int .i64 0, .int .i64 0, .bool false] 89)) (w.heap.size + 1) [.int .i64 0, .int .i64 0, .bool false] from pair_second w _ _ 28 89)
    have NE1 := Lib.hid (show w.heap.size ≠ G.t ∧ w.heap.size ≠ G.hb ∧ w.heap.size + 1 ≠ G.t ∧ w.heap.size + 1 ≠ G.hb ∧ w.heap.size + 1 ≠ w.heap.size by omega)
    have GE := Lib.hid (Nat.le_refl w.heap.size)
    have LOW := Lib.hid (h.low ok)
    have HH := Lib.hid h
    clear h ok E1 hx fk
    go_enter Try.func43, Try.ntmps43
    go_upto_region 2 with fail
    clear a0 a1 a2 c2
    generalize (w.alloc (.cells #[.int .i64 0, .int .i64 0] 28)).alloc (.cells #[.int .i64 0, .int .i64 0, .bool false] 89) = x1 at R1 R2 B1 ⊢
    generalize w.heap.size + 1 = pb at R2 NE1 ⊢
    have H1 := Lib.hid (HH.out.below OK.out B1.out)
    have M1 := Lib.hid (Moves.below B1.out (own G Y))
    have s2 := R2.out.cell 2 _ rfl
    have lq := R2.out.lt
    go_upto_region 5 with fail
    have r0 := R1.out.cell 0 _ rfl
    have r1 := R1.out.cell 1 _ rfl
    have rf0 := R1.out.free 0
    have rf1 := R1.out.free 1
    have q0 := R2.out.cell 0 _ rfl
    have q1 := R2.out.cell 1 _ rfl
    have lp := R1.out.lt
    have npq := NE1.out.2.2.2.2
    have npq' := npq.symm
    have FIN := Lib.hid (take_end OK.out H1.out LOW.out GE.out M1.out (.int .i64 0) (.int .i64 0))
    clear H1 M1 R1 R2 B1
    generalize w.heap.size = pa at *
    go_region
    all_goals
      go_wp2_with fail
      exact bodyPost_ret (v := .tuple #[.agg #[.int .i64 0, .int .i64 0], .bool false]) (by simp [results, Try.results43, go_sem, r0, r1, lp]) rfl ⟨rfl, FIN.out⟩
end Go.Proofs.Ytjlcbhblpofjhaa
