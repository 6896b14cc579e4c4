/- The tree of losers: Next, whole; of a tree that has nothing. -/
import Derived.Test.YtjlcbhblpofjhaaNxS
import Derived.Test.YtjlcbhblpofjhaaNxN
import Derived.Test.YtjlcbhblpofjhaaNxD
namespace Go.Proofs.Ytjlcbhblpofjhaa
open Go.RowKit
set_option maxRecDepth 100000
theorem next_ok {σ : Type} {E : Env σ} {G : Geo} {w : World} {Y : Nat → Prop} {T : TS σ} (ok : E.Ok G.k) (h : TreeAt E G false w Y T) (hd : T.dueEnd ≤ G.k) (hb : T.cmpd + 128 ≤ 1099511627776) :
    Calls Try.prog 17 #[.pointer (some ⟨G.t, 0, none⟩)] w (NextR E G w Y (nextM E G.k T).1 (nextM E G.k T).2) := by
  rcases hq : askM E (T.dueEnd - T.due) T with T1 | ⟨er, fr, cm, s⟩
  · rcases hx : (playM E G.k T1).H (playM E G.k T1).first with _ | ⟨xk, xw⟩
    · exact next_none_ok ok h hd hb T1 hq hx
    · exact next_some_ok ok h hd hb T1 hq xk xw hx
  · exact next_dead_ok ok h hd hb er fr cm s hq
set_option maxHeartbeats 4000000 in
theorem next_of_dead {σ : Type} {E : Env σ} {G : Geo} {w : World} {Y : Nat → Prop} {er : Int} {fr cm : Nat} {s : σ} (ok : E.Ok G.k) (h : DeadAt E G false w Y er fr cm s) :
    Calls Try.prog 17 #[.pointer (some ⟨G.t, 0, none⟩)] w (NextR E G w Y ⟨none, fr, er⟩ (.dead er fr cm s)) := by
  obtain ⟨sa, sc, hc1⟩ := h.c1
  have c1 := hc1
  have HH := Lib.hid h
  have OK := Lib.hid ok
  have c8 := h.c8
  have c10 := h.c10
  have c11 := h.c11
  have lt := h.lt
  have B1 := Lib.hid ((((Below.refl w.heap.size w).alloc (Nat.le_refl _) (.cells #[.pointer (some ⟨G.t, 0, none⟩)] 30)).alloc (by simp) (.cells #[.int .i64 0, .int .i64 0] 28)).alloc (by simp; omega) (.cells #[.int .i64 0, .int .i64 0] 28))
  have BX := Lib.hid (show CellsAt (((w.alloc (.cells #[.pointer (some ⟨G.t, 0, none⟩)] 30)).alloc (.cells #[.int .i64 0, .int .i64 0] 28)).alloc (.cells #[.int .i64 0, .int .i64 0] 28)) w.heap.size [.pointer (some ⟨G.t, 0, none⟩)] from (pair_first w [.pointer (some ⟨G.t, 0, none⟩)] [.int .i64 0, .int .i64 0] 30 28).alloc _)
  have BR := Lib.hid (show CellsAt (((w.alloc (.cells #[.pointer (some ⟨G.t, 0, none⟩)] 30)).alloc (.cells #[.int .i64 0, .int .i64 0] 28)).alloc (.cells #[.int .i64 0, .int .i64 0] 28)) (w.heap.size + 1) [.int .i64 0, .int .i64 0] from (pair_second w [.pointer (some ⟨G.t, 0, none⟩)] [.int .i64 0, .int .i64 0] 30 28).alloc _)
  have BN := Lib.hid (show CellsAt (((w.alloc (.cells #[.pointer (some ⟨G.t, 0, none⟩)] 30)).alloc (.cells #[.int .i64 0, .int .i64 0] 28)).alloc (.cells #[.int .i64 0, .int .i64 0] 28)) (w.heap.size + 1 + 1) [.int .i64 0, .int .i64 0] from by
    have c := CellsAt.new ((w.alloc (.cells #[.pointer (some ⟨G.t, 0, none⟩)] 30)).alloc (.cells #[.int .i64 0, .int .i64 0] 28)) [.int .i64 0, .int .i64 0] 28
    have e : ((w.alloc (.cells #[.pointer (some ⟨G.t, 0, none⟩)] 30)).alloc (.cells #[.int .i64 0, .int .i64 0] 28)).heap.size = w.heap.size + 1 + 1 := by simp
    rw [e] at c
    exact c)
  have NE := Lib.hid (show w.heap.size + 1 + 1 ≠ w.heap.size + 1 ∧ w.heap.size + 1 ≠ G.t ∧ w.heap.size ≤ w.heap.size + 1 by omega)
  clear h ok hc1
  go_enter_defers Try.func17, Try.ntmps17
  go_upto_region 2 with fail
  clear c1 c8 c10 c11 lt
  generalize ((w.alloc (.cells #[.pointer (some ⟨G.t, 0, none⟩)] 30)).alloc (.cells #[.int .i64 0, .int .i64 0] 28)).alloc (.cells #[.int .i64 0, .int .i64 0] 28) = x1 at BX BR BN B1 ⊢
  have H1 := Lib.hid (HH.out.box (Moves.below B1.out Y) (OK.out.stable _ _ _ _ HH.out.env B1.out.size fun b hb => B1.out.block b (OK.out.low _ _ _ HH.out.env b hb)))
  have M1 := Lib.hid (Moves.below B1.out (own G Y))
  obtain ⟨sa', sc', c1⟩ := H1.out.c1
  have c8 := H1.out.c8
  have c10 := H1.out.c10
  have c11 := H1.out.c11
  have lt := H1.out.lt
  have p0 := BX.out.cell 0 _ rfl
  have lp := BX.out.lt
  have q0 := BN.out.cell 0 _ rfl
  have q1 := BN.out.cell 1 _ rfl
  have lq := BN.out.lt
  have r0 := BR.out.cell 0 _ rfl
  have r1 := BR.out.cell 1 _ rfl
  have rf0 := BR.out.free 0
  have rf1 := BR.out.free 1
  have lr := BR.out.lt
  have n1 := NE.out.1
  have n2 := NE.out.1.symm
  have YB := Lib.hid (show ∀ b, Y b → b < w.heap.size + 1 from fun b hb => Nat.lt_succ_of_lt (OK.out.low _ _ _ HH.out.env b hb))
  generalize w.heap.size + 1 + 1 = pc at *
  generalize hpb : w.heap.size + 1 = pb at *
  have HPB := Lib.hid (show w.heap.size ≤ pb by omega)
  have n3 : ¬ w.heap.size = pb := by omega
  have n4 : ¬ pb = w.heap.size := by omega
  have n5 : ¬ pb = G.t := NE.out.2.1
  have n6 : ¬ G.t = pb := fun e => NE.out.2.1 e.symm
  clear hpb
  go_upto_region 5 with fail
  have DE := Lib.hid (show ∀ (w' : World) (j : Nat) (u : Value), DeadAt E G false w' Y er fr cm s → DeadAt E G false (w'.setCell ⟨pb, j, none⟩ u) Y er fr cm s from fun w' j u h => by
    obtain ⟨a, cp, h1⟩ := h.c1
    have ce : ∀ i, (w'.setCell ⟨pb, j, none⟩ u).cell? ⟨G.t, i, none⟩ = w'.cell? ⟨G.t, i, none⟩ := fun i => World.cell?_setCell_other _ _ _ _ (fun e => NE.out.2.1 (congrArg Addr.block e))
    exact ⟨OK.out.stable _ _ _ _ h.env (by simp [World.setCell]) fun d hd => Below.heap_setCell _ _ _ _ (fun e => by have := YB.out d hd; have e2 : d = pb := e; omega), h.nt, by simpa [World.setCell] using h.lt, fun i => (World.frozen?_setCell _ _ _ _).trans (h.free i), ⟨a, cp, (ce 1).trans h1⟩, (ce 8).trans h.c8, (ce 9).trans h.c9, (ce 10).trans h.c10, (ce 11).trans h.c11⟩)
  have H2 := Lib.hid (DE.out _ 1 (.int .i64 0) (DE.out _ 0 (.int .i64 0) H1.out))
  have H3 := Lib.hid (H2.out.box (Moves.refl _ Y).drew (OK.out.stable _ _ _ _ H2.out.env (Nat.le_refl _) fun _ _ => rfl))
  have M3 := Lib.hid ((M1.out.setNew (a := ⟨pb, 0, none⟩) HPB.out (.int .i64 0)).setNew (a := ⟨pb, 1, none⟩) HPB.out (.int .i64 0)).drew
  have E3 := Lib.hid ((BR.out.set 0 (.int .i64 0) (by simp)).set 1 (.int .i64 0) (by simp))
  go_region
  go_wp2_with fail
  have E0 := E3.out.cell 0 _ rfl
  have E1 := E3.out.cell 1 _ rfl
  have F3 := H3.out
  have G3 := M3.out
  clear H3 M3 E3 H2 DE H1 M1 BR BN BX B1
  clear p0 lp q0 q1 lq r0 r1 rf0 rf1 lr c1 c8 c10 c11 lt n1 n2 n3 n4 n5 n6
  change DeadAt E G false ((x1.setCell ⟨pb, 0, none⟩ (.int .i64 0)).setCell ⟨pb, 1, none⟩ (.int .i64 0)).drew Y er fr cm s at F3
  change Moves w (own G Y) ((x1.setCell ⟨pb, 0, none⟩ (.int .i64 0)).setCell ⟨pb, 1, none⟩ (.int .i64 0)).drew (own G Y) at G3
  change ((x1.setCell ⟨pb, 0, none⟩ (.int .i64 0)).setCell ⟨pb, 1, none⟩ (.int .i64 0)).drew.cell? _ = _ at E0
  change ((x1.setCell ⟨pb, 0, none⟩ (.int .i64 0)).setCell ⟨pb, 1, none⟩ (.int .i64 0)).drew.cell? _ = _ at E1
  generalize ((x1.setCell ⟨pb, 0, none⟩ (.int .i64 0)).setCell ⟨pb, 1, none⟩ (.int .i64 0)).drew = x5 at F3 G3 E0 E1 ⊢
  exact ⟨.tuple #[.agg #[.int .i64 0, .int .i64 0], .int .i64 (fr : Int), .bool false, .int .i64 er], by simp [results, Try.results17, go_sem, E0, E1], rfl, Y, F3, G3⟩
end Go.Proofs.Ytjlcbhblpofjhaa
