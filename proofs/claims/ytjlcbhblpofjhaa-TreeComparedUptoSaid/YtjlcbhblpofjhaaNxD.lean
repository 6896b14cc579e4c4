/- The tree of losers: Next, where a source answers an error. -/
import Derived.Test.YtjlcbhblpofjhaaNx0
namespace Go.Proofs.Ytjlcbhblpofjhaa
open Go.RowKit
set_option maxRecDepth 100000
set_option maxHeartbeats 4000000 in
theorem next_dead_ok {σ : Type} {E : Env σ} {G : Geo} {w : World} {Y : Nat → Prop} {T : TS σ} (ok : E.Ok G.k) (h : TreeAt E G false w Y T) (hd : T.dueEnd ≤ G.k) (hb : T.cmpd + 128 ≤ 1099511627776) (er : Int) (fr cm : Nat) (s : σ) (hq : askM E (T.dueEnd - T.due) T = .dead er fr cm s) :
    Calls Try.prog 17 #[.pointer (some ⟨G.t, 0, none⟩)] w (NextR E G w Y (nextM E G.k T).1 (nextM E G.k T).2) := by
  have hmf : ∀ (fn : Fn) (first cap : Array Value) (w : World), (Instr.makeFunc fn first cap).run Try.prog w = .ok (.func fn first cap) w := fun _ _ _ _ => rfl
  generalize hR : nextM E G.k T = R
  have HR := Lib.hid hR
  have OK := Lib.hid ok
  have HH := Lib.hid h
  have HD := Lib.hid hd
  have HB := Lib.hid hb
  have LOW := Lib.hid (h.low ok)
  have k0 := h.geo.k0
  have tk : ((G.k : Int) == 0) = false := by simp; omega
  have tkn : (G.k == 0) = false := by simp; omega
  have lt := h.tree.lt
  have BX := Lib.hid (show CellsAt (((w.alloc (.cells #[.pointer (some ⟨G.t, 0, none⟩)] 30)).alloc (.cells #[.int .i64 0, .int .i64 0] 28)).alloc (.cells #[.int .i64 0, .int .i64 0] 28)) w.heap.size [.pointer (some ⟨G.t, 0, none⟩)] from (pair_first w [.pointer (some ⟨G.t, 0, none⟩)] [.int .i64 0, .int .i64 0] 30 28).alloc _)
  have BR := Lib.hid (show CellsAt (((w.alloc (.cells #[.pointer (some ⟨G.t, 0, none⟩)] 30)).alloc (.cells #[.int .i64 0, .int .i64 0] 28)).alloc (.cells #[.int .i64 0, .int .i64 0] 28)) (w.heap.size + 1) [.int .i64 0, .int .i64 0] from (pair_second w [.pointer (some ⟨G.t, 0, none⟩)] [.int .i64 0, .int .i64 0] 30 28).alloc _)
  have BN := Lib.hid (show CellsAt (((w.alloc (.cells #[.pointer (some ⟨G.t, 0, none⟩)] 30)).alloc (.cells #[.int .i64 0, .int .i64 0] 28)).alloc (.cells #[.int .i64 0, .int .i64 0] 28)) (w.heap.size + 1 + 1) [.int .i64 0, .int .i64 0] from by
    have c := CellsAt.new ((w.alloc (.cells #[.pointer (some ⟨G.t, 0, none⟩)] 30)).alloc (.cells #[.int .i64 0, .int .i64 0] 28)) [.int .i64 0, .int .i64 0] 28
    have e : ((w.alloc (.cells #[.pointer (some ⟨G.t, 0, none⟩)] 30)).alloc (.cells #[.int .i64 0, .int .i64 0] 28)).heap.size = w.heap.size + 1 + 1 := by simp
    rw [e] at c
    exact c)
  have B1 := Lib.hid ((((Below.refl w.heap.size w).alloc (Nat.le_refl _) (.cells #[.pointer (some ⟨G.t, 0, none⟩)] 30)).alloc (by simp) (.cells #[.int .i64 0, .int .i64 0] 28)).alloc (by simp; omega) (.cells #[.int .i64 0, .int .i64 0] 28))
  clear h ok hd hb hR
  go_enter_defers Try.func17, Try.ntmps17
  go_upto_region 2 with fail
  generalize ((w.alloc (.cells #[.pointer (some ⟨G.t, 0, none⟩)] 30)).alloc (.cells #[.int .i64 0, .int .i64 0] 28)).alloc (.cells #[.int .i64 0, .int .i64 0] 28) = x1 at BX BR BN B1 ⊢
  have H1 := Lib.hid (HH.out.below OK.out B1.out)
  have M1 := Lib.hid (Moves.below B1.out (own G Y))
  have p0 := BX.out.cell 0 _ rfl
  have lp := BX.out.lt
  have c1 := H1.out.tree.cell 1 _ rfl
  have c8 := H1.out.tree.cell 8 _ rfl
  have f8 := H1.out.tree.free 8
  have lt1 := H1.out.tree.lt
  go_upto_region 8 with fail
  have H2 := Lib.hid (show TreeAt E G true (x1.setCell ⟨G.t, 8, none⟩ (.bool true)) Y T from H1.out.setT OK.out 8 _ _ (by unfold treeC; simp) (by omega) rfl rfl rfl H1.out.fst)
  have M2 := Lib.hid (M1.out.set (a := ⟨G.t, 8, none⟩) (own_t G Y) (.bool true))
  have X2 := Lib.hid ((Bxs.new OK.out HH.out BX.out BR.out BN.out).moves ((Moves.refl x1 (own G Y)).set (a := ⟨G.t, 8, none⟩) (own_t G Y) (.bool true)))
  clear p0 lp c1 c8 f8 lt1 H1 M1 BX BR BN B1
  generalize x1.setCell ⟨G.t, 8, none⟩ (.bool true) = x2 at H2 M2 X2 ⊢
  generalize w.heap.size + 1 + 1 = pc at *
  generalize w.heap.size + 1 = pb at *
  generalize hpa : w.heap.size = pa at X2 ⊢
  have HPA := Lib.hid (Nat.le_of_eq hpa)
  clear hpa lt
  have A1 := Lib.hid (ask_ok OK.out H2.out HD.out)
  have p0 := X2.out.ca.cell 0 _ rfl
  have lp := X2.out.ca.lt
  rw [hq] at A1
  have NX := Lib.hid ((nextM_dead hq).symm.trans HR.out)
  have ne := askM_err_ne _ _ hq
  have e1 : (er == 0) = false := by simp [ne]
  have e2 : (er != 0) = true := by simp [ne]
  have e3 : decide (er = 0) = false := decide_eq_false ne
  clear hq ne
  go_wp2_with fail
  refine A1.out.mono ?_
  rintro e w3 ⟨rfl, Y3, h3, m3⟩
  have H3 := Lib.hid (show DeadAt E G false w3 Y3 er fr cm s from h3)
  have X3 := Lib.hid (X2.out.moves m3)
  have M3 := Lib.hid (M2.out.trans m3)
  clear h3 m3 H2 M2 X2 A1 p0 lp
  have p0 := X3.out.ca.cell 0 _ rfl
  have lp := X3.out.ca.lt
  have c10 := H3.out.c10
  have c11 := H3.out.c11
  have lt := H3.out.lt
  go_upto_region 10 with fail
  have q0 := X3.out.cc.cell 0 _ rfl
  have q1 := X3.out.cc.cell 1 _ rfl
  have lq := X3.out.cc.lt
  have r0 := X3.out.cb.cell 0 _ rfl
  have r1 := X3.out.cb.cell 1 _ rfl
  have rf0 := X3.out.cb.free 0
  have rf1 := X3.out.cb.free 1
  have lr := X3.out.cb.lt
  have n1 := X3.out.ab
  have n2 := X3.out.bc
  have n3 := X3.out.bt
  have n4 := X3.out.ac
  have FIN := Lib.hid (dead_ends OK.out H3.out M3.out X3.out HPA.out (.int .i64 0) (.int .i64 0))
  have BE := Lib.hid (X3.out.ends (.int .i64 0) (.int .i64 0))
  have c8 := H3.out.c8
  have n5 := X3.out.bt
  go_region
  all_goals
    go_wp2_with fail
    refine leaves_cons (f := 40) (args := #[.pointer (some ⟨pa, 0, none⟩)]) (by simp) (by simp [go_sem]) ?_
    refine (unbusy .returning _ BE.out.2.lt ?_ (BE.out.2.cell 0 _ rfl) (v := .bool false) ?_ ?_).mono ?_
    · simpa [World.setCell] using H3.out.lt
    · exact (World.cell?_setCell_other _ _ _ _ (fun e => n5 (congrArg Addr.block e))).trans ((World.cell?_setCell_other _ _ _ _ (fun e => n5 (congrArg Addr.block e))).trans c8)
    · exact (World.frozen?_setCell _ _ _ _).trans ((World.frozen?_setCell _ _ _ _).trans (H3.out.free 8))
    rintro e u' w'' ⟨rfl, rfl, hw⟩
    have E0 := BE.out.1.cell 0 _ rfl
    have E1 := BE.out.1.cell 1 _ rfl
    have F1 := FIN.out
    change w'' = ((w3.setCell ⟨pb, 0, none⟩ (.int .i64 0)).setCell ⟨pb, 1, none⟩ (.int .i64 0)).drew.setCell ⟨G.t, 8, none⟩ (.bool false) at hw
    rw [← hw] at E0 E1 F1
    clear hw FIN BE
    refine ⟨.tuple #[.agg #[.int .i64 0, .int .i64 0], .int .i64 (fr : Int), .bool false, .int .i64 er], by simp [results, Try.results17, go_sem, E0, E1], ?_, ?_⟩
    · rw [← NX.out]; rfl
    · rw [← NX.out]; exact ⟨Y3, F1⟩
end Go.Proofs.Ytjlcbhblpofjhaa
