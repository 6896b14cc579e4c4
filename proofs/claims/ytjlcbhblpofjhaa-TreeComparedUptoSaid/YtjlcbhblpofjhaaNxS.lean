/- The tree of losers: Next, where there is one. -/
import Derived.Test.YtjlcbhblpofjhaaNx0
namespace Go.Proofs.Ytjlcbhblpofjhaa
open Go.RowKit
set_option maxRecDepth 100000
set_option maxHeartbeats 4000000 in
theorem next_some_ok {σ : Type} {E : Env σ} {G : Geo} {w : World} {Y : Nat → Prop} {T : TS σ} (ok : E.Ok G.k) (h : TreeAt E G false w Y T) (hd : T.dueEnd ≤ G.k) (hb : T.cmpd + 128 ≤ 1099511627776) (T1 : TS σ) (hq : askM E (T.dueEnd - T.due) T = .live T1) (xk xw : Int) (hx : (playM E G.k T1).H (playM E G.k T1).first = some ⟨xk, xw⟩) :
    Calls Try.prog 17 #[.pointer (some ⟨G.t, 0, none⟩)] w (NextR E G w Y (nextM E G.k T).1 (nextM E G.k T).2) := by
  have hmf : ∀ (fn : Fn) (first cap : Array Value) (w : World), (Instr.makeFunc fn first cap).run Try.prog w = .ok (.func fn first cap) w := fun _ _ _ _ => rfl
  generalize hR : nextM E G.k T = R
  have HR := Lib.hid hR
  have OK := Lib.hid ok
  have HH := Lib.hid h
  have HD := Lib.hid hd
  have HB := Lib.hid hb
  have LOW := Lib.hid (h.low ok)
  have k0 := h.geo.k0
  have tk : ((G.k : Int) == 0) = false := by simp; omega
  have tkn : (G.k == 0) = false := by simp; omega
  have lt := h.tree.lt
  have BX := Lib.hid (show CellsAt (((w.alloc (.cells #[.pointer (some ⟨G.t, 0, none⟩)] 30)).alloc (.cells #[.int .i64 0, .int .i64 0] 28)).alloc (.cells #[.int .i64 0, .int .i64 0] 28)) w.heap.size [.pointer (some ⟨G.t, 0, none⟩)] from (pair_first w [.pointer (some ⟨G.t, 0, none⟩)] [.int .i64 0, .int .i64 0] 30 28).alloc _)
  have BR := Lib.hid (show CellsAt (((w.alloc (.cells #[.pointer (some ⟨G.t, 0, none⟩)] 30)).alloc (.cells #[.int .i64 0, .int .i64 0] 28)).alloc (.cells #[.int .i64 0, .int .i64 0] 28)) (w.heap.size + 1) [.int .i64 0, .int .i64 0] from (pair_second w [.pointer (some ⟨G.t, 0, none⟩)] [.int .i64 0, .int .i64 0] 30 28).alloc _)
  have BN := Lib.hid (show CellsAt (((w.alloc (.cells #[.pointer (some ⟨G.t, 0, none⟩)] 30)).alloc (.cells #[.int .i64 0, .int .i64 0] 28)).alloc (.cells #[.int .i64 0, .int .i64 0] 28)) (w.heap.size + 1 + 1) [.int .i64 0, .int .i64 0] from by
    have c := CellsAt.new ((w.alloc (.cells #[.pointer (some ⟨G.t, 0, none⟩)] 30)).alloc (.cells #[.int .i64 0, .int .i64 0] 28)) [.int .i64 0, .int .i64 0] 28
    have e : ((w.alloc (.cells #[.pointer (some ⟨G.t, 0, none⟩)] 30)).alloc (.cells #[.int .i64 0, .int .i64 0] 28)).heap.size = w.heap.size + 1 + 1 := by simp
    rw [e] at c
    exact c)
  have B1 := Lib.hid ((((Below.refl w.heap.size w).alloc (Nat.le_refl _) (.cells #[.pointer (some ⟨G.t, 0, none⟩)] 30)).alloc (by simp) (.cells #[.int .i64 0, .int .i64 0] 28)).alloc (by simp; omega) (.cells #[.int .i64 0, .int .i64 0] 28))
  clear h ok hd hb hR
  go_enter_defers Try.func17, Try.ntmps17
  go_upto_region 2 with fail
  generalize ((w.alloc (.cells #[.pointer (some ⟨G.t, 0, none⟩)] 30)).alloc (.cells #[.int .i64 0, .int .i64 0] 28)).alloc (.cells #[.int .i64 0, .int .i64 0] 28) = x1 at BX BR BN B1 ⊢
  have H1 := Lib.hid (HH.out.below OK.out B1.out)
  have M1 := Lib.hid (Moves.below B1.out (own G Y))
  have p0 := BX.out.cell 0 _ rfl
  have lp := BX.out.lt
  have c1 := H1.out.tree.cell 1 _ rfl
  have c8 := H1.out.tree.cell 8 _ rfl
  have f8 := H1.out.tree.free 8
  have lt1 := H1.out.tree.lt
  go_upto_region 8 with fail
  have H2 := Lib.hid (show TreeAt E G true (x1.setCell ⟨G.t, 8, none⟩ (.bool true)) Y T from H1.out.setT OK.out 8 _ _ (by unfold treeC; simp) (by omega) rfl rfl rfl H1.out.fst)
  have M2 := Lib.hid (M1.out.set (a := ⟨G.t, 8, none⟩) (own_t G Y) (.bool true))
  have X2 := Lib.hid ((Bxs.new OK.out HH.out BX.out BR.out BN.out).moves ((Moves.refl x1 (own G Y)).set (a := ⟨G.t, 8, none⟩) (own_t G Y) (.bool true)))
  clear p0 lp c1 c8 f8 lt1 H1 M1 BX BR BN B1
  generalize x1.setCell ⟨G.t, 8, none⟩ (.bool true) = x2 at H2 M2 X2 ⊢
  generalize w.heap.size + 1 + 1 = pc at *
  generalize w.heap.size + 1 = pb at *
  generalize hpa : w.heap.size = pa at X2 ⊢
  have HPA := Lib.hid (Nat.le_of_eq hpa)
  clear hpa lt
  have A1 := Lib.hid (ask_ok OK.out H2.out HD.out)
  have p0 := X2.out.ca.cell 0 _ rfl
  have lp := X2.out.ca.lt
  rw [hq] at A1
  have HQ := Lib.hid hq
  clear hq
  go_wp2_with fail
  refine A1.out.mono ?_
  rintro e w3 ⟨rfl, Y3, h3, m3⟩
  have H3 := Lib.hid (show TreeAt E G true w3 Y3 T1 from h3)
  have X3 := Lib.hid (X2.out.moves m3)
  have M3 := Lib.hid (M2.out.trans m3)
  clear h3 m3 H2 M2 X2 A1 p0 lp
  have p0 := X3.out.ca.cell 0 _ rfl
  have lp := X3.out.ca.lt
  have c10 := H3.out.tree.cell 10 _ rfl
  have lt := H3.out.tree.lt
  have P1 := Lib.hid (play_ok OK.out H3.out (by have := (askM_cmpd _ _ _ HQ.out).1; have := HB.out; omega))
  go_wp2_with fail
  refine P1.out.mono ?_
  rintro e w4 ⟨rfl, Y4, h4, m4⟩
  have H4 := Lib.hid h4
  have X4 := Lib.hid (X3.out.moves m4)
  have M4 := Lib.hid (M3.out.trans m4)
  clear h4 m4 H3 M3 X3 P1 p0 lp c10 lt
  have NX := Lib.hid ((nextM_some HQ.out hx).symm.trans HR.out)
  have TM : takeM (playM E G.k T1) = { playM E G.k T1 with H := upN (playM E G.k T1).H (playM E G.k T1).first none, due := (playM E G.k T1).first, dueEnd := (playM E G.k T1).first + 1 } := by unfold takeM; rw [hx]
  have TF := Lib.hid (show (takeM (playM E G.k T1)).first = (playM E G.k T1).first by rw [TM])
  have HX := Lib.hid hx
  clear TM
  clear hx
  generalize playM E G.k T1 = T2 at *
  go_upto_region 12 with fail
  have TK1 := Lib.hid (take_ok OK.out (w := w4.drew) (H4.out.below OK.out (Below.refl _ _).drew))
  have TK2 := Lib.hid (take_ok OK.out (w := (w4.alloc (.cells #[.int .i64 0, .int .i64 0] 28)).drew) (H4.out.below OK.out (below_alloc w4 (.cells #[.int .i64 0, .int .i64 0] 28)).drew))
  have p0 := X4.out.ca.cell 0 _ rfl
  have lp := X4.out.ca.lt
  have c4 := H4.out.tree.cell 4 _ rfl
  have lt := H4.out.tree.lt
  have nt := X4.out.na
  have n1 : ¬ G.t = w4.heap.size := by omega
  have n2 : ¬ w4.heap.size = G.t := by omega
  have n3 : ¬ pa = w4.heap.size := by omega
  have n4 : ¬ w4.heap.size = pa := by omega
  have NB := Lib.hid (show ¬ own G Y4 w4.heap.size from fun h => absurd (H4.out.low OK.out w4.heap.size (Or.inl h)) (Nat.lt_irrefl _))
  have l2 : pa < (w4.alloc (.cells #[.int .i64 0, .int .i64 0] 28)).drew.heap.size := by show pa < (w4.alloc _).heap.size; simp; omega
  have e0 : (w4.alloc (.cells #[.int .i64 0, .int .i64 0] 28)).drew.cell? ⟨pa, 0, none⟩ = some (.pointer (some ⟨G.t, 0, none⟩)) := ((below_alloc w4 _).cell (p := ⟨pa, 0, none⟩) lp).trans p0
  have BY := Lib.hid (show CellsAt (w4.alloc (.cells #[.int .i64 0, .int .i64 0] 28)).drew w4.heap.size [.int .i64 0, .int .i64 0] from
    have c := CellsAt.new w4 [.int .i64 0, .int .i64 0] 28
    ⟨c.lt, c.cell, c.free⟩)
  rw [HX.out] at TK1 TK2
  go_region_held3 (fun w' => w'.cell? ⟨pa, 0, none⟩ = some (.pointer (some ⟨G.t, 0, none⟩)) ∧ w'.cell? ⟨G.t, 4, none⟩ = some (.int .i64 (T2.first : Int)))
    (first | go_keep | exact ⟨k0', k4⟩ | exact ⟨((below_alloc w5 _).cell (p := ⟨pa, 0, none⟩) kl).trans k0', ((below_alloc w5 _).cell (p := ⟨G.t, 4, none⟩) hT5.tree.lt).trans k4⟩ | exact ⟨(World.cell?_setCell_other _ _ _ _ (by simp [n3, n4])).trans ((World.cell?_setCell_other _ _ _ _ (by simp [n3, n4])).trans k0'), (World.cell?_setCell_other _ _ _ _ (by simp [n1, n2])).trans ((World.cell?_setCell_other _ _ _ _ (by simp [n1, n2])).trans k4)⟩)
    (first | (go_at_call 43; refine TK1.out.mono ?_; rintro e w5 ⟨he, hT5, hM5⟩; obtain rfl : e = .returned (.tuple #[.agg #[.int .i64 xk, .int .i64 xw], .bool true]) := he; have k0' := (hM5.cell lp nt 0).trans p0; have k4 := (hT5.tree.cell 4 _ rfl).trans (by rw [TF.out]); have kl := Nat.lt_of_lt_of_le lp hM5.size) | (go_at_call 43; refine TK2.out.mono ?_; rintro e w5 ⟨he, hT5, hM5⟩; obtain rfl : e = .returned (.tuple #[.agg #[.int .i64 xk, .int .i64 xw], .bool true]) := he; have k0' := (hM5.cell l2 nt 0).trans e0; have k4 := (hT5.tree.cell 4 _ rfl).trans (by rw [TF.out]); have bx := hM5.cells BY.out NB.out; have b0 := bx.cell 0 _ rfl; have b1 := bx.cell 1 _ rfl; have bf0 := bx.free 0; have bf1 := bx.free 1; have bl := bx.lt; clear bx))
  · have P6 := Lib.hid (show CellsAt (w5.alloc (.cells #[.int .i64 xk, .int .i64 xw] 28)) w5.heap.size [.int .i64 xk, .int .i64 xw] from CellsAt.new w5 [.int .i64 xk, .int .i64 xw] 28)
    have T6 := Lib.hid (hT5.below OK.out (below_alloc w5 (.cells #[.int .i64 xk, .int .i64 xw] 28)))
    have M6 := Lib.hid ((M4.out.drew.trans hM5).alloc (.cells #[.int .i64 xk, .int .i64 xw] 28))
    have X6 := Lib.hid (X4.out.moves (((Moves.refl w4 (own G Y4)).drew.trans hM5).alloc (.cells #[.int .i64 xk, .int .i64 xw] 28)))
    have PB := Lib.hid (show pb ≠ w5.heap.size by have := (X4.out.moves ((Moves.refl w4 (own G Y4)).drew.trans hM5)).cb.lt; omega)
    clear k0' k4 kl hT5 hM5
    generalize w5.alloc (.cells #[.int .i64 xk, .int .i64 xw] 28) = x6 at P6 T6 M6 X6 ⊢
    generalize w5.heap.size = p at P6 PB ⊢
    clear p0 lp c4 lt nt e0 l2 H4 M4 X4 TK1 TK2
    have s0 := P6.out.cell 0 _ rfl
    have s1 := P6.out.cell 1 _ rfl
    have ls := P6.out.lt
    have p0 := X6.out.ca.cell 0 _ rfl
    have lp := X6.out.ca.lt
    have c4 := (T6.out.tree.cell 4 _ rfl).trans (by rw [TF.out])
    have lt := T6.out.tree.lt
    have r0 := X6.out.cb.cell 0 _ rfl
    have r1 := X6.out.cb.cell 1 _ rfl
    have rf0 := X6.out.cb.free 0
    have rf1 := X6.out.cb.free 1
    have lr := X6.out.cb.lt
    have pbp := PB.out
    have pbp2 := PB.out.symm
    have m1 := X6.out.ab
    have m2 := X6.out.ab.symm
    have m3 := X6.out.bt
    have m4 := X6.out.bt.symm
    go_wp2_with fail
    go_region
    go_wp2_with fail
    clear s0 s1 ls p0 lp c4 lt r0 r1 rf0 rf1 lr
    have FIN := Lib.hid (new_ends OK.out T6.out M6.out X6.out HPA.out (.int .i64 xk) (.int .i64 xw))
    have BE := Lib.hid (X6.out.ends (.int .i64 xk) (.int .i64 xw))
    have c8 := T6.out.tree.cell 8 _ rfl
    have f8 := T6.out.tree.free 8
    have n5 := X6.out.bt
    have HT8 := Lib.hid T6.out.tree.lt
    clear T6 M6 X6
    all_goals
      refine leaves_cons (f := 40) (args := #[.pointer (some ⟨pa, 0, none⟩)]) (by simp) (by simp [go_sem]) ?_
      refine (unbusy .returning _ BE.out.2.lt ?_ (BE.out.2.cell 0 _ rfl) (v := .bool true) ?_ ?_).mono ?_
      · simpa [World.setCell] using HT8.out
      · exact (World.cell?_setCell_other _ _ _ _ (fun e => n5 (congrArg Addr.block e))).trans ((World.cell?_setCell_other _ _ _ _ (fun e => n5 (congrArg Addr.block e))).trans c8)
      · exact (World.frozen?_setCell _ _ _ _).trans ((World.frozen?_setCell _ _ _ _).trans f8)
      rintro e u' w'' ⟨rfl, rfl, hw⟩
      have E0 := BE.out.1.cell 0 _ rfl
      have E1 := BE.out.1.cell 1 _ rfl
      have F1 := FIN.out
      change w'' = ((x6.setCell ⟨pb, 0, none⟩ (.int .i64 xk)).setCell ⟨pb, 1, none⟩ (.int .i64 xw)).drew.setCell ⟨G.t, 8, none⟩ (.bool false) at hw
      rw [← hw] at E0 E1 F1
      clear hw FIN BE
      refine ⟨.tuple #[.agg #[.int .i64 xk, .int .i64 xw], .int .i64 (T2.first : Int), .bool true, .int .i64 0], by simp [results, Try.results17, go_sem, E0, E1], ?_, ?_⟩
      · rw [← NX.out]; rfl
      · rw [← NX.out]; exact ⟨Y4, F1⟩
  · have P6 := Lib.hid (show CellsAt ((w5.setCell ⟨w4.heap.size, 0, none⟩ (.int .i64 xk)).setCell ⟨w4.heap.size, 1, none⟩ (.int .i64 xw)) w4.heap.size [.int .i64 xk, .int .i64 xw] from ((hM5.cells BY.out NB.out).set 0 (.int .i64 xk) (by simp)).set 1 (.int .i64 xw) (by simp))
    have PN := Lib.hid (show ∀ b, own G Y4 b ∨ b = G.sb → b ≠ w4.heap.size from fun b hb e => by have := H4.out.low OK.out b hb; omega)
    have T6 := Lib.hid ((hT5.box2 OK.out PN.out 0 (.int .i64 xk)).box2 OK.out PN.out 1 (.int .i64 xw))
    have M5' := Lib.hid ((((((Moves.refl w4 (own G Y4)).alloc (.cells #[.int .i64 0, .int .i64 0] 28)).drew.trans hM5)).setNew (a := ⟨w4.heap.size, 0, none⟩) (Nat.le_refl _) (.int .i64 xk)).setNew (a := ⟨w4.heap.size, 1, none⟩) (Nat.le_refl _) (.int .i64 xw))
    have M6 := Lib.hid (M4.out.trans M5'.out)
    have X6 := Lib.hid (X4.out.moves M5'.out)
    have PB := Lib.hid (show pb ≠ w4.heap.size by have := X4.out.cb.lt; omega)
    clear k0' k4 hT5 hM5 M5' b0 b1 bf0 bf1 bl PN
    generalize (w5.setCell ⟨w4.heap.size, 0, none⟩ (.int .i64 xk)).setCell ⟨w4.heap.size, 1, none⟩ (.int .i64 xw) = x6 at P6 T6 M6 X6 ⊢
    generalize w4.heap.size = p at P6 PB n1 n2 n3 n4 BY NB ⊢
    clear p0 lp c4 lt nt e0 l2 H4 M4 X4 TK1 TK2
    have s0 := P6.out.cell 0 _ rfl
    have s1 := P6.out.cell 1 _ rfl
    have ls := P6.out.lt
    have p0 := X6.out.ca.cell 0 _ rfl
    have lp := X6.out.ca.lt
    have c4 := (T6.out.tree.cell 4 _ rfl).trans (by rw [TF.out])
    have lt := T6.out.tree.lt
    have r0 := X6.out.cb.cell 0 _ rfl
    have r1 := X6.out.cb.cell 1 _ rfl
    have rf0 := X6.out.cb.free 0
    have rf1 := X6.out.cb.free 1
    have lr := X6.out.cb.lt
    have pbp := PB.out
    have pbp2 := PB.out.symm
    have m1 := X6.out.ab
    have m2 := X6.out.ab.symm
    have m3 := X6.out.bt
    have m4 := X6.out.bt.symm
    go_wp2_with fail
    go_region
    go_wp2_with fail
    clear s0 s1 ls p0 lp c4 lt r0 r1 rf0 rf1 lr
    have FIN := Lib.hid (new_ends OK.out T6.out M6.out X6.out HPA.out (.int .i64 xk) (.int .i64 xw))
    have BE := Lib.hid (X6.out.ends (.int .i64 xk) (.int .i64 xw))
    have c8 := T6.out.tree.cell 8 _ rfl
    have f8 := T6.out.tree.free 8
    have n5 := X6.out.bt
    have HT8 := Lib.hid T6.out.tree.lt
    clear T6 M6 X6
    all_goals
      refine leaves_cons (f := 40) (args := #[.pointer (some ⟨pa, 0, none⟩)]) (by simp) (by simp [go_sem]) ?_
      refine (unbusy .returning _ BE.out.2.lt ?_ (BE.out.2.cell 0 _ rfl) (v := .bool true) ?_ ?_).mono ?_
      · simpa [World.setCell] using HT8.out
      · exact (World.cell?_setCell_other _ _ _ _ (fun e => n5 (congrArg Addr.block e))).trans ((World.cell?_setCell_other _ _ _ _ (fun e => n5 (congrArg Addr.block e))).trans c8)
      · exact (World.frozen?_setCell _ _ _ _).trans ((World.frozen?_setCell _ _ _ _).trans f8)
      rintro e u' w'' ⟨rfl, rfl, hw⟩
      have E0 := BE.out.1.cell 0 _ rfl
      have E1 := BE.out.1.cell 1 _ rfl
      have F1 := FIN.out
      change w'' = ((x6.setCell ⟨pb, 0, none⟩ (.int .i64 xk)).setCell ⟨pb, 1, none⟩ (.int .i64 xw)).drew.setCell ⟨G.t, 8, none⟩ (.bool false) at hw
      rw [← hw] at E0 E1 F1
      clear hw FIN BE
      refine ⟨.tuple #[.agg #[.int .i64 xk, .int .i64 xw], .int .i64 (T2.first : Int), .bool true, .int .i64 0], by simp [results, Try.results17, go_sem, E0, E1], ?_, ?_⟩
      · rw [← NX.out]; rfl
      · rw [← NX.out]; exact ⟨Y4, F1⟩
end Go.Proofs.Ytjlcbhblpofjhaa
