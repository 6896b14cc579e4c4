/- The heap: Pop. -/
import Derived.Test.YtiegpjlobpmacaaPo
namespace Go.Proofs.Ytiegpjlobpmacaa
open Go.RowKit
set_option maxRecDepth 100000
theorem IRow.cap {w : World} {B g cap : Nat} {F : Nat → It} {n : Nat} (h : IRow w B (.slice (some ⟨g, 0, none⟩) n cap) F n) : n ≤ cap := by
  rcases h.1.2 with ⟨h0, _⟩ | ⟨g', cap', cur, hv, _, _, hc, _⟩
  · cases h0
  · cases hv; exact hc
set_option maxHeartbeats 8000000 in
theorem pop_ok {w : World} {B h N P : Nat} {v : Value} {F : Nat → It} (H : HeapAt w B h v F (N + 1) P) (hN : N < 1048576) :
    Calls Try.prog 10 #[.pointer (some ⟨h, 0, none⟩)] w (PopR w B h (carryI F 0 (sinkI F N (F N) 0) (F N)).2 (carryI F 0 (sinkI F N (F N) 0) (F N)).1 N P) := by
  obtain ⟨g, cap, rfl, hBg, hgs⟩ := H.row.form (by omega)
  have HH := Lib.hid H
  have lh := lt_of_heap H.blk
  clear H
  obtain ⟨one, hone⟩ : ∃ one, one = F N := ⟨_, rfl⟩
  have HO := Lib.hid hone
  rw [← hone]
  obtain ⟨RR, hRR⟩ : ∃ RR, RR = carryI F 0 (sinkI F N one 0) one := ⟨_, rfl⟩
  have HR := Lib.hid hRR
  rw [← hRR]
  clear hone hRR
  go_enter Try.func10, Try.ntmps10
  go_wp2_with fail
  have H1 := Lib.hid ((HH.out.below (below_alloc w (.cells #[.int .i64 0, .int .i64 0] 28))).below (below_alloc _ (.cells #[.int .i64 0, .int .i64 0] 28)))
  have R1 := Lib.hid ((CellsAt.new w [.int .i64 0, .int .i64 0] 28).alloc (.cells #[.int .i64 0, .int .i64 0] 28))
  have B1 := Lib.hid (((Below.refl w.heap.size w).alloc (Nat.le_refl _) (.cells #[.int .i64 0, .int .i64 0] 28)).alloc (by simp) (.cells #[.int .i64 0, .int .i64 0] 28))
  change Hid (CellsAt ((w.alloc (.cells #[.int .i64 0, .int .i64 0] 28)).alloc (.cells #[.int .i64 0, .int .i64 0] 28)) w.heap.size _) at R1
  generalize (w.alloc (.cells #[.int .i64 0, .int .i64 0] 28)).alloc (.cells #[.int .i64 0, .int .i64 0] 28) = x1 at H1 R1 B1 ⊢
  refine (len_ok H1.out).mono ?_
  rintro e w1 ⟨rfl, rfl⟩
  have c1 := H1.out.cell 1 _ rfl
  have tn : ((((N + 1 : Nat) : Int)) == 0) = false := by simp; omega
  go_upto_region 4 with fail
  go_quiet (fail)
  have H2 := Lib.hid (H1.out.below (below_drewN x1 nq))
  have R2 := Lib.hid (R1.out.step (below_drewN x1 nq))
  have B2 := Lib.hid (bdrewB B1.out nq)
  clear c1 H1 R1 B1
  generalize x1.drewN nq = x2 at H2 R2 B2 ⊢
  have it := H2.out.row.items
  have d0 := it.k0 N (by omega)
  have d1 := it.k1 N (by omega)
  have d2 := it.k2 N (by omega)
  have lg := it.lt
  clear it
  have hcap := H2.out.row.cap
  rw [← HO.out] at d0 d1 d2
  have b1 : ((N : Int)) < (N : Int) + 1 := by omega
  go_upto_region 6 with fail
  have PO := Lib.hid (show PoAt w B h g cap N P w.heap.size x2.heap.size one F (x2.alloc (.cells #[.int .i64 one.key, .int .i64 one.who, .int .u64 (one.num : Int)] 50)) from by
    have h2 := H2.out.below (below_alloc x2 (.cells #[.int .i64 one.key, .int .i64 one.who, .int .u64 (one.num : Int)] 50))
    have hsz := B2.out.size
    have hr := R2.out.lt
    have hB := HH.out.row.2
    have hgl := H2.out.row.items.lt
    exact ⟨HH.out.lt, hBg, by omega, by omega, Nat.le_refl _, by omega, by omega, hB, h2.blk, h2.row, CellsAt.new x2 [.int .i64 one.key, .int .i64 one.who, .int .u64 (one.num : Int)] 50, ⟨_, heap_alloc_new x2 _⟩, R2.out.alloc _, (B2.out.mono (Nat.le_of_lt lh)).alloc (by omega) _, (KeepT.below (B2.out)).trans (KeepT.below (below_alloc x2 _))⟩)
  clear d0 d1 d2 lg H2 R2 B2
  generalize x2.alloc (.cells #[.int .i64 one.key, .int .i64 one.who, .int .u64 (one.num : Int)] 50) = x3 at PO ⊢
  generalize x2.heap.size = g2 at PO ⊢
  generalize w.heap.size = g0 at PO ⊢
  have q0 := PO.out.box.cell 0 _ rfl
  have q1 := PO.out.box.cell 1 _ rfl
  have q2 := PO.out.box.cell 2 _ rfl
  have lq := PO.out.box.lt
  have it := PO.out.row.items
  have SI := Lib.hid (sink_ok (w := x3.drew) (h := h) (g := g) (n := N) (c := cap) (F := F) one ⟨lt_of_heap PO.out.blk, PO.out.cell 0 _ rfl⟩ ⟨it.lt, fun i hi => it.k0 i (by omega), fun i hi => it.k1 i (by omega), fun i hi => it.k2 i (by omega)⟩ (by omega))
  clear it
  have b2 : (N : Int) ≤ (cap : Int) := by omega
  have b3 : (0 : Int) ≤ (N : Int) := by omega
  go_region_held3 (fun w' => w'.cell? ⟨g2, 0, none⟩ = some (.int .i64 one.key) ∧ w'.cell? ⟨g2, 1, none⟩ = some (.int .i64 one.who) ∧ w'.cell? ⟨g2, 2, none⟩ = some (.int .u64 (one.num : Int)))
    (first | go_keep | exact ⟨((bcell hb4).1 _ _ lq).trans q0, ((bcell hb4).1 _ _ lq).trans q1, ((bcell hb4).1 _ _ lq).trans q2⟩)
    (first | (go_at_call 21; refine SI.out.mono ?_; rintro e w4 ⟨rfl, hb4⟩))
  all_goals
    try clear hHeld
    have P5 := Lib.hid ((PO.out.below (Below.refl _ _).drew).below hb4)
    have hpn : sinkI F N one 0 ≤ N := by
      by_cases h0 : 0 < N
      · have := (sinkI_lt (f := F) (n := N) (one := one) N 0 (by omega) h0).2; omega
      · rw [sinkI_end (by omega)]; omega
    clear SI hb4 q0 q1 q2 lq PO
    generalize sinkI F N one 0 = p at *
    have ST := Lib.hid (show PcR w B h g cap N P g0 g2 RR (.int .i64 (p : Int)) w4 from .inl ⟨p, F, one, hpn, rfl, HR.out.symm, P5.out⟩)
    clear P5 hpn
    go_wp2_with fail
    go_loopw [8] (fun v wr => PcR w B h g cap N P g0 g2 RR v wr) (fun v _ => (intOf v + 1).toNat)
    case atStart => exact ST.out
    case round =>
      clear ST
      rcases hrel with ⟨q, G, x, hq, rfl, hc, M⟩ | ⟨rfl, M⟩
      · have HC := Lib.hid hc
        have HM := Lib.hid M
        have tq : decide ((0 : Int) ≤ (q : Int)) = true := decide_eq_true (by omega)
        have MP := Lib.hid (show PoAt w B h g cap N P g0 g2 (G q) (upI G q x) ((((((wr.setCell ⟨g, q * 3, none⟩ (.int .i64 x.key)).setCell ⟨g, q * 3 + 1, none⟩ (.int .i64 x.who)).setCell ⟨g, q * 3 + 2, none⟩ (.int .u64 (x.num : Int))).setCell ⟨g2, 0, none⟩ (.int .i64 (G q).key)).setCell ⟨g2, 1, none⟩ (.int .i64 (G q).who)).setCell ⟨g2, 2, none⟩ (.int .u64 ((G q).num : Int))) from (M.put q (by omega) x).take (G q))
        have it := M.row.items
        have c0 := it.k0 q (by omega)
        have c1 := it.k1 q (by omega)
        have c2 := it.k2 q (by omega)
        have c0d : wr.drew.cell? ⟨g, q * 3, none⟩ = _ := c0
        have c1d : wr.drew.cell? ⟨g, q * 3 + 1, none⟩ = _ := c1
        have c2d : wr.drew.cell? ⟨g, q * 3 + 2, none⟩ = _ := c2
        have f0 := M.row.free (q * 3)
        have f1 := M.row.free (q * 3 + 1)
        have f2 := M.row.free (q * 3 + 2)
        have f0d : wr.drew.frozen? ⟨g, q * 3, none⟩ = false := f0
        have f1d : wr.drew.frozen? ⟨g, q * 3 + 1, none⟩ = false := f1
        have f2d : wr.drew.frozen? ⟨g, q * 3 + 2, none⟩ = false := f2
        have q0 := M.box.cell 0 _ rfl
        have q1 := M.box.cell 1 _ rfl
        have q2 := M.box.cell 2 _ rfl
        have q0d : wr.drew.cell? ⟨g2, 0, none⟩ = _ := q0
        have q1d : wr.drew.cell? ⟨g2, 1, none⟩ = _ := q1
        have q2d : wr.drew.cell? ⟨g2, 2, none⟩ = _ := q2
        have g0f := M.box.free 0
        have g1f := M.box.free 1
        have g2f := M.box.free 2
        have g0d : wr.drew.frozen? ⟨g2, 0, none⟩ = false := g0f
        have g1d : wr.drew.frozen? ⟨g2, 1, none⟩ = false := g1f
        have g2d : wr.drew.frozen? ⟨g2, 2, none⟩ = false := g2f
        have lq := M.box.lt
        have lg := it.lt
        have lqd : g2 < wr.drew.heap.size := lq
        have lgd : g < wr.drew.heap.size := lg
        have n1 : ¬ g = g2 := M.ne
        have n2 : ¬ g2 = g := fun e => n1 e.symm
        have a1 : (q : Int) < (N : Int) + 1 := by omega
        have a2 : (0 : Int) ≤ (q : Int) := by omega
        clear M hc it
        obtain ⟨y, hy⟩ : ∃ y, y = G q := ⟨_, rfl⟩
        have HY := Lib.hid hy
        rw [← hy] at c0 c1 c2 c0d c1d c2d MP
        clear hy
        go_upto_region 9 with fail
        go_region
        all_goals
          clear c0 c1 c2 c0d c1d c2d f0 f1 f2 f0d f1d f2d q0 q1 q2 q0d q1d q2d g0f g1f g2f g0d g1d g2d lq lg lqd lgd n1 n2 a1 a2
          have MD := Lib.hid (MP.out.below (Below.refl _ _).drew)
          clear MP
          by_cases h0 : q = 0
          · subst h0
            have FIN := Lib.hid (show PcR w B h g cap N P g0 g2 RR (.int .i64 (-1)) _ from .inr ⟨rfl, by
              have e := HC.out
              rw [carryI_stop] at e
              rw [← e, ← HY.out]
              exact MD.out⟩)
            go_wp2_with (go_at_call 20; refine (above_zero _).mono ?_; rintro e w6 ⟨rfl, rfl⟩)
            exact ⟨FIN.out, by show (-1 + 1 : Int).toNat < ((0 : Nat) + 1 : Int).toNat; omega⟩
          · have h1 : 0 < q := by omega
            have alt := abv_lt h1
            have FIN := Lib.hid (show PcR w B h g cap N P g0 g2 RR (.int .i64 (abv q : Int)) _ from .inl ⟨abv q, _, _, by omega, rfl, by
              have e := HC.out
              rw [carryI_go h1, ← HY.out] at e
              exact e, MD.out⟩)
            have AB := Lib.hid (fun W : World => above_pos q h1 (by omega) W)
            have ME := Lib.hid (show (intOf (.int .i64 (abv q : Int)) + 1).toNat < (intOf (.int .i64 (q : Int)) + 1).toNat by show ((abv q : Int) + 1).toNat < ((q : Int) + 1).toNat; omega)
            clear alt
            generalize abv q = A at *
            go_wp2_with (go_at_call 20; refine (AB.out _).mono ?_; rintro e w6 ⟨rfl, rfl⟩)
            exact ⟨FIN.out, ME.out⟩
      · have HM := Lib.hid M
        obtain ⟨G, x⟩ := RR
        have it := M.row.items
        have c0 := it.k0 N (by omega)
        have c1 := it.k1 N (by omega)
        have c2 := it.k2 N (by omega)
        have f0 := M.row.free (N * 3)
        have f1 := M.row.free (N * 3 + 1)
        have f2 := M.row.free (N * 3 + 2)
        have lg := it.lt
        have MP := Lib.hid (M.put N (by omega) ⟨0, 0, 0⟩)
        clear M it
        go_upto_region 11 with fail
        change Hid (PoAt w B h g cap N P g0 g2 x (upI G N ⟨0, 0, 0⟩) (((wr.setCell ⟨g, N * 3, none⟩ (.int .i64 0)).setCell ⟨g, N * 3 + 1, none⟩ (.int .i64 0)).setCell ⟨g, N * 3 + 2, none⟩ (.int .u64 0))) at MP
        clear c0 c1 c2 f0 f1 f2 lg HM
        generalize (((wr.setCell ⟨g, N * 3, none⟩ (.int .i64 0)).setCell ⟨g, N * 3 + 1, none⟩ (.int .i64 0)).setCell ⟨g, N * 3 + 2, none⟩ (.int .u64 0)) = x9 at MP ⊢
        have c1 := MP.out.cell 1 _ rfl
        have f1 := MP.out.free 1
        have lh9 := lt_of_heap MP.out.blk
        have q0 := MP.out.box.cell 0 _ rfl
        have q1 := MP.out.box.cell 1 _ rfl
        have r0 := MP.out.res.cell 0 _ rfl
        have r1 := MP.out.res.cell 1 _ rfl
        have rf0 := MP.out.res.free 0
        have rf1 := MP.out.res.free 1
        have lr := MP.out.res.lt
        have n3 : ¬ h = g2 := by have := MP.out.lt; have := MP.out.ge; omega
        have n4 : ¬ h = g0 := by have := MP.out.lt; have := MP.out.hw; have := MP.out.ge0; omega
        have FIN := Lib.hid (show PopR w B h (G, x).2 (G, x).1 N P (.returned (.tuple #[.agg #[.int .i64 x.key, .int .i64 x.who], .bool true])) (((x9.setCell ⟨h, 1, none⟩ (.slice (some ⟨g, 0, none⟩) N cap)).setCell ⟨g0, 0, none⟩ (.int .i64 x.key)).setCell ⟨g0, 1, none⟩ (.int .i64 x.who)) from by
          obtain ⟨⟨v, d1⟩, d2, d3⟩ := MP.out.done (.int .i64 x.key) (.int .i64 x.who)
          exact ⟨rfl, ⟨v, d1.congr fun i hi => upI_other _ _ _ _ (by omega)⟩, d2, d3⟩)
        go_wp2_with fail
        have E := Lib.hid (((MP.out.res.other (show h ≠ g0 from n4) 1 (.slice (some ⟨g, 0, none⟩) N cap)).set 0 (.int .i64 x.key) (by simp)).set 1 (.int .i64 x.who) (by simp))
        have E0 := E.out.cell 0 _ rfl
        have E1 := E.out.cell 1 _ rfl
        exact bodyPost_ret (v := .tuple #[.agg #[.int .i64 x.key, .int .i64 x.who], .bool true]) (by simp [results, Try.results10, go_sem, E0, E1]) rfl FIN.out
end Go.Proofs.Ytiegpjlobpmacaa
