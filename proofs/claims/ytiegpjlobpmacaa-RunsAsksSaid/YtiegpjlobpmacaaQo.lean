/- Pop, and how often it asks. -/
import Derived.Test.YtiegpjlobpmacaaQu
import Derived.ChangeAlike
import Derived.RegionTactic
namespace Go.Proofs.Ytiegpjlobpmacaa
open Go.RowKit
set_option maxRecDepth 100000
theorem len2_ok {w : World} {ba h B n P c : Nat} {v : Value} {F : Nat → It} (H : Hp2 w ba h B v F n P c) : Calls Try.prog 14 #[.pointer (some ⟨h, 0, none⟩)] w (Same w (.int .i64 (n : Int))) := by
  obtain ⟨a, cp, rfl⟩ := H.row.slice
  have c1 := H.cell 1 _ rfl
  have lh := lt_of_heap H.blk
  clear H
  go_enter Try.func14, Try.ntmps14
  go_wp2_with fail
  go_ret
  exact ⟨rfl, rfl⟩
/-- Pop, under way. -/
structure PoA (w : World) (B0 ba h B g cap N P c g2 : Nat) (x : It) (G : Nat → It) (wr : World) : Prop where
  l00 : B0 ≤ ba
  lt0 : ba < h
  lt : h < B
  le : B ≤ g
  ne : g ≠ g2
  ge : B ≤ g2
  asks : AskAt wr ba c
  blk : wr.heap[h]? = some (.cells #[.func (.func 13) #[] #[.pointer (some ⟨ba, 0, none⟩)], .slice (some ⟨g, 0, none⟩) (N + 1) cap, .int .u64 (P : Int)] 54 (0, 0))
  row : IRw wr B (.slice (some ⟨g, 0, none⟩) (N + 1) cap) G (N + 1)
  box : CellsAt wr g2 [.int .i64 x.key, .int .u64 (x.num : Int)]
  bel : Below B0 w wr
theorem PoA.ask {w wr w' : World} {B0 ba h B g cap N P c d g2 : Nat} {x : It} {G : Nat → It} (H : PoA w B0 ba h B g cap N P c g2 x G wr) (k : Ask ba d wr w') : PoA w B0 ba h B g cap N P d g2 x G w' := by
  have h1 := H.lt0
  have h2 := H.lt
  have h3 := H.ge
  have h4 := H.l00
  exact ⟨H.l00, H.lt0, H.lt, H.le, H.ne, H.ge, k.cell, (k.block h (lt_of_heap H.blk) (by omega)).trans H.blk, H.row.ask k (by omega), H.box.ask k (by omega), H.bel.trans (k.low h4 (by have := lt_of_heap H.blk; omega))⟩
theorem PoA.cell {w wr : World} {B0 ba h B g cap N P c g2 : Nat} {x : It} {G : Nat → It} (H : PoA w B0 ba h B g cap N P c g2 x G wr) (j : Nat) (u : Value) (hu : (#[.func (.func 13) #[] #[.pointer (some ⟨ba, 0, none⟩)], .slice (some ⟨g, 0, none⟩) (N + 1) cap, .int .u64 (P : Int)] : Array Value)[j]? = some u) : wr.cell? ⟨h, j, none⟩ = some u := by
  rw [cell_of_row wr h j _ 54 (0, 0) H.blk]; exact hu
theorem PoA.free {w wr : World} {B0 ba h B g cap N P c g2 : Nat} {x : It} {G : Nat → It} (H : PoA w B0 ba h B g cap N P c g2 x G wr) (j : Nat) : wr.frozen? ⟨h, j, none⟩ = false := frozen_of_row wr h j _ 54 H.blk
theorem PoA.put {w wr : World} {B0 ba h B g cap N P c g2 : Nat} {x : It} {G : Nat → It} (H : PoA w B0 ba h B g cap N P c g2 x G wr) (i : Nat) (hi : i < N + 1) (y : It) :
    PoA w B0 ba h B g cap N P c g2 x (upI G i y) ((wr.setCell ⟨g, i * 2, none⟩ (.int .i64 y.key)).setCell ⟨g, i * 2 + 1, none⟩ (.int .u64 (y.num : Int))) := by
  have h1 := H.lt0
  have h2 := H.lt
  have h3 := H.le
  have h4 := H.l00
  have hp := H.row.put i hi y
  have kp : ∀ b, b < B → b < wr.heap.size → ((wr.setCell ⟨g, i * 2, none⟩ (.int .i64 y.key)).setCell ⟨g, i * 2 + 1, none⟩ (.int .u64 (y.num : Int))).heap[b]? = wr.heap[b]? := fun b hb hs => hp.2.block b hs (fun e => by have := Option.some.inj e; omega)
  refine ⟨H.l00, H.lt0, H.lt, H.le, H.ne, H.ge, (kp ba (by omega) (lt_of_heap H.asks)).trans H.asks, (kp h (by omega) (lt_of_heap H.blk)).trans H.blk, hp.1, (H.box.other H.ne _ _).other H.ne _ _, H.bel.trans (grown_low hp.2 (by omega) (by have := lt_of_heap H.blk; omega))⟩
theorem IRw.other {w : World} {B b : Nat} {v : Value} {F : Nat → It} {n : Nat} (h : IRw w B v F n) (hb : v.ownBlock ≠ some b) (j : Nat) (x : Value) : IRw (w.setCell ⟨b, j, none⟩ x) B v F n :=
  ⟨ownsRow_setCell_other (a := ⟨b, j, none⟩) h.1 hb x, by simpa using h.2⟩
/-- The thing that is carried is another one. -/
theorem PoA.take {w wr : World} {B0 ba h B g cap N P c g2 : Nat} {x : It} {G : Nat → It} (H : PoA w B0 ba h B g cap N P c g2 x G wr) (y : It) :
    PoA w B0 ba h B g cap N P c g2 y G ((wr.setCell ⟨g2, 0, none⟩ (.int .i64 y.key)).setCell ⟨g2, 1, none⟩ (.int .u64 (y.num : Int))) := by
  have h1 := H.lt0
  have hge := H.ge
  have hlt := H.lt
  have h4 := H.l00
  have hh : h ≠ g2 := by omega
  have ha : ba ≠ g2 := by omega
  have hg : (Value.slice (some ⟨g, 0, none⟩) (N + 1) cap).ownBlock ≠ some g2 := fun e => H.ne (by simpa [Value.ownBlock] using e)
  refine ⟨H.l00, H.lt0, H.lt, H.le, H.ne, H.ge, ?_, ?_, (H.row.other hg _ _).other hg _ _, ?_, ?_⟩
  · unfold AskAt
    rw [heap_setCell_other _ ⟨g2, 1, none⟩ ba _ ha, heap_setCell_other _ ⟨g2, 0, none⟩ ba _ ha]; exact H.asks
  · rw [heap_setCell_other _ ⟨g2, 1, none⟩ h _ hh, heap_setCell_other _ ⟨g2, 0, none⟩ h _ hh]; exact H.blk
  · exact (H.box.set 0 _ (by simp)).set 1 _ (by simp)
  · exact (H.bel.setCell (p := ⟨g2, 0, none⟩) (show B0 ≤ g2 by omega) _).setCell (p := ⟨g2, 1, none⟩) (show B0 ≤ g2 by omega) _
theorem PoA.done {w wr : World} {B0 ba h B g cap N P c g2 : Nat} {x : It} {G : Nat → It} (H : PoA w B0 ba h B g cap N P c g2 x G wr) :
    (∃ v, Hp2 (wr.setCell ⟨h, 1, none⟩ (.slice (some ⟨g, 0, none⟩) N cap)) ba h B v G N P c) ∧ Below B0 w (wr.setCell ⟨h, 1, none⟩ (.slice (some ⟨g, 0, none⟩) N cap)) := by
  have hb : h < B := H.lt
  have h1 := H.lt0
  have h4 := H.l00
  have r1 : IRw wr B (.slice (some ⟨g, 0, none⟩) N cap) G N := ⟨ownsRow_pop (itW_len G N) H.row.1, H.row.2⟩
  refine ⟨⟨_, H.lt0, H.lt, ?_, cells54 1 (.slice (some ⟨g, 0, none⟩) N cap) H.blk, ⟨ownsRow_setCell_below r1.1 hb _, by simpa using r1.2⟩⟩, H.bel.setCell (p := ⟨h, 1, none⟩) (show B0 ≤ h by omega) _⟩
  unfold AskAt
  rw [heap_setCell_other _ ⟨h, 1, none⟩ ba _ (show ba ≠ h by omega)]
  exact H.asks
def PopJ (w : World) (B0 ba h B : Nat) (x : It) (G : Nat → It) (N P c : Nat) (e : Ending) (w' : World) : Prop := e = .returned (.tuple #[.int .i64 x.key, .bool true]) ∧ (∃ v, Hp2 w' ba h B v G N P c) ∧ Below B0 w w'
def PcJ (w : World) (B0 ba h B g cap N P c g2 : Nat) (R : (Nat → It) × It) (v : Value) (wr : World) : Prop :=
  (∃ q G x, q ≤ N ∧ v = .int .i64 (q : Int) ∧ carryI G 0 q x = R ∧ PoA w B0 ba h B g cap N P c g2 x G wr) ∨ (v = .int .i64 (-1) ∧ PoA w B0 ba h B g cap N P c g2 R.2 R.1 wr)
set_option maxHeartbeats 8000000 in
theorem pop2_ok {w : World} {B0 ba h B N P c : Nat} {v : Value} {F : Nat → It} (H : Hp2 w ba h B v F (N + 1) P c) (hB0 : B0 ≤ ba) (hN : N < 1048575) (hcb : c < 1048576) :
    Calls Try.prog 17 #[.pointer (some ⟨h, 0, none⟩)] w (PopJ w B0 ba h B (carryI F 0 (sinkI F N (F N) 0) (F N)).2 (carryI F 0 (sinkI F N (F N) 0) (F N)).1 N P (c + sinkN F N (F N) 0)) := by
  obtain ⟨g, cap, rfl, hBg, hgs⟩ := H.row.form (by omega)
  have HH := Lib.hid H
  have lh := lt_of_heap H.blk
  clear H
  obtain ⟨one, hone⟩ : ∃ one, one = F N := ⟨_, rfl⟩
  have HO := Lib.hid hone
  rw [← hone]
  obtain ⟨RR, hRR⟩ : ∃ RR, RR = carryI F 0 (sinkI F N one 0) one := ⟨_, rfl⟩
  have HR := Lib.hid hRR
  rw [← hRR]
  obtain ⟨d, hd⟩ : ∃ d, d = c + sinkN F N one 0 := ⟨_, rfl⟩
  have HD := Lib.hid hd
  rw [← hd]
  clear hone hRR hd
  go_enter Try.func17, Try.ntmps17
  go_wp2_with fail
  refine (len2_ok HH.out).mono ?_
  rintro e w1 ⟨rfl, rfl⟩
  have c1 := HH.out.cell 1 _ rfl
  have tn : ((((N + 1 : Nat) : Int)) == 0) = false := by simp; omega
  go_upto_region 4 with fail
  go_quiet (fail)
  have H2 := Lib.hid (HH.out.below (below_drewN w nq))
  have B2 := Lib.hid (below_drewN w nq)
  clear c1
  generalize w.drewN nq = x2 at H2 B2 ⊢
  have hba : g ≠ ba := by have := HH.out.lt0; have := HH.out.lt; omega
  have it := H2.out.row.items hba
  have d0 := it.k0 N (by omega)
  have d1 := it.k1 N (by omega)
  have lg := it.lt
  clear it
  have hcap := H2.out.row.cap
  rw [← HO.out] at d0 d1
  have b1 : ((N : Int)) < (N : Int) + 1 := by omega
  go_upto_region 6 with fail
  have PO := Lib.hid (show PoA w B0 ba h B g cap N P c x2.heap.size one F (x2.alloc (.cells #[.int .i64 one.key, .int .u64 (one.num : Int)] 56)) from by
    have h2 := H2.out.below (below_alloc x2 (.cells #[.int .i64 one.key, .int .u64 (one.num : Int)] 56))
    have hsz := B2.out.size
    have hB := HH.out.row.2
    have h1 := HH.out.lt0
    have h3 := HH.out.lt
    exact ⟨hB0, HH.out.lt0, HH.out.lt, hBg, by omega, by omega, h2.asks, h2.blk, h2.row, CellsAt.new x2 [.int .i64 one.key, .int .u64 (one.num : Int)] 56, (B2.out.mono (show B0 ≤ w.heap.size by omega)).alloc (by omega) _⟩)
  clear d0 d1 lg H2 B2
  generalize x2.alloc (.cells #[.int .i64 one.key, .int .u64 (one.num : Int)] 56) = x3 at PO ⊢
  generalize x2.heap.size = g2 at PO ⊢
  have q0 := PO.out.box.cell 0 _ rfl
  have q1 := PO.out.box.cell 1 _ rfl
  have lq := PO.out.box.lt
  have it := PO.out.row.items hba
  have NG2 := Lib.hid (show g2 ≠ ba from by have := PO.out.ge; have := PO.out.lt; have := PO.out.lt0; omega)
  have SI := Lib.hid (sink2_ok (w := x3.drew) (h := h) (ba := ba) (c0 := c) (g := g) (n := N) (c := cap) (F := F) one ⟨lt_of_heap PO.out.blk, by have := PO.out.lt0; omega, PO.out.cell 0 _ rfl⟩ PO.out.asks ⟨it.lt, it.ne, fun i hi => it.k0 i (by omega), fun i hi => it.k1 i (by omega)⟩ (by omega) hcb)
  rw [← HD.out] at SI
  clear it
  have b2 : (N : Int) ≤ (cap : Int) := by omega
  have b3 : (0 : Int) ≤ (N : Int) := by omega
  have AD := Lib.hid (show Ask ba c x3 x3.drew from Ask.of PO.out.asks (Below.refl _ _).drew)
  go_region_held3 (fun w' => w'.cell? ⟨g2, 0, none⟩ = some (.int .i64 one.key) ∧ w'.cell? ⟨g2, 1, none⟩ = some (.int .u64 (one.num : Int)))
    (first | go_keep | exact ⟨(hb4.cellOf lq NG2.out _).trans q0, (hb4.cellOf lq NG2.out _).trans q1⟩)
    (first | (go_at_call 23; refine SI.out.mono ?_; rintro e w4 ⟨rfl, hb4⟩))
  all_goals
    try clear hHeld
    have P5 := Lib.hid (PO.out.ask (AD.out.trans hb4))
    have hpn : sinkI F N one 0 ≤ N := by
      by_cases h0 : 0 < N
      · have := (sinkI_lt (f := F) (n := N) (one := one) N 0 (by omega) h0).2; omega
      · rw [sinkI_end (by omega)]; omega
    clear SI hb4 q0 q1 lq PO
    generalize sinkI F N one 0 = p at *
    have ST := Lib.hid (show PcJ w B0 ba h B g cap N P d g2 RR (.int .i64 (p : Int)) w4 from .inl ⟨p, F, one, hpn, rfl, HR.out.symm, P5.out⟩)
    clear P5 hpn
    go_wp2_with fail
    go_loopw [8] (fun v wr => PcJ w B0 ba h B g cap N P d g2 RR v wr) (fun v _ => (intOf v + 1).toNat)
    case atStart => exact ST.out
    case round =>
      clear ST
      rcases hrel with ⟨q, G, x, hq, rfl, hc, M⟩ | ⟨rfl, M⟩
      · have HC := Lib.hid hc
        have HM := Lib.hid M
        have tq : decide ((0 : Int) ≤ (q : Int)) = true := decide_eq_true (by omega)
        have MP := Lib.hid (show PoA w B0 ba h B g cap N P d g2 (G q) (upI G q x) ((((wr.setCell ⟨g, q * 2, none⟩ (.int .i64 x.key)).setCell ⟨g, q * 2 + 1, none⟩ (.int .u64 (x.num : Int))).setCell ⟨g2, 0, none⟩ (.int .i64 (G q).key)).setCell ⟨g2, 1, none⟩ (.int .u64 ((G q).num : Int))) from (M.put q (by omega) x).take (G q))
        have it := M.row.items hba
        have c0 := it.k0 q (by omega)
        have c1 := it.k1 q (by omega)
        have c0d : wr.drew.cell? ⟨g, q * 2, none⟩ = _ := c0
        have c1d : wr.drew.cell? ⟨g, q * 2 + 1, none⟩ = _ := c1
        have f0 := M.row.free (q * 2)
        have f1 := M.row.free (q * 2 + 1)
        have f0d : wr.drew.frozen? ⟨g, q * 2, none⟩ = false := f0
        have f1d : wr.drew.frozen? ⟨g, q * 2 + 1, none⟩ = false := f1
        have q0 := M.box.cell 0 _ rfl
        have q1 := M.box.cell 1 _ rfl
        have q0d : wr.drew.cell? ⟨g2, 0, none⟩ = _ := q0
        have q1d : wr.drew.cell? ⟨g2, 1, none⟩ = _ := q1
        have g0f := M.box.free 0
        have g1f := M.box.free 1
        have g0d : wr.drew.frozen? ⟨g2, 0, none⟩ = false := g0f
        have g1d : wr.drew.frozen? ⟨g2, 1, none⟩ = false := g1f
        have lq := M.box.lt
        have lg := it.lt
        have lqd : g2 < wr.drew.heap.size := lq
        have lgd : g < wr.drew.heap.size := lg
        have n1 : ¬ g = g2 := M.ne
        have n2 : ¬ g2 = g := fun e => n1 e.symm
        have a1 : (q : Int) < (N : Int) + 1 := by omega
        have a2 : (0 : Int) ≤ (q : Int) := by omega
        clear M hc it
        obtain ⟨y, hy⟩ : ∃ y, y = G q := ⟨_, rfl⟩
        have HY := Lib.hid hy
        rw [← hy] at c0 c1 c0d c1d MP
        clear hy
        go_upto_region 9 with fail
        go_region
        all_goals
          clear c0 c1 c0d c1d f0 f1 f0d f1d q0 q1 q0d q1d g0f g1f g0d g1d lq lg lqd lgd n1 n2 a1 a2
          have MD := Lib.hid (MP.out.ask (Ask.of MP.out.asks (Below.refl _ _).drew))
          clear MP
          by_cases h0 : q = 0
          · subst h0
            have FIN := Lib.hid (show PcJ w B0 ba h B g cap N P d g2 RR (.int .i64 (-1)) _ from .inr ⟨rfl, by
              have e := HC.out
              rw [carryI_stop] at e
              rw [← e, ← HY.out]
              exact MD.out⟩)
            go_wp2_with (go_at_call 20; refine (above_zero _).mono ?_; rintro e w6 ⟨rfl, rfl⟩)
            exact ⟨FIN.out, by show (-1 + 1 : Int).toNat < ((0 : Nat) + 1 : Int).toNat; omega⟩
          · have h1 : 0 < q := by omega
            have alt := abv_lt h1
            have FIN := Lib.hid (show PcJ w B0 ba h B g cap N P d g2 RR (.int .i64 (abv q : Int)) _ from .inl ⟨abv q, _, _, by omega, rfl, by
              have e := HC.out
              rw [carryI_go h1, ← HY.out] at e
              exact e, MD.out⟩)
            have AB := Lib.hid (fun W : World => above_pos q h1 (by omega) W)
            have ME := Lib.hid (show (intOf (.int .i64 (abv q : Int)) + 1).toNat < (intOf (.int .i64 (q : Int)) + 1).toNat by show ((abv q : Int) + 1).toNat < ((q : Int) + 1).toNat; omega)
            clear alt
            generalize abv q = A at *
            go_wp2_with (go_at_call 20; refine (AB.out _).mono ?_; rintro e w6 ⟨rfl, rfl⟩)
            exact ⟨FIN.out, ME.out⟩
      · have HM := Lib.hid M
        obtain ⟨G, x⟩ := RR
        have it := M.row.items hba
        have c0 := it.k0 N (by omega)
        have c1 := it.k1 N (by omega)
        have f0 := M.row.free (N * 2)
        have f1 := M.row.free (N * 2 + 1)
        have lg := it.lt
        have MP := Lib.hid (M.put N (by omega) ⟨0, 0, 0⟩)
        clear M it
        go_upto_region 11 with fail
        change Hid (PoA w B0 ba h B g cap N P d g2 x (upI G N ⟨0, 0, 0⟩) ((wr.setCell ⟨g, N * 2, none⟩ (.int .i64 0)).setCell ⟨g, N * 2 + 1, none⟩ (.int .u64 0))) at MP
        clear c0 c1 f0 f1 lg HM
        generalize ((wr.setCell ⟨g, N * 2, none⟩ (.int .i64 0)).setCell ⟨g, N * 2 + 1, none⟩ (.int .u64 0)) = x9 at MP ⊢
        have c1 := MP.out.cell 1 _ rfl
        have f1 := MP.out.free 1
        have lh9 := lt_of_heap MP.out.blk
        have q0 := MP.out.box.cell 0 _ rfl
        have n3 : ¬ h = g2 := by have := MP.out.lt; have := MP.out.ge; omega
        have FIN := Lib.hid (show PopJ w B0 ba h B (G, x).2 (G, x).1 N P d (.returned (.tuple #[.int .i64 x.key, .bool true])) (x9.setCell ⟨h, 1, none⟩ (.slice (some ⟨g, 0, none⟩) N cap)) from by
          obtain ⟨⟨v, d1⟩, d2⟩ := MP.out.done
          exact ⟨rfl, ⟨v, d1.congr fun i hi => upI_other _ _ _ _ (by omega)⟩, d2⟩)
        go_wp2_with fail
        exact bodyPost_ret (v := .tuple #[.int .i64 x.key, .bool true]) (by simp [results, Try.results17, go_sem]) rfl FIN.out
/-- What an empty one answers. -/
theorem pop2_none {w : World} {ba h B P c : Nat} {v : Value} {F : Nat → It} (H : Hp2 w ba h B v F 0 P c) : Calls Try.prog 17 #[.pointer (some ⟨h, 0, none⟩)] w (Same w (.tuple #[.int .i64 0, .bool false])) := by
  have HH := Lib.hid H
  clear H
  go_enter Try.func17, Try.ntmps17
  go_wp2_with (go_at_call 14; refine (len2_ok HH.out).mono ?_; rintro e w1 ⟨rfl, rfl⟩)
  exact bodyPost_ret (v := .tuple #[.int .i64 0, .bool false]) (by simp [results, Try.results17, go_sem]) rfl ⟨rfl, rfl⟩
theorem peek2_none {w : World} {ba h B P c : Nat} {v : Value} {F : Nat → It} (H : Hp2 w ba h B v F 0 P c) : Calls Try.prog 18 #[.pointer (some ⟨h, 0, none⟩)] w (Same w (.tuple #[.int .i64 0, .bool false])) := by
  have HH := Lib.hid H
  clear H
  go_enter Try.func18, Try.ntmps18
  go_wp2_with (go_at_call 14; refine (len2_ok HH.out).mono ?_; rintro e w1 ⟨rfl, rfl⟩)
  exact bodyPost_ret (v := .tuple #[.int .i64 0, .bool false]) (by simp [results, Try.results18, go_sem]) rfl ⟨rfl, rfl⟩
theorem peek2_ok {w : World} {ba h B n P c : Nat} {v : Value} {F : Nat → It} (H : Hp2 w ba h B v F n P c) (hn : 0 < n) : Calls Try.prog 18 #[.pointer (some ⟨h, 0, none⟩)] w (Same w (.tuple #[.int .i64 (F 0).key, .bool true])) := by
  obtain ⟨g, cap, rfl, hBg, hgs⟩ := H.row.form hn
  have HH := Lib.hid H
  have tn : (((n : Int)) == 0) = false := by simp; omega
  have tn2 : ((0 : Int)) < (n : Int) := by omega
  have c1 := H.cell 1 _ rfl
  have it := H.row.items (ba := ba) (by have := H.lt0; have := H.lt; omega)
  have k0 := it.k0 0 hn
  have lg := it.lt
  have lh := lt_of_heap H.blk
  generalize (F 0).key = z at *
  clear it H
  go_enter Try.func18, Try.ntmps18
  go_wp2_with (go_at_call 14; refine (len2_ok HH.out).mono ?_; rintro e w1 ⟨rfl, rfl⟩)
  exact bodyPost_ret (v := .tuple #[.int .i64 z, .bool true]) (by simp [results, Try.results18, go_sem]) rfl ⟨rfl, rfl⟩
def NewJ (w : World) (ba c : Nat) (e : Ending) (w' : World) : Prop := e = .returned (.tuple #[.pointer (some ⟨w.heap.size, 0, none⟩), .int .i64 0]) ∧ (∀ F, Hp2 w' ba w.heap.size (w.heap.size + 1) (.slice none 0 0) F 0 0 c) ∧ Below w.heap.size w w'
theorem new2_ok {w : World} {ba c : Nat} (h : AskAt w ba c) : Calls Try.prog 12 #[.func (.func 13) #[] #[.pointer (some ⟨ba, 0, none⟩)]] w (NewJ w ba c) := by
  have hrun : ∀ w, Sem.run Try.prog (binOp BinOp.eql 40 (Value.func (.func 13) #[] #[.pointer (some ⟨ba, 0, none⟩)]) Value.nilFunc) w = .ok (.bool false) w := fun _ => by kernel_rfl
  have HA := Lib.hid h
  clear h
  go_enter Try.func12, Try.ntmps12
  go_wp2_with fail
  exact bodyPost_ret (v := .tuple #[.pointer (some ⟨w.heap.size, 0, none⟩), .int .i64 0]) (by simp [results, Try.results12, go_sem]) rfl ⟨rfl, fun F => ⟨lt_of_heap HA.out, by omega, (Ask.of HA.out (below_alloc w _)).cell, heap_alloc_new w _, ⟨World.ownsRow_nil _ _ _ _, by simp⟩⟩, below_alloc w _⟩
end Go.Proofs.Ytiegpjlobpmacaa
