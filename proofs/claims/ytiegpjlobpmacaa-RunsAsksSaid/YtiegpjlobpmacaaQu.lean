/- Push, and how often it asks. -/
import Derived.Test.YtiegpjlobpmacaaQi
import Derived.Deep.RegionLaw
namespace Go.Proofs.Ytiegpjlobpmacaa
open Go.RowKit
set_option maxRecDepth 100000
def pushJ (F : Nat → It) (n : Nat) (one : It) : Nat → It := upI (shiftI (upI F n one) n (riseI (upI F n one) one n)) (riseI (upI F n one) one n) one
def PusR (w : World) (B0 ba h B : Nat) (F : Nat → It) (n P c : Nat) (e : Ending) (w' : World) : Prop := e = .returned (.tuple #[]) ∧ (∃ v, Hp2 w' ba h B v F n P c) ∧ Below B0 w w'
/-- One item is appended, as a step of a region that draws its order. -/
theorem step_appJ {w : World} {ops : Array Oper} {o : Oper} {a : Act} {K : Act → World → Prop} {Q : Exit → Act → World → Prop} {E : Prop} (hgd : o.guard = none) (s x : Operand)
    (ho : o.op = .call { callee := .builtin .append, args := #[s, x], argTypes := #[52, 52] })
    (B : Nat) (v : Value) (F : Nat → It) (n : Nat) (hs : a.eval s = v) (hown : IRw w B v F n) (y : It) (g : Nat) (hx : a.eval x = .slice (some ⟨g, 0, none⟩) 1 1)
    (hg : ∀ j u, (itd y)[j]? = some u → w.cell? ⟨g, j, none⟩ = some u) (hlen : n + 1 ≤ 1048576)
    (h : ∀ g' cap w', IRw w' B (.slice (some ⟨g', 0, none⟩) (n + 1) cap) (upI F n y) (n + 1) → w.heap.size ≤ w'.heap.size → Below B w w' → (∀ (b : Nat), b < w.heap.size → v.ownBlock ≠ some b → w'.heap[b]? = w.heap[b]?) → (v.ownBlock = some g' ∨ g' = w.heap.size) → K (a.put o.dst (.slice (some ⟨g', 0, none⟩) (n + 1) cap)) w') :
    if Region.wanted o (yielded ops a.tmps) = true then Oper.wp Try.prog o a w K Q else E := by
  obtain ⟨i0, hi, hz0, hz1, hz2⟩ := info_parts info56
  have hB := hown.2
  refine step_append_lies w hgd s x 52 ho B 56 i0 (.agg #[.int .i64 0, .int .u64 0]) 2 16 Try.underlying52 hi hz0 hz1 hz2 rfl (by decide) v n (itW F n) hs hown.1 ⟨g, 0, none⟩ 1 1 (itd y) hx rfl ?_ ?_ (by decide) ?_ ?_ hB w.heap.size rfl ?_
  · intro j u hj
    rw [add_plain, Nat.zero_add]
    exact hg j u hj
  · intro u hu
    exact itW_one (fun _ => y) 0 u hu
  · unfold maxLen; omega
  · omega
  · intro g' cap w' h1 h2 hat hlt
    have hsz := h2.size
    refine h g' cap w' ⟨?_, Nat.le_trans hB hsz⟩ hsz ((Below.refl B w).grown h2 hB (fun k hk => (hown.1.lt k hk).1)) (fun b hb hn => h2.block b hb (fun e => hn e.symm)) hat
    rw [itW, upI_same, itW_congr (F := upI F n y) (G := F) n fun i hi => upI_other _ _ _ _ (by omega)]
    exact h1
/-- Push, under way. -/
structure PuA (w : World) (B0 ba h B g cap n P c g2 : Nat) (v0 : Value) (one : It) (G : Nat → It) (wr : World) : Prop where
  l00 : B0 ≤ ba
  lt0 : ba < h
  lt : h < B
  le : B ≤ g
  ne : g ≠ g2
  ge : B ≤ g2
  asks : AskAt wr ba c
  blk : wr.heap[h]? = some (.cells #[.func (.func 13) #[] #[.pointer (some ⟨ba, 0, none⟩)], v0, .int .u64 (P : Int)] 54 (0, 0))
  row : IRw wr B (.slice (some ⟨g, 0, none⟩) (n + 1) cap) G (n + 1)
  box : CellsAt wr g2 [.int .i64 one.key, .int .u64 (one.num : Int)]
  bel : Below B0 w wr
theorem PuA.ask {w wr w' : World} {B0 ba h B g cap n P c d g2 : Nat} {v0 : Value} {one : It} {G : Nat → It} (H : PuA w B0 ba h B g cap n P c g2 v0 one G wr) (k : Ask ba d wr w') : PuA w B0 ba h B g cap n P d g2 v0 one G w' := by
  have h1 := H.lt0
  have h2 := H.lt
  have h3 := H.ge
  have h4 := H.l00
  exact ⟨H.l00, H.lt0, H.lt, H.le, H.ne, H.ge, k.cell, (k.block h (lt_of_heap H.blk) (by omega)).trans H.blk, H.row.ask k (by omega), H.box.ask k (by omega), H.bel.trans (k.low h4 (by have := lt_of_heap H.blk; omega))⟩
theorem PuA.cell {w wr : World} {B0 ba h B g cap n P c g2 : Nat} {v0 : Value} {one : It} {G : Nat → It} (H : PuA w B0 ba h B g cap n P c g2 v0 one G wr) (j : Nat) (u : Value) (hu : (#[.func (.func 13) #[] #[.pointer (some ⟨ba, 0, none⟩)], v0, .int .u64 (P : Int)] : Array Value)[j]? = some u) : wr.cell? ⟨h, j, none⟩ = some u := by
  rw [cell_of_row wr h j _ 54 (0, 0) H.blk]; exact hu
theorem PuA.free {w wr : World} {B0 ba h B g cap n P c g2 : Nat} {v0 : Value} {one : It} {G : Nat → It} (H : PuA w B0 ba h B g cap n P c g2 v0 one G wr) (j : Nat) : wr.frozen? ⟨h, j, none⟩ = false := frozen_of_row wr h j _ 54 H.blk
theorem PuA.put {w wr : World} {B0 ba h B g cap n P c g2 : Nat} {v0 : Value} {one : It} {G : Nat → It} (H : PuA w B0 ba h B g cap n P c g2 v0 one G wr) (i : Nat) (hi : i < n + 1) (x : It) :
    PuA w B0 ba h B g cap n P c g2 v0 one (upI G i x) ((wr.setCell ⟨g, i * 2, none⟩ (.int .i64 x.key)).setCell ⟨g, i * 2 + 1, none⟩ (.int .u64 (x.num : Int))) := by
  have h1 := H.lt0
  have h2 := H.lt
  have h3 := H.le
  have h4 := H.l00
  have hp := H.row.put i hi x
  have kp : ∀ b, b < B → b < wr.heap.size → ((wr.setCell ⟨g, i * 2, none⟩ (.int .i64 x.key)).setCell ⟨g, i * 2 + 1, none⟩ (.int .u64 (x.num : Int))).heap[b]? = wr.heap[b]? := fun b hb hs => hp.2.block b hs (fun e => by have := Option.some.inj e; omega)
  refine ⟨H.l00, H.lt0, H.lt, H.le, H.ne, H.ge, (kp ba (by omega) (lt_of_heap H.asks)).trans H.asks, (kp h (by omega) (lt_of_heap H.blk)).trans H.blk, hp.1, (H.box.other H.ne _ _).other H.ne _ _, H.bel.trans (grown_low hp.2 (by omega) (by have := lt_of_heap H.blk; omega))⟩
theorem cells54 {w : World} {h : Nat} {a b c : Value} (j : Nat) (x : Value) (H : w.heap[h]? = some (.cells #[a, b, c] 54 (0, 0))) : (w.setCell ⟨h, j, none⟩ x).heap[h]? = some (.cells (#[a, b, c].setIfInBounds j x) 54 (0, 0)) := heap_setCell_same w h j _ 54 x H
/-- Push is done. -/
theorem PuA.done {w wr : World} {B0 ba h B g cap n P c g2 : Nat} {v0 : Value} {one : It} {G : Nat → It} (H : PuA w B0 ba h B g cap n P c g2 v0 one G wr) :
    (∃ v, Hp2 ((wr.setCell ⟨h, 1, none⟩ (.slice (some ⟨g, 0, none⟩) (n + 1) cap)).setCell ⟨h, 2, none⟩ (.int .u64 ((P : Int) + 1))) ba h B v G (n + 1) (P + 1) c) ∧
    Below B0 w ((wr.setCell ⟨h, 1, none⟩ (.slice (some ⟨g, 0, none⟩) (n + 1) cap)).setCell ⟨h, 2, none⟩ (.int .u64 ((P : Int) + 1))) := by
  have hb : h < B := H.lt
  have h1 := H.lt0
  have h4 := H.l00
  refine ⟨⟨_, H.lt0, H.lt, ?_, ?_, ⟨ownsRow_setCell_below (ownsRow_setCell_below H.row.1 hb _) hb _, by simpa using H.row.2⟩⟩, (H.bel.setCell (p := ⟨h, 1, none⟩) (show B0 ≤ h by omega) _).setCell (p := ⟨h, 2, none⟩) (show B0 ≤ h by omega) _⟩
  · unfold AskAt
    rw [heap_setCell_other _ ⟨h, 2, none⟩ ba _ (show ba ≠ h by omega), heap_setCell_other _ ⟨h, 1, none⟩ ba _ (show ba ≠ h by omega)]
    exact H.asks
  · have e1 := cells54 1 (.slice (some ⟨g, 0, none⟩) (n + 1) cap) H.blk
    have e2 := cells54 2 (.int .u64 ((P : Int) + 1)) e1
    exact e2
def ShJ (w : World) (B0 ba h B g cap n P c g2 : Nat) (v0 : Value) (one : It) (F : Nat → It) (p : Nat) (v : Value) (wr : World) : Prop := ∃ m G, m ≤ n ∧ v = .int .i64 (m : Int) ∧ shiftI F n p = shiftI G m p ∧ PuA w B0 ba h B g cap n P c g2 v0 one G wr
set_option maxHeartbeats 8000000 in
theorem push2_ok {w : World} {B0 ba h B n P c : Nat} {v : Value} {F : Nat → It} (H : Hp2 w ba h B v F n P c) (hB0 : B0 ≤ ba) (key : Int) (hn : n < 1048575) (hP : P < 1048576) (hcb : c < 1048576) :
    Calls Try.prog 15 #[.pointer (some ⟨h, 0, none⟩), .int .i64 key] w (PusR w B0 ba h B (pushJ F n ⟨key, 0, P⟩) (n + 1) (P + 1) (c + riseN (upI F n ⟨key, 0, P⟩) ⟨key, 0, P⟩ n)) := by
  have hrun : ∀ w, Sem.run Try.prog (binOp BinOp.eql 40 (Value.func (.func 13) #[] #[.pointer (some ⟨ba, 0, none⟩)]) Value.nilFunc) w = .ok (.bool false) w := fun _ => by kernel_rfl
  obtain ⟨a, cp, rfl⟩ := H.row.slice
  have HH := Lib.hid H
  have c0 := H.cell 0 _ rfl
  have c1 := H.cell 1 _ rfl
  have c2 := H.cell 2 _ rfl
  have lh := lt_of_heap H.blk
  clear H
  go_enter Try.func15, Try.ntmps15
  go_upto_region 3 with fail
  have H2 := Lib.hid (HH.out.below (below_alloc w (.cells #[.int .i64 key, .int .u64 (P : Int)] 56)))
  have R2 := Lib.hid (CellsAt.new w [.int .i64 key, .int .u64 (P : Int)] 56)
  have B2 := Lib.hid (below_alloc w (.cells #[.int .i64 key, .int .u64 (P : Int)] 56))
  have HG2 := Lib.hid (Nat.le_refl w.heap.size)
  change Hid (CellsAt (w.alloc (.cells #[.int .i64 key, .int .u64 (P : Int)] 56)) w.heap.size _) at R2
  generalize w.alloc (.cells #[.int .i64 key, .int .u64 (P : Int)] 56) = x2 at H2 R2 B2 ⊢
  have HS2 : w.heap.size ≤ x2.heap.size := B2.out.size
  obtain ⟨g2, hg2⟩ : ∃ g2, g2 = w.heap.size := ⟨_, rfl⟩
  have HGG := Lib.hid hg2
  rw [← hg2] at R2 ⊢
  clear hg2 c0 c1 c2
  have c1 := H2.out.cell 1 _ rfl
  have q0 := R2.out.cell 0 _ rfl
  have q1 := R2.out.cell 1 _ rfl
  have lq := R2.out.lt
  have H3a := Lib.hid (H2.out.below (below_alloc x2 (.cells #[.int .i64 key, .int .u64 (P : Int)] 56)))
  have H3 := Lib.hid (H3a.out.below (Below.refl _ _).drew)
  have c3 := H3a.out.cell 1 _ rfl
  have C3 := Lib.hid (show ∀ j u, (itd ⟨key, 0, P⟩)[j]? = some u → (x2.alloc (.cells #[.int .i64 key, .int .u64 (P : Int)] 56)).drew.cell? ⟨x2.heap.size, j, none⟩ = some u from (CellsAt.new x2 [.int .i64 key, .int .u64 (P : Int)] 56).cell)
  go_region_law (refine step_appJ (by rfl) _ _ (by rfl) B _ F n (by rfl) H3.out.row ⟨key, 0, P⟩ x2.heap.size (by rfl) C3.out (by omega) ?_; intro g4 cap4 w4 h41 h4s h42 h44 h45)
  all_goals
    have PU := Lib.hid (show PuA w B0 ba h B g4 cap4 n P c g2 (.slice a n cp) ⟨key, 0, P⟩ (upI F n ⟨key, 0, P⟩) w4 from by
      have hx2 : (x2.alloc (.cells #[.int .i64 key, .int .u64 (P : Int)] 56)).drew.heap.size = x2.heap.size + 1 := by simp
      have B3 : Below w.heap.size w (x2.alloc (.cells #[.int .i64 key, .int .u64 (P : Int)] 56)).drew := (B2.out.alloc B2.out.size _).drew
      have hwB := HH.out.row.2
      have hl0 := HH.out.lt0
      have hl1 := HH.out.lt
      have hown := HH.out.row.1.lt
      have hg2 := HGG.out
      have hne : (Value.slice a n cp).ownBlock ≠ some g2 := fun e => by have := (hown g2 e).2; omega
      have e2 := h44 g2 (by rw [hx2]; have := R2.out.lt; omega) hne
      have eh := h44 h (by rw [hx2]; omega) (fun e => by have := (hown h e).1; omega)
      have ea := h44 ba (by rw [hx2]; have := lt_of_heap HH.out.asks; omega) (fun e => by have := (hown ba e).1; omega)
      refine ⟨hB0, HH.out.lt0, HH.out.lt, ?_, ?_, by omega, ea.trans H3.out.asks, eh.trans H3.out.blk, h41, ?_, ?_⟩
      · rcases h45 with e | e
        · exact (hown g4 e).1
        · rw [e, hx2]; omega
      · rcases h45 with e | e
        · intro e'; subst e'; exact hne e
        · rw [e, hx2]; have := R2.out.lt; omega
      · have lt := R2.out.lt
        have R3 := (R2.out.alloc (.cells #[.int .i64 key, .int .u64 (P : Int)] 56))
        refine ⟨Nat.lt_of_lt_of_le lt (Nat.le_trans (by rw [hx2]; omega) h4s), fun j u hu => ?_, fun j => ?_⟩
        · exact (World.cell?_of_block (w := (x2.alloc (.cells #[.int .i64 key, .int .u64 (P : Int)] 56)).drew) (a := ⟨g2, j, none⟩) e2).trans (R3.cell j u hu)
        · exact (World.frozen?_of_block (w := (x2.alloc (.cells #[.int .i64 key, .int .u64 (P : Int)] 56)).drew) (a := ⟨g2, j, none⟩) e2).trans (R3.free j)
      · exact (B3.mono (show B0 ≤ w.heap.size by omega)).trans (h42.mono (show B0 ≤ B by omega)))
    clear h41 h4s h42 h44 h45 H3 H3a C3 c3 H2 R2 B2 c1 q0 q1 lq
    have q0 := PU.out.box.cell 0 _ rfl
    have q1 := PU.out.box.cell 1 _ rfl
    have lq := PU.out.box.lt
    have it := PU.out.row.items (ba := ba) (by have := PU.out.lt0; have := PU.out.lt; have := PU.out.le; omega)
    have RI := Lib.hid (rise2_ok (w := w4) (h := h) (ba := ba) (c0 := c) (g := g4) (n := n) (c := cap4) (F := upI F n ⟨key, 0, P⟩) ⟨key, 0, P⟩ ⟨lt_of_heap PU.out.blk, by have := PU.out.lt0; omega, PU.out.cell 0 _ rfl⟩ PU.out.asks ⟨it.lt, it.ne, fun i hi => it.k0 i (by omega), fun i hi => it.k1 i (by omega)⟩ (by omega) hcb)
    clear it
    go_wp2_with fail
    refine RI.out.mono ?_
    rintro e w5 ⟨rfl, hb5⟩
    have P5 := Lib.hid (PU.out.ask hb5)
    have HPU := Lib.hid (show pushJ F n ⟨key, 0, P⟩ = upI (shiftI (upI F n ⟨key, 0, P⟩) n (riseI (upI F n ⟨key, 0, P⟩) ⟨key, 0, P⟩ n)) (riseI (upI F n ⟨key, 0, P⟩) ⟨key, 0, P⟩ n) ⟨key, 0, P⟩ from rfl)
    have hpn := riseI_le (upI F n ⟨key, 0, P⟩) ⟨key, 0, P⟩ n
    clear RI hb5 q0 q1 lq PU
    generalize c + riseN (upI F n ⟨key, 0, P⟩) ⟨key, 0, P⟩ n = d at *
    generalize riseI (upI F n ⟨key, 0, P⟩) ⟨key, 0, P⟩ n = p at *
    generalize upI F n ⟨key, 0, P⟩ = F' at *
    have ST := Lib.hid (show ShJ w B0 ba h B g4 cap4 n P d g2 (.slice a n cp) ⟨key, 0, P⟩ F' p (.int .i64 (n : Int)) w5 from ⟨n, F', Nat.le_refl _, rfl, rfl, P5.out⟩)
    clear P5
    go_wp2_with fail
    go_loopw [5] (fun v wr => ShJ w B0 ba h B g4 cap4 n P d g2 (.slice a n cp) ⟨key, 0, P⟩ F' p v wr) (fun v _ => (intOf v).toNat)
    case atStart => exact ST.out
    case round =>
      clear ST
      obtain ⟨m, G, hm, rfl, hs, PM⟩ := hrel
      have HS := Lib.hid hs
      have M := Lib.hid PM
      have lg := (PM.row.1.lt g4 rfl).2
      have lh := lt_of_heap PM.blk
      have lq := PM.box.lt
      have it := PM.row.items (ba := ba) (by have := PM.lt0; have := PM.lt; have := PM.le; omega)
      clear hs PM
      by_cases hpm : p < m
      · have t1 : decide ((p : Int) < (m : Int)) = true := decide_eq_true (by omega)
        have t1n : decide (p < m) = true := decide_eq_true hpm
        have hm0 : 0 < m := by omega
        have AB := Lib.hid (fun W : World => above_pos m hm0 (by omega) W)
        have alt := abv_lt hm0
        have ALT := Lib.hid alt
        have GO := Lib.hid (HS.out.trans (shiftI_go hpm))
        have MP := Lib.hid (M.out.put m (by omega) (G (abv m)))
        have e0 := it.k0 (abv m) (by omega)
        have e1 := it.k1 (abv m) (by omega)
        have d0 := it.k0 m (by omega)
        have d1 := it.k1 m (by omega)
        have f0 := M.out.row.free (m * 2)
        have f1 := M.out.row.free (m * 2 + 1)
        generalize abv m = A at *
        generalize G A = y at *
        have a1 : (A : Int) < (n : Int) + 1 := by omega
        have a2 : (0 : Int) ≤ (A : Int) := by omega
        have a3 : (m : Int) < (n : Int) + 1 := by omega
        have a4 : (0 : Int) ≤ (m : Int) := by omega
        clear it t1n alt
        go_wp2_with (go_at_call 20; refine (AB.out _).mono ?_; rintro e w6 ⟨rfl, rfl⟩)
        exact ⟨⟨A, _, by have := ALT.out; omega, rfl, GO.out, MP.out⟩, by have := ALT.out; show (A : Int).toNat < (m : Int).toNat; omega⟩
      · have t1 : decide ((p : Int) < (m : Int)) = false := decide_eq_false (by omega)
        have t1n : decide (p < m) = false := decide_eq_false hpm
        have GO := Lib.hid (show upI G p ⟨key, 0, P⟩ = pushJ F n ⟨key, 0, P⟩ by rw [HPU.out, HS.out, shiftI_stop hpm])
        have MP := Lib.hid (M.out.put p (by omega) ⟨key, 0, P⟩)
        rw [GO.out] at MP
        have d0 := it.k0 p (by omega)
        have d1 := it.k1 p (by omega)
        have f0 := M.out.row.free (p * 2)
        have f1 := M.out.row.free (p * 2 + 1)
        have q0 := M.out.box.cell 0 _ rfl
        have q1 := M.out.box.cell 1 _ rfl
        have a3 : (p : Int) < (n : Int) + 1 := by omega
        have a4 : (0 : Int) ≤ (p : Int) := by omega
        clear it
        go_upto_region 9 with fail
        clear d0 d1 f0 f1 q0 q1 lg lq a3 a4
        change Hid (PuA w B0 ba h B g4 cap4 n P d g2 (.slice a n cp) ⟨key, 0, P⟩ _ ((wr.setCell ⟨g4, p * 2, none⟩ (.int .i64 key)).setCell ⟨g4, p * 2 + 1, none⟩ (.int .u64 (P : Int)))) at MP
        generalize (wr.setCell ⟨g4, p * 2, none⟩ (.int .i64 key)).setCell ⟨g4, p * 2 + 1, none⟩ (.int .u64 (P : Int)) = x7 at MP ⊢
        have c1 := MP.out.cell 1 _ rfl
        have c2 := MP.out.cell 2 _ rfl
        have f1 := MP.out.free 1
        have f2 := MP.out.free 2
        have lh7 := lt_of_heap MP.out.blk
        go_wp2_with fail
        go_end0
        exact ⟨rfl, MP.out.done⟩
end Go.Proofs.Ytiegpjlobpmacaa
