/- The heap: Push. -/
import Derived.Test.YtiegpjlobpmacaaHi
import Derived.Deep.RegionLaw
namespace Go.Proofs.Ytiegpjlobpmacaa
open Go.RowKit
set_option maxRecDepth 100000
def pushI (F : Nat → It) (n : Nat) (one : It) : Nat → It := upI (shiftI (upI F n one) n (riseI (upI F n one) one n)) (riseI (upI F n one) one n) one
def PushR (w : World) (B h : Nat) (F : Nat → It) (n P : Nat) (e : Ending) (w' : World) : Prop := e = .returned (.tuple #[]) ∧ (∃ v, HeapAt w' B h v F n P) ∧ Below h w w' ∧ KeepT w w'
theorem IRow.slice {w : World} {B : Nat} {v : Value} {F : Nat → It} {n : Nat} (h : IRow w B v F n) : ∃ a cp, v = .slice a n cp := by
  rcases h.1.2 with ⟨hv, h0⟩ | ⟨g, cap, cur, hv, hb, hgg, rest⟩
  · exact ⟨none, 0, by rw [hv, h0]⟩
  · exact ⟨_, _, hv⟩
/-- One item is appended, as a step of a region that draws its order. -/
theorem step_appI {w : World} {ops : Array Oper} {o : Oper} {a : Act} {K : Act → World → Prop} {Q : Exit → Act → World → Prop} {E : Prop} (hgd : o.guard = none) (s x : Operand)
    (ho : o.op = .call { callee := .builtin .append, args := #[s, x], argTypes := #[45, 45] })
    (B : Nat) (v : Value) (F : Nat → It) (n : Nat) (hs : a.eval s = v) (hown : IRow w B v F n) (y : It) (g : Nat) (hx : a.eval x = .slice (some ⟨g, 0, none⟩) 1 1)
    (hg : ∀ j u, (itc y)[j]? = some u → w.cell? ⟨g, j, none⟩ = some u) (hlen : n + 1 ≤ 1048576)
    (h : ∀ g' cap w', IRow w' B (.slice (some ⟨g', 0, none⟩) (n + 1) cap) (upI F n y) (n + 1) → Below B w w' → KeepT w w' → (∀ (b : Nat), b < w.heap.size → v.ownBlock ≠ some b → w'.heap[b]? = w.heap[b]?) → (v.ownBlock = some g' ∨ g' = w.heap.size) → K (a.put o.dst (.slice (some ⟨g', 0, none⟩) (n + 1) cap)) w') :
    if Region.wanted o (yielded ops a.tmps) = true then Oper.wp Try.prog o a w K Q else E := by
  obtain ⟨i0, hi, hz0, hz1, hz2⟩ := info_parts info50
  have hB := hown.2
  refine step_append_lies w hgd s x 45 ho B 50 i0 (.agg #[.int .i64 0, .int .i64 0, .int .u64 0]) 3 24 Try.underlying45 hi hz0 hz1 hz2 rfl (by decide) v n (itV F n) hs hown.1 ⟨g, 0, none⟩ 1 1 (itc y) hx rfl ?_ ?_ (by decide) ?_ ?_ hB w.heap.size rfl ?_
  · intro j u hj
    rw [add_plain, Nat.zero_add]
    exact hg j u hj
  · intro u hu
    exact itV_one (fun _ => y) 0 u hu
  · unfold maxLen; omega
  · omega
  · intro g' cap w' h1 h2 hat hlt
    have hsz := h2.size
    have gr := hown.grown h2
    refine h g' cap w' ⟨?_, Nat.le_trans hB hsz⟩ gr.1 (fun b t cs ht _ x => gr.2 b t cs ht x) (fun b hb hn => h2.block b hb (fun e => hn e.symm)) hat
    rw [itV, upI_same, itV_congr (F := upI F n y) (G := F) n fun i hi => upI_other _ _ _ _ (by omega)]
    exact h1
/-- Push, under way. -/
structure PuAt (w : World) (B h g cap n P g2 : Nat) (v0 : Value) (one : It) (G : Nat → It) (wr : World) : Prop where
  lt : h < B
  le : B ≤ g
  ne : g ≠ g2
  ge : B ≤ g2
  blk : wr.heap[h]? = some (.cells #[.func (.func 6) #[] #[], v0, .int .u64 (P : Int)] 48 (0, 0))
  row : IRow wr B (.slice (some ⟨g, 0, none⟩) (n + 1) cap) G (n + 1)
  box : CellsAt wr g2 [.int .i64 one.key, .int .i64 one.who, .int .u64 (one.num : Int)]
  bel : Below h w wr
  keep : KeepT w wr
theorem PuAt.below {w wr w' : World} {B h g cap n P g2 : Nat} {v0 : Value} {one : It} {G : Nat → It} (H : PuAt w B h g cap n P g2 v0 one G wr) (k : Below wr.heap.size wr w') : PuAt w B h g cap n P g2 v0 one G w' :=
  ⟨H.lt, H.le, H.ne, H.ge, (k.block h (lt_of_heap H.blk)).trans H.blk, H.row.below k, H.box.step k, H.bel.trans (k.mono (Nat.le_of_lt (lt_of_heap H.blk))), H.keep.trans (KeepT.below k)⟩
theorem PuAt.cell {w wr : World} {B h g cap n P g2 : Nat} {v0 : Value} {one : It} {G : Nat → It} (H : PuAt w B h g cap n P g2 v0 one G wr) (j : Nat) (u : Value) (hu : (#[.func (.func 6) #[] #[], v0, .int .u64 (P : Int)] : Array Value)[j]? = some u) : wr.cell? ⟨h, j, none⟩ = some u := by
  rw [cell_of_row wr h j _ 48 (0, 0) H.blk]; exact hu
theorem PuAt.free {w wr : World} {B h g cap n P g2 : Nat} {v0 : Value} {one : It} {G : Nat → It} (H : PuAt w B h g cap n P g2 v0 one G wr) (j : Nat) : wr.frozen? ⟨h, j, none⟩ = false := frozen_of_row wr h j _ 48 H.blk
theorem PuAt.put {w wr : World} {B h g cap n P g2 : Nat} {v0 : Value} {one : It} {G : Nat → It} (H : PuAt w B h g cap n P g2 v0 one G wr) (i : Nat) (hi : i < n + 1) (x : It) :
    PuAt w B h g cap n P g2 v0 one (upI G i x) (((wr.setCell ⟨g, i * 3, none⟩ (.int .i64 x.key)).setCell ⟨g, i * 3 + 1, none⟩ (.int .i64 x.who)).setCell ⟨g, i * 3 + 2, none⟩ (.int .u64 (x.num : Int))) := by
  have hp := H.row.put i hi x
  have gr := H.row.grown hp.2
  refine ⟨H.lt, H.le, H.ne, H.ge, gr.2 h 48 _ (by decide) H.blk, hp.1, ((H.box.other H.ne _ _).other H.ne _ _).other H.ne _ _, H.bel.trans (gr.1.mono (Nat.le_of_lt H.lt)), H.keep.trans fun b t cs ht _ x => gr.2 b t cs ht x⟩
theorem cells48 {w : World} {h : Nat} {a b c : Value} (j : Nat) (x : Value) (H : w.heap[h]? = some (.cells #[a, b, c] 48 (0, 0))) : (w.setCell ⟨h, j, none⟩ x).heap[h]? = some (.cells (#[a, b, c].setIfInBounds j x) 48 (0, 0)) := heap_setCell_same w h j _ 48 x H
/-- Push is done. -/
theorem PuAt.done {w wr : World} {B h g cap n P g2 : Nat} {v0 : Value} {one : It} {G : Nat → It} (H : PuAt w B h g cap n P g2 v0 one G wr) :
    (∃ v, HeapAt ((wr.setCell ⟨h, 1, none⟩ (.slice (some ⟨g, 0, none⟩) (n + 1) cap)).setCell ⟨h, 2, none⟩ (.int .u64 ((P : Int) + 1))) B h v G (n + 1) (P + 1)) ∧
    Below h w ((wr.setCell ⟨h, 1, none⟩ (.slice (some ⟨g, 0, none⟩) (n + 1) cap)).setCell ⟨h, 2, none⟩ (.int .u64 ((P : Int) + 1))) ∧
    KeepT w ((wr.setCell ⟨h, 1, none⟩ (.slice (some ⟨g, 0, none⟩) (n + 1) cap)).setCell ⟨h, 2, none⟩ (.int .u64 ((P : Int) + 1))) := by
  have hb : h < B := H.lt
  refine ⟨⟨_, H.lt, ?_, ⟨ownsRow_setCell_below (ownsRow_setCell_below H.row.1 hb _) hb _, by simpa using H.row.2⟩⟩, (H.bel.setCell (p := ⟨h, 1, none⟩) (Nat.le_refl _) _).setCell (p := ⟨h, 2, none⟩) (Nat.le_refl _) _, fun b t cs h1 h2 x => ?_⟩
  · have e1 := cells48 1 (.slice (some ⟨g, 0, none⟩) (n + 1) cap) H.blk
    have e2 := cells48 2 (.int .u64 ((P : Int) + 1)) e1
    exact e2
  · have k := H.keep b t cs h1 h2 x
    have hne : b ≠ h := by
      rintro rfl
      rw [H.blk] at k
      injection k with k
      injection k with _ y
      exact h2 y.symm
    rw [heap_setCell_other _ ⟨h, 2, none⟩ b _ hne, heap_setCell_other _ ⟨h, 1, none⟩ b _ hne]
    exact k
def ShR (w : World) (B h g cap n P g2 : Nat) (v0 : Value) (one : It) (F : Nat → It) (p : Nat) (v : Value) (wr : World) : Prop := ∃ m G, m ≤ n ∧ v = .int .i64 (m : Int) ∧ shiftI F n p = shiftI G m p ∧ PuAt w B h g cap n P g2 v0 one G wr
set_option maxHeartbeats 8000000 in
theorem push_ok {w : World} {B h n P : Nat} {v : Value} {F : Nat → It} (H : HeapAt w B h v F n P) (key who : Int) (hn : n < 1048576) (hP : P < 1048576) :
    Calls Try.prog 8 #[.pointer (some ⟨h, 0, none⟩), .agg #[.int .i64 key, .int .i64 who]] w (PushR w B h (pushI F n ⟨key, who, P⟩) (n + 1) (P + 1)) := by
  have hrun : ∀ w, Sem.run Try.prog (binOp BinOp.eql 29 (Value.func (.func 6) #[] #[]) Value.nilFunc) w = .ok (.bool false) w := fun _ => by kernel_rfl
  obtain ⟨a, cp, rfl⟩ := H.row.slice
  have HH := Lib.hid H
  have c0 := H.cell 0 _ rfl
  have c1 := H.cell 1 _ rfl
  have c2 := H.cell 2 _ rfl
  have lh := lt_of_heap H.blk
  clear H
  go_enter Try.func8, Try.ntmps8
  go_upto_region 2 with fail
  have R1 := Lib.hid (CellsAt.new w [.int .i64 key, .int .i64 who] 28)
  have B1 := Lib.hid ((Below.refl w.heap.size w).alloc (Nat.le_refl _) (.cells #[.int .i64 key, .int .i64 who] 28))
  change Hid (CellsAt (w.alloc (.cells #[.int .i64 key, .int .i64 who] 28)) _ _) at R1
  generalize w.alloc (.cells #[.int .i64 key, .int .i64 who] 28) = x1 at R1 B1 ⊢
  have d2 := ((bcell B1.out).1 h 2 lh).trans c2
  have r0 := R1.out.cell 0 _ rfl
  have r1 := R1.out.cell 1 _ rfl
  clear c0 c1 c2
  go_region_held3 (fun w' => w'.cell? ⟨h, 2, none⟩ = some (.int .u64 (P : Int)) ∧ w'.cell? ⟨w.heap.size, 0, none⟩ = some (.int .i64 key) ∧ w'.cell? ⟨w.heap.size, 1, none⟩ = some (.int .i64 who)) (first | go_keep) (fail)
  all_goals
    clear d2 r0 r1
    try clear hHeld
    have H2 := Lib.hid (show HeapAt (x1.alloc (.cells #[.int .i64 key, .int .i64 who, .int .u64 (P : Int)] 50)).drew B h (.slice a n cp) F n P from (HH.out.below B1.out).below (below_alloc x1 _).drew)
    have R2 := Lib.hid (show CellsAt (x1.alloc (.cells #[.int .i64 key, .int .i64 who, .int .u64 (P : Int)] 50)).drew x1.heap.size [.int .i64 key, .int .i64 who, .int .u64 (P : Int)] from
      have c := CellsAt.new x1 [.int .i64 key, .int .i64 who, .int .u64 (P : Int)] 50
      ⟨c.lt, c.cell, c.free⟩)
    have B2 := Lib.hid (show Below w.heap.size w (x1.alloc (.cells #[.int .i64 key, .int .i64 who, .int .u64 (P : Int)] 50)).drew from (B1.out.alloc B1.out.size _).drew)
    generalize (x1.alloc (.cells #[.int .i64 key, .int .i64 who, .int .u64 (P : Int)] 50)).drew = x2 at H2 R2 B2 ⊢
    have HG2 := Lib.hid B1.out.size
    generalize x1.heap.size = g2 at R2 HG2 ⊢
    have c1 := H2.out.cell 1 _ rfl
    have q0 := R2.out.cell 0 _ rfl
    have q1 := R2.out.cell 1 _ rfl
    have q2 := R2.out.cell 2 _ rfl
    have lq := R2.out.lt
    go_upto_region 4 with fail
    have H3a := Lib.hid (H2.out.below (below_alloc x2 (.cells #[.int .i64 key, .int .i64 who, .int .u64 (P : Int)] 50)))
    have H3 := Lib.hid (H3a.out.below (Below.refl _ _).drew)
    have c3 := H3a.out.cell 1 _ rfl
    have C3 := Lib.hid (show ∀ j u, (itc ⟨key, who, P⟩)[j]? = some u → (x2.alloc (.cells #[.int .i64 key, .int .i64 who, .int .u64 (P : Int)] 50)).drew.cell? ⟨x2.heap.size, j, none⟩ = some u from (CellsAt.new x2 [.int .i64 key, .int .i64 who, .int .u64 (P : Int)] 50).cell)
    go_region_law (refine step_appI (by rfl) _ _ (by rfl) B _ F n (by rfl) H3.out.row ⟨key, who, P⟩ x2.heap.size (by rfl) C3.out (by omega) ?_; intro g4 cap4 w4 h41 h42 h43 h44 h45)
    all_goals
      have PU := Lib.hid (show PuAt w B h g4 cap4 n P g2 (.slice a n cp) ⟨key, who, P⟩ (upI F n ⟨key, who, P⟩) w4 from by
        have hx2 : (x2.alloc (.cells #[.int .i64 key, .int .i64 who, .int .u64 (P : Int)] 50)).drew.heap.size = x2.heap.size + 1 := by simp
        have B3 : Below w.heap.size w (x2.alloc (.cells #[.int .i64 key, .int .i64 who, .int .u64 (P : Int)] 50)).drew := (B2.out.alloc B2.out.size _).drew
        have hwB := HH.out.row.2
        have hown := HH.out.row.1.lt
        have hg2 := HG2.out
        have hne : (Value.slice a n cp).ownBlock ≠ some g2 := fun e => by have := (hown g2 e).2; omega
        have e2 := h44 g2 (by rw [hx2]; have := R2.out.lt; omega) hne
        have eh := h44 h (by rw [hx2]; have := lh; have := B2.out.size; omega) (fun e => by have := (hown h e).1; have := HH.out.lt; omega)
        refine ⟨HH.out.lt, ?_, ?_, by omega, eh.trans H3.out.blk, h41, ?_, ?_, (KeepT.below B3).trans h43⟩
        · rcases h45 with e | e
          · exact (hown g4 e).1
          · rw [e, hx2]; have := B2.out.size; omega
        · rcases h45 with e | e
          · intro e'; subst e'; exact hne e
          · rw [e, hx2]; have := R2.out.lt; omega
        · have lt := R2.out.lt
          have R3 := (R2.out.alloc (.cells #[.int .i64 key, .int .i64 who, .int .u64 (P : Int)] 50))
          refine ⟨Nat.lt_of_lt_of_le lt (Nat.le_trans (by rw [hx2]; omega) h42.size), fun j u hu => ?_, fun j => ?_⟩
          · exact (World.cell?_of_block (w := (x2.alloc (.cells #[.int .i64 key, .int .i64 who, .int .u64 (P : Int)] 50)).drew) (a := ⟨g2, j, none⟩) e2).trans (R3.cell j u hu)
          · exact (World.frozen?_of_block (w := (x2.alloc (.cells #[.int .i64 key, .int .i64 who, .int .u64 (P : Int)] 50)).drew) (a := ⟨g2, j, none⟩) e2).trans (R3.free j)
        · exact (B3.mono (Nat.le_of_lt lh)).trans (h42.mono (Nat.le_of_lt HH.out.lt)))
      clear h41 h42 h43 h44 h45 H3 H3a C3 c3 H2 R2 B2 c1 q0 q1 q2 lq
      have q0 := PU.out.box.cell 0 _ rfl
      have q1 := PU.out.box.cell 1 _ rfl
      have q2 := PU.out.box.cell 2 _ rfl
      have lq := PU.out.box.lt
      have it := PU.out.row.items
      have RI := Lib.hid (rise_ok (w := w4) (h := h) (g := g4) (n := n) (c := cap4) (F := upI F n ⟨key, who, P⟩) ⟨key, who, P⟩ ⟨lt_of_heap PU.out.blk, PU.out.cell 0 _ rfl⟩ ⟨it.lt, fun i hi => it.k0 i (by omega), fun i hi => it.k1 i (by omega), fun i hi => it.k2 i (by omega)⟩ (by omega))
      clear it
      go_wp2_with fail
      refine RI.out.mono ?_
      rintro e w5 ⟨rfl, hb5⟩
      have P5 := Lib.hid (PU.out.below hb5)
      have HPU := Lib.hid (show pushI F n ⟨key, who, P⟩ = upI (shiftI (upI F n ⟨key, who, P⟩) n (riseI (upI F n ⟨key, who, P⟩) ⟨key, who, P⟩ n)) (riseI (upI F n ⟨key, who, P⟩) ⟨key, who, P⟩ n) ⟨key, who, P⟩ from rfl)
      have hpn := riseI_le (upI F n ⟨key, who, P⟩) ⟨key, who, P⟩ n
      clear RI hb5 q0 q1 q2 lq PU
      generalize riseI (upI F n ⟨key, who, P⟩) ⟨key, who, P⟩ n = p at *
      generalize upI F n ⟨key, who, P⟩ = F' at *
      have ST := Lib.hid (show ShR w B h g4 cap4 n P g2 (.slice a n cp) ⟨key, who, P⟩ F' p (.int .i64 (n : Int)) w5 from ⟨n, F', Nat.le_refl _, rfl, rfl, P5.out⟩)
      clear P5
      go_wp2_with fail
      go_loopw [5] (fun v wr => ShR w B h g4 cap4 n P g2 (.slice a n cp) ⟨key, who, P⟩ F' p v wr) (fun v _ => (intOf v).toNat)
      case atStart => exact ST.out
      case round =>
        clear ST
        obtain ⟨m, G, hm, rfl, hs, PM⟩ := hrel
        have HS := Lib.hid hs
        have M := Lib.hid PM
        have lg := (PM.row.items).lt
        have lh := lt_of_heap PM.blk
        have lq := PM.box.lt
        clear hs PM
        by_cases hpm : p < m
        · have t1 : decide ((p : Int) < (m : Int)) = true := decide_eq_true (by omega)
          have t1n : decide (p < m) = true := decide_eq_true hpm
          have hm0 : 0 < m := by omega
          have AB := Lib.hid (fun W : World => above_pos m hm0 (by omega) W)
          have alt := abv_lt hm0
          have ALT := Lib.hid alt
          have GO := Lib.hid (HS.out.trans (shiftI_go hpm))
          have MP := Lib.hid (M.out.put m (by omega) (G (abv m)))
          have it := M.out.row.items
          have e0 := it.k0 (abv m) (by omega)
          have e1 := it.k1 (abv m) (by omega)
          have e2 := it.k2 (abv m) (by omega)
          have d0 := it.k0 m (by omega)
          have d1 := it.k1 m (by omega)
          have d2 := it.k2 m (by omega)
          have f0 := M.out.row.free (m * 3)
          have f1 := M.out.row.free (m * 3 + 1)
          have f2 := M.out.row.free (m * 3 + 2)
          generalize abv m = A at *
          generalize G A = y at *
          have a1 : (A : Int) < (n : Int) + 1 := by omega
          have a2 : (0 : Int) ≤ (A : Int) := by omega
          have a3 : (m : Int) < (n : Int) + 1 := by omega
          have a4 : (0 : Int) ≤ (m : Int) := by omega
          clear it t1n alt
          go_wp2_with (go_at_call 20; refine (AB.out _).mono ?_; rintro e w6 ⟨rfl, rfl⟩)
          exact ⟨⟨A, _, by have := ALT.out; omega, rfl, GO.out, MP.out⟩, by have := ALT.out; show (A : Int).toNat < (m : Int).toNat; omega⟩
        · have t1 : decide ((p : Int) < (m : Int)) = false := decide_eq_false (by omega)
          have t1n : decide (p < m) = false := decide_eq_false hpm
          have GO := Lib.hid (show upI G p ⟨key, who, P⟩ = pushI F n ⟨key, who, P⟩ by rw [HPU.out, HS.out, shiftI_stop hpm])
          have MP := Lib.hid (M.out.put p (by omega) ⟨key, who, P⟩)
          rw [GO.out] at MP
          have it := M.out.row.items
          have d0 := it.k0 p (by omega)
          have d1 := it.k1 p (by omega)
          have d2 := it.k2 p (by omega)
          have f0 := M.out.row.free (p * 3)
          have f1 := M.out.row.free (p * 3 + 1)
          have f2 := M.out.row.free (p * 3 + 2)
          have q0 := M.out.box.cell 0 _ rfl
          have q1 := M.out.box.cell 1 _ rfl
          have q2 := M.out.box.cell 2 _ rfl
          have a3 : (p : Int) < (n : Int) + 1 := by omega
          have a4 : (0 : Int) ≤ (p : Int) := by omega
          clear it
          go_upto_region 10 with fail
          clear d0 d1 d2 f0 f1 f2 q0 q1 q2 lg lq a3 a4
          change Hid (PuAt w B h g4 cap4 n P g2 (.slice a n cp) ⟨key, who, P⟩ _ (((wr.setCell ⟨g4, p * 3, none⟩ (.int .i64 key)).setCell ⟨g4, p * 3 + 1, none⟩ (.int .i64 who)).setCell ⟨g4, p * 3 + 2, none⟩ (.int .u64 (P : Int)))) at MP
          generalize ((wr.setCell ⟨g4, p * 3, none⟩ (.int .i64 key)).setCell ⟨g4, p * 3 + 1, none⟩ (.int .i64 who)).setCell ⟨g4, p * 3 + 2, none⟩ (.int .u64 (P : Int)) = x7 at MP ⊢
          have c1 := MP.out.cell 1 _ rfl
          have c2 := MP.out.cell 2 _ rfl
          have f1 := MP.out.free 1
          have f2 := MP.out.free 2
          have lh7 := lt_of_heap MP.out.blk
          go_wp2_with fail
          go_end0
          exact ⟨rfl, MP.out.done⟩
end Go.Proofs.Ytiegpjlobpmacaa
