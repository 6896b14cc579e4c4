/- The heap: NewHeap, Len, Peek, Pop. -/
import Derived.Test.YtiegpjlobpmacaaPu
import Derived.ChangeAlike
import Derived.RegionTactic
namespace Go.Proofs.Ytiegpjlobpmacaa
open Go.RowKit
set_option maxRecDepth 100000
theorem len_ok {w : World} {B h n P : Nat} {v : Value} {F : Nat → It} (H : HeapAt w B h v F n P) : Calls Try.prog 11 #[.pointer (some ⟨h, 0, none⟩)] w (Same w (.int .i64 (n : Int))) := by
  obtain ⟨a, cp, rfl⟩ := H.row.slice
  have c1 := H.cell 1 _ rfl
  have lh := lt_of_heap H.blk
  clear H
  go_enter Try.func11, Try.ntmps11
  go_wp2_with fail
  go_ret
  exact ⟨rfl, rfl⟩
/-- Pop, under way. -/
structure PoAt (w : World) (B h g cap N P g0 g2 : Nat) (x : It) (G : Nat → It) (wr : World) : Prop where
  lt : h < B
  le : B ≤ g
  ne : g ≠ g2
  ge : B ≤ g2
  ge0 : w.heap.size ≤ g0
  n0 : g0 ≠ g2
  n1 : g0 ≠ g
  hw : B ≤ w.heap.size
  blk : wr.heap[h]? = some (.cells #[.func (.func 6) #[] #[], .slice (some ⟨g, 0, none⟩) (N + 1) cap, .int .u64 (P : Int)] 48 (0, 0))
  row : IRow wr B (.slice (some ⟨g, 0, none⟩) (N + 1) cap) G (N + 1)
  box : CellsAt wr g2 [.int .i64 x.key, .int .i64 x.who, .int .u64 (x.num : Int)]
  ty : ∃ cs, wr.heap[g2]? = some (.cells cs 50 (0, 0))
  res : CellsAt wr g0 [.int .i64 0, .int .i64 0]
  bel : Below h w wr
  keep : KeepT w wr
theorem PoAt.below {w wr w' : World} {B h g cap N P g0 g2 : Nat} {x : It} {G : Nat → It} (H : PoAt w B h g cap N P g0 g2 x G wr) (k : Below wr.heap.size wr w') : PoAt w B h g cap N P g0 g2 x G w' :=
  ⟨H.lt, H.le, H.ne, H.ge, H.ge0, H.n0, H.n1, H.hw, (k.block h (lt_of_heap H.blk)).trans H.blk, H.row.below k, H.box.step k, (by obtain ⟨cs, hc⟩ := H.ty; exact ⟨cs, (k.block g2 (lt_of_heap hc)).trans hc⟩), H.res.step k, H.bel.trans (k.mono (Nat.le_of_lt (lt_of_heap H.blk))), H.keep.trans (KeepT.below k)⟩
theorem PoAt.cell {w wr : World} {B h g cap N P g0 g2 : Nat} {x : It} {G : Nat → It} (H : PoAt w B h g cap N P g0 g2 x G wr) (j : Nat) (u : Value) (hu : (#[.func (.func 6) #[] #[], .slice (some ⟨g, 0, none⟩) (N + 1) cap, .int .u64 (P : Int)] : Array Value)[j]? = some u) : wr.cell? ⟨h, j, none⟩ = some u := by
  rw [cell_of_row wr h j _ 48 (0, 0) H.blk]; exact hu
theorem PoAt.free {w wr : World} {B h g cap N P g0 g2 : Nat} {x : It} {G : Nat → It} (H : PoAt w B h g cap N P g0 g2 x G wr) (j : Nat) : wr.frozen? ⟨h, j, none⟩ = false := frozen_of_row wr h j _ 48 H.blk
theorem PoAt.put {w wr : World} {B h g cap N P g0 g2 : Nat} {x : It} {G : Nat → It} (H : PoAt w B h g cap N P g0 g2 x G wr) (i : Nat) (hi : i < N + 1) (y : It) :
    PoAt w B h g cap N P g0 g2 x (upI G i y) (((wr.setCell ⟨g, i * 3, none⟩ (.int .i64 y.key)).setCell ⟨g, i * 3 + 1, none⟩ (.int .i64 y.who)).setCell ⟨g, i * 3 + 2, none⟩ (.int .u64 (y.num : Int))) := by
  have hp := H.row.put i hi y
  have gr := H.row.grown hp.2
  refine ⟨H.lt, H.le, H.ne, H.ge, H.ge0, H.n0, H.n1, H.hw, gr.2 h 48 _ (by decide) H.blk, hp.1, ((H.box.other H.ne _ _).other H.ne _ _).other H.ne _ _, ?_, ((H.res.other H.n1.symm _ _).other H.n1.symm _ _).other H.n1.symm _ _, H.bel.trans (gr.1.mono (Nat.le_of_lt H.lt)), H.keep.trans fun b t cs ht _ x => gr.2 b t cs ht x⟩
  obtain ⟨cs, hc⟩ := H.ty
  exact ⟨cs, (hp.2.block g2 (lt_of_heap hc) (fun e => H.ne (Option.some.inj e).symm)).trans hc⟩
theorem keepSet {w w' : World} {b : Nat} {cs : Array Value} {t : TypeId} (h : w'.heap[b]? = some (.cells cs t (0, 0))) (ht : t = 50 ∨ t = 48 ∨ w.heap.size ≤ b) (k : KeepT w w') (j : Nat) (x : Value) : KeepT w (w'.setCell ⟨b, j, none⟩ x) := by
  intro c u ds h1 h2 hx
  have hk := k c u ds h1 h2 hx
  have hne : c ≠ b := by
    rintro rfl
    rcases ht with rfl | rfl | hl
    · rw [h] at hk; injection hk with hk; injection hk with _ y; exact h1 y.symm
    · rw [h] at hk; injection hk with hk; injection hk with _ y; exact h2 y.symm
    · have := lt_of_heap hx; omega
  rw [heap_setCell_other _ ⟨b, j, none⟩ c _ hne]
  exact hk
theorem IRow.other {w : World} {B b : Nat} {v : Value} {F : Nat → It} {n : Nat} (h : IRow w B v F n) (hb : v.ownBlock ≠ some b) (j : Nat) (x : Value) : IRow (w.setCell ⟨b, j, none⟩ x) B v F n :=
  ⟨ownsRow_setCell_other (a := ⟨b, j, none⟩) h.1 hb x, by simpa using h.2⟩
/-- The thing that is carried is another one. -/
theorem PoAt.take {w wr : World} {B h g cap N P g0 g2 : Nat} {x : It} {G : Nat → It} (H : PoAt w B h g cap N P g0 g2 x G wr) (y : It) :
    PoAt w B h g cap N P g0 g2 y G (((wr.setCell ⟨g2, 0, none⟩ (.int .i64 y.key)).setCell ⟨g2, 1, none⟩ (.int .i64 y.who)).setCell ⟨g2, 2, none⟩ (.int .u64 (y.num : Int))) := by
  have hge := H.ge
  have hlt := H.lt
  have hh : h ≠ g2 := by omega
  have hg : (Value.slice (some ⟨g, 0, none⟩) (N + 1) cap).ownBlock ≠ some g2 := fun e => H.ne (by simpa [Value.ownBlock] using e)
  obtain ⟨cs, hc⟩ := H.ty
  have hc1 := heap_setCell_same wr g2 0 cs 50 (.int .i64 y.key) hc
  have hc2 := heap_setCell_same _ g2 1 _ 50 (.int .i64 y.who) hc1
  refine ⟨H.lt, H.le, H.ne, H.ge, H.ge0, H.n0, H.n1, H.hw, ?_, ((H.row.other hg _ _).other hg _ _).other hg _ _, ?_, ⟨_, heap_setCell_same _ g2 2 _ 50 _ hc2⟩, ((H.res.other H.n0.symm _ _).other H.n0.symm _ _).other H.n0.symm _ _, ?_, ?_⟩
  · rw [heap_setCell_other _ ⟨g2, 2, none⟩ h _ hh, heap_setCell_other _ ⟨g2, 1, none⟩ h _ hh, heap_setCell_other _ ⟨g2, 0, none⟩ h _ hh]; exact H.blk
  · exact ((H.box.set 0 _ (by simp)).set 1 _ (by simp)).set 2 _ (by simp)
  · exact ((H.bel.setCell (p := ⟨g2, 0, none⟩) (show h ≤ g2 by omega) _).setCell (p := ⟨g2, 1, none⟩) (show h ≤ g2 by omega) _).setCell (p := ⟨g2, 2, none⟩) (show h ≤ g2 by omega) _
  · exact keepSet hc2 (.inl rfl) (keepSet hc1 (.inl rfl) (keepSet hc (.inl rfl) H.keep _ _) _ _) _ _
theorem PoAt.done {w wr : World} {B h g cap N P g0 g2 : Nat} {x : It} {G : Nat → It} (H : PoAt w B h g cap N P g0 g2 x G wr) (a b : Value) :
    (∃ v, HeapAt (((wr.setCell ⟨h, 1, none⟩ (.slice (some ⟨g, 0, none⟩) N cap)).setCell ⟨g0, 0, none⟩ a).setCell ⟨g0, 1, none⟩ b) B h v G N P) ∧
    Below h w (((wr.setCell ⟨h, 1, none⟩ (.slice (some ⟨g, 0, none⟩) N cap)).setCell ⟨g0, 0, none⟩ a).setCell ⟨g0, 1, none⟩ b) ∧
    KeepT w (((wr.setCell ⟨h, 1, none⟩ (.slice (some ⟨g, 0, none⟩) N cap)).setCell ⟨g0, 0, none⟩ a).setCell ⟨g0, 1, none⟩ b) := by
  have hb : h < B := H.lt
  have hw := H.hw
  have hg0 := H.ge0
  have hne : h ≠ g0 := by omega
  have r1 : IRow wr B (.slice (some ⟨g, 0, none⟩) N cap) G N := ⟨ownsRow_pop (itV_len G N) H.row.1, H.row.2⟩
  have hg : (Value.slice (some ⟨g, 0, none⟩) N cap).ownBlock ≠ some g0 := fun e => H.n1 (by simpa [Value.ownBlock] using e.symm)
  have r2 : IRow (wr.setCell ⟨h, 1, none⟩ (.slice (some ⟨g, 0, none⟩) N cap)) B (.slice (some ⟨g, 0, none⟩) N cap) G N := ⟨ownsRow_setCell_below r1.1 hb _, by simpa using r1.2⟩
  refine ⟨⟨_, H.lt, ?_, (r2.other hg _ _).other hg _ _⟩, ?_, ?_⟩
  · rw [heap_setCell_other _ ⟨g0, 1, none⟩ h _ hne, heap_setCell_other _ ⟨g0, 0, none⟩ h _ hne]
    exact cells48 1 (.slice (some ⟨g, 0, none⟩) N cap) H.blk
  · exact ((H.bel.setCell (p := ⟨h, 1, none⟩) (Nat.le_refl _) _).setCell (p := ⟨g0, 0, none⟩) (show h ≤ g0 by omega) _).setCell (p := ⟨g0, 1, none⟩) (show h ≤ g0 by omega) _
  · intro c u ds h1 h2 hx
    have hk := keepSet H.blk (.inr (.inl rfl)) H.keep 1 (.slice (some ⟨g, 0, none⟩) N cap) c u ds h1 h2 hx
    have hc := lt_of_heap hx
    rw [heap_setCell_other _ ⟨g0, 1, none⟩ c _ (show c ≠ g0 by omega), heap_setCell_other _ ⟨g0, 0, none⟩ c _ (show c ≠ g0 by omega)]
    exact hk
theorem HeapAt.congr {w : World} {B h : Nat} {v : Value} {F G : Nat → It} {n P : Nat} (H : HeapAt w B h v F n P) (e : ∀ i, i < n → F i = G i) : HeapAt w B h v G n P := ⟨H.lt, H.blk, H.row.congr e⟩
def PopR (w : World) (B h : Nat) (x : It) (G : Nat → It) (N P : Nat) (e : Ending) (w' : World) : Prop := e = .returned (.tuple #[.agg #[.int .i64 x.key, .int .i64 x.who], .bool true]) ∧ (∃ v, HeapAt w' B h v G N P) ∧ Below h w w' ∧ KeepT w w'
theorem zero_it : (⟨0, 0, 0⟩ : It).num = 0 := rfl
def PcR (w : World) (B h g cap N P g0 g2 : Nat) (R : (Nat → It) × It) (v : Value) (wr : World) : Prop :=
  (∃ q G x, q ≤ N ∧ v = .int .i64 (q : Int) ∧ carryI G 0 q x = R ∧ PoAt w B h g cap N P g0 g2 x G wr) ∨ (v = .int .i64 (-1) ∧ PoAt w B h g cap N P g0 g2 R.2 R.1 wr)
end Go.Proofs.Ytiegpjlobpmacaa
