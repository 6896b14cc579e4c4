/- The heap that is asked: its row of items in memory. -/
import Derived.Test.YtiegpjlobpmacaaQs
import Derived.WalkSmall
namespace Go.Proofs.Ytiegpjlobpmacaa
open Go.RowKit
set_option maxRecDepth 100000

def itd (x : It) : List Value := [.int .i64 x.key, .int .u64 (x.num : Int)]
def itW (F : Nat → It) : Nat → List Value
  | 0 => []
  | n + 1 => itW F n ++ itd (F n)
theorem itW_len (F : Nat → It) : ∀ n, (itW F n).length = n * 2
  | 0 => rfl
  | n + 1 => by rw [itW, List.length_append, itW_len F n]; show n * 2 + 2 = _; omega
theorem itW_congr {F G : Nat → It} : ∀ n, (∀ i, i < n → F i = G i) → itW F n = itW G n
  | 0, _ => rfl
  | n + 1, h => by rw [itW, itW, itW_congr n fun i hi => h i (by omega), h n (by omega)]
theorem itW_at (F : Nat → It) (j : Nat) (hj : j < 2) : ∀ n i, i < n → (itW F n)[i * 2 + j]? = (itd (F i))[j]?
  | 0, _, h => by omega
  | n + 1, i, h => by
    rw [itW]
    by_cases e : i = n
    · subst e
      rw [List.getElem?_append_right (by rw [itW_len]; omega), itW_len]
      congr 1; omega
    · rw [List.getElem?_append_left (by rw [itW_len]; omega)]
      exact itW_at F j hj n i (by omega)
theorem itW_set (F : Nat → It) (x : It) : ∀ n i, i < n → ((itW F n).set (i * 2) (.int .i64 x.key)).set (i * 2 + 1) (.int .u64 (x.num : Int)) = itW (upI F i x) n
  | 0, _, h => by omega
  | n + 1, i, h => by
    rw [itW, itW]
    by_cases e : i = n
    · subst e
      rw [upI_same, itW_congr (F := upI F i x) (G := F) i fun k hk => upI_other _ _ _ _ (by omega)]
      rw [List.set_append_right _ _ (by rw [itW_len]; omega), List.set_append_right _ _ (by rw [itW_len]; omega), itW_len]
      rw [show i * 2 - i * 2 = 0 by omega, show i * 2 + 1 - i * 2 = 1 by omega]
      rfl
    · rw [upI_other _ _ _ _ (fun e' => e e'.symm)]
      rw [List.set_append_left _ _ (by rw [itW_len]; omega), List.set_append_left _ _ (by simp [itW_len]; omega)]
      rw [itW_set F x n i (by omega)]
theorem itW_one (F : Nat → It) (n : Nat) : ∀ u ∈ itd (F n), u.oneCell' = true := by
  intro u hu
  unfold itd at hu
  simp only [List.mem_cons, List.mem_nil_iff, or_false] at hu
  rcases hu with rfl | rfl <;> rfl
theorem info56 : (Try.prog.info? 56).map (fun i => (i.zero, i.size, i.bytes)) = some (some (.agg #[.int .i64 0, .int .u64 0]), 2, 16) := by kernel_rfl

/-- A row of items of the call's own. -/
def IRw (w : World) (B : Nat) (v : Value) (F : Nat → It) (n : Nat) : Prop := w.ownsRow B 56 2 v n (itW F n) ∧ B ≤ w.heap.size
theorem IRw.congr {w : World} {B : Nat} {v : Value} {F G : Nat → It} {n : Nat} (h : IRw w B v F n) (e : ∀ i, i < n → F i = G i) : IRw w B v G n := by
  unfold IRw at *; rw [← itW_congr n e]; exact h
theorem IRw.below {w w' : World} {B : Nat} {v : Value} {F : Nat → It} {n : Nat} (h : IRw w B v F n) (k : Below w.heap.size w w') : IRw w' B v F n := by
  refine ⟨⟨h.1.1, ?_⟩, Nat.le_trans h.2 k.size⟩
  rcases h.1.2 with hn | ⟨g, cap, cur, hv, hb, hgg, rest⟩
  · exact .inl hn
  · exact .inr ⟨g, cap, cur, hv, hb, (k.block g (lt_of_heap hgg)).trans hgg, rest⟩
theorem IRw.form {w : World} {B : Nat} {v : Value} {F : Nat → It} {n : Nat} (h : IRw w B v F n) (hn : 0 < n) : ∃ g cap, v = .slice (some ⟨g, 0, none⟩) n cap ∧ B ≤ g ∧ g < w.heap.size := by
  rcases h.1.2 with ⟨_, h0⟩ | ⟨g, cap, cur, hv, hb, hgg, rest⟩
  · omega
  · exact ⟨g, cap, hv, hb, lt_of_heap hgg⟩
theorem IRw.items {w : World} {B g cap ba : Nat} {F : Nat → It} {n : Nat} (h : IRw w B (.slice (some ⟨g, 0, none⟩) n cap) F n) (hb : g ≠ ba) : Items2 w g ba F n := by
  refine ⟨(h.1.lt g rfl).2, hb, fun i hi => ?_, fun i hi => ?_⟩
  · have := h.1.cellAt (i * 2) (by omega)
    rw [this, show i * 2 = i * 2 + 0 by omega, itW_at F 0 (by omega) n i hi]; rfl
  · have := h.1.cellAt (i * 2 + 1) (by omega)
    rw [this, itW_at F 1 (by omega) n i hi]; rfl
theorem IRw.free {w : World} {B g cap : Nat} {F : Nat → It} {n : Nat} (h : IRw w B (.slice (some ⟨g, 0, none⟩) n cap) F n) (j : Nat) : w.frozen? ⟨g, j, none⟩ = false := h.1.frozenAt j
theorem IRw.slice {w : World} {B : Nat} {v : Value} {F : Nat → It} {n : Nat} (h : IRw w B v F n) : ∃ a cp, v = .slice a n cp := by
  rcases h.1.2 with ⟨hv, h0⟩ | ⟨g, cap, cur, hv, hb, hgg, rest⟩
  · exact ⟨none, 0, by rw [hv, h0]⟩
  · exact ⟨_, _, hv⟩
theorem IRw.cap {w : World} {B g cap : Nat} {F : Nat → It} {n : Nat} (h : IRw w B (.slice (some ⟨g, 0, none⟩) n cap) F n) : n ≤ cap := by
  rcases h.1.2 with ⟨h0, _⟩ | ⟨g', cap', cur, hv, _, _, hc, _⟩
  · cases h0
  · cases hv; exact hc
theorem IRw.ask {w w' : World} {B ba c : Nat} {v : Value} {F : Nat → It} {n : Nat} (h : IRw w B v F n) (k : Ask ba c w w') (hb : ba < B) : IRw w' B v F n := by
  refine ⟨⟨h.1.1, ?_⟩, Nat.le_trans h.2 k.size⟩
  rcases h.1.2 with hn | ⟨g, cap, cur, hv, hg, hgg, rest⟩
  · exact .inl hn
  · exact .inr ⟨g, cap, cur, hv, hg, (k.block g (lt_of_heap hgg) (by omega)).trans hgg, rest⟩
/-- One item is written. -/
theorem IRw.put {w : World} {B g cap : Nat} {F : Nat → It} {n : Nat} (h : IRw w B (.slice (some ⟨g, 0, none⟩) n cap) F n) (i : Nat) (hi : i < n) (x : It) :
    IRw ((w.setCell ⟨g, i * 2, none⟩ (.int .i64 x.key)).setCell ⟨g, i * 2 + 1, none⟩ (.int .u64 (x.num : Int))) B (.slice (some ⟨g, 0, none⟩) n cap) (upI F i x) n ∧
    w.grownBy ((w.setCell ⟨g, i * 2, none⟩ (.int .i64 x.key)).setCell ⟨g, i * 2 + 1, none⟩ (.int .u64 (x.num : Int))) (some g) := by
  have s1 := h.1.stored (i * 2) (.int .i64 x.key)
  have s2 := s1.1.stored (i * 2 + 1) (.int .u64 (x.num : Int))
  rw [itW_set F x n i hi] at s2
  exact ⟨⟨s2.1, by simpa using h.2⟩, s1.2.trans s2.2⟩
theorem grown_low {w w' : World} {B g : Nat} (h : w.grownBy w' (some g)) (hB : B ≤ g) (hs : B ≤ w.heap.size) : Below B w w' :=
  (Below.refl B w).grown h hs (fun k hk => by cases hk; exact hB)
def fnV (ba : Nat) : Value := .func (.func 13) #[] #[.pointer (some ⟨ba, 0, none⟩)]
/-- A heap in memory whose function counts. -/
structure Hp2 (w : World) (ba h B : Nat) (v : Value) (F : Nat → It) (n P c : Nat) : Prop where
  lt0 : ba < h
  lt : h < B
  asks : AskAt w ba c
  blk : w.heap[h]? = some (.cells #[.func (.func 13) #[] #[.pointer (some ⟨ba, 0, none⟩)], v, .int .u64 (P : Int)] 54 (0, 0))
  row : IRw w B v F n
theorem Hp2.cell {w : World} {ba h B : Nat} {v : Value} {F : Nat → It} {n P c : Nat} (H : Hp2 w ba h B v F n P c) (j : Nat) (u : Value) (hu : (#[.func (.func 13) #[] #[.pointer (some ⟨ba, 0, none⟩)], v, .int .u64 (P : Int)] : Array Value)[j]? = some u) : w.cell? ⟨h, j, none⟩ = some u := by
  rw [cell_of_row w h j _ 54 (0, 0) H.blk]; exact hu
theorem Hp2.free {w : World} {ba h B : Nat} {v : Value} {F : Nat → It} {n P c : Nat} (H : Hp2 w ba h B v F n P c) (j : Nat) : w.frozen? ⟨h, j, none⟩ = false := frozen_of_row w h j _ 54 H.blk
theorem Hp2.less {w : World} {ba h B : Nat} {v : Value} {F : Nat → It} {n P c : Nat} (H : Hp2 w ba h B v F n P c) : LesAt w h ba := ⟨lt_of_heap H.blk, by have := H.lt0; omega, H.cell 0 _ rfl⟩
theorem Hp2.ask {w w' : World} {ba h B : Nat} {v : Value} {F : Nat → It} {n P c d : Nat} (H : Hp2 w ba h B v F n P c) (k : Ask ba d w w') : Hp2 w' ba h B v F n P d :=
  ⟨H.lt0, H.lt, k.cell, (k.block h (lt_of_heap H.blk) (by have := H.lt0; omega)).trans H.blk, H.row.ask k (by have := H.lt0; have := H.lt; omega)⟩
theorem Hp2.below {w w' : World} {ba h B : Nat} {v : Value} {F : Nat → It} {n P c : Nat} (H : Hp2 w ba h B v F n P c) (k : Below w.heap.size w w') : Hp2 w' ba h B v F n P c := H.ask (Ask.of H.asks k)
theorem Hp2.congr {w : World} {ba h B : Nat} {v : Value} {F G : Nat → It} {n P c : Nat} (H : Hp2 w ba h B v F n P c) (e : ∀ i, i < n → F i = G i) : Hp2 w ba h B v G n P c := ⟨H.lt0, H.lt, H.asks, H.blk, H.row.congr e⟩
end Go.Proofs.Ytiegpjlobpmacaa
