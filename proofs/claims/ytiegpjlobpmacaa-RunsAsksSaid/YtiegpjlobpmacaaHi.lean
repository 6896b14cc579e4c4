/- The heap: its row of items in memory. -/
import Derived.Test.YtiegpjlobpmacaaHs
import Derived.WalkSmall
namespace Go.Proofs.Ytiegpjlobpmacaa
open Go.RowKit
set_option maxRecDepth 100000

def itc (x : It) : List Value := [.int .i64 x.key, .int .i64 x.who, .int .u64 (x.num : Int)]
def itV (F : Nat → It) : Nat → List Value
  | 0 => []
  | n + 1 => itV F n ++ itc (F n)
theorem itV_len (F : Nat → It) : ∀ n, (itV F n).length = n * 3
  | 0 => rfl
  | n + 1 => by rw [itV, List.length_append, itV_len F n]; show n * 3 + 3 = _; omega
theorem itV_congr {F G : Nat → It} : ∀ n, (∀ i, i < n → F i = G i) → itV F n = itV G n
  | 0, _ => rfl
  | n + 1, h => by rw [itV, itV, itV_congr n fun i hi => h i (by omega), h n (by omega)]
theorem itV_at (F : Nat → It) (j : Nat) (hj : j < 3) : ∀ n i, i < n → (itV F n)[i * 3 + j]? = (itc (F i))[j]?
  | 0, _, h => by omega
  | n + 1, i, h => by
    rw [itV]
    by_cases e : i = n
    · subst e
      rw [List.getElem?_append_right (by rw [itV_len]; omega), itV_len]
      congr 1; omega
    · rw [List.getElem?_append_left (by rw [itV_len]; omega)]
      exact itV_at F j hj n i (by omega)
theorem itV_set (F : Nat → It) (x : It) : ∀ n i, i < n → (((itV F n).set (i * 3) (.int .i64 x.key)).set (i * 3 + 1) (.int .i64 x.who)).set (i * 3 + 2) (.int .u64 (x.num : Int)) = itV (upI F i x) n
  | 0, _, h => by omega
  | n + 1, i, h => by
    rw [itV, itV]
    by_cases e : i = n
    · subst e
      rw [upI_same, itV_congr (F := upI F i x) (G := F) i fun k hk => upI_other _ _ _ _ (by omega)]
      rw [List.set_append_right _ _ (by rw [itV_len]; omega), List.set_append_right _ _ (by rw [itV_len]; omega), List.set_append_right _ _ (by rw [itV_len]; omega), itV_len]
      rw [show i * 3 - i * 3 = 0 by omega, show i * 3 + 1 - i * 3 = 1 by omega, show i * 3 + 2 - i * 3 = 2 by omega]
      rfl
    · rw [upI_other _ _ _ _ (fun e' => e e'.symm)]
      rw [List.set_append_left _ _ (by rw [itV_len]; omega), List.set_append_left _ _ (by simp [itV_len]; omega), List.set_append_left _ _ (by simp [itV_len]; omega)]
      rw [itV_set F x n i (by omega)]
theorem itV_one (F : Nat → It) (n : Nat) : ∀ u ∈ itc (F n), u.oneCell' = true := by
  intro u hu
  unfold itc at hu
  simp only [List.mem_cons, List.mem_nil_iff, or_false] at hu
  rcases hu with rfl | rfl | rfl <;> rfl
theorem info50 : (Try.prog.info? 50).map (fun i => (i.zero, i.size, i.bytes)) = some (some (.agg #[.int .i64 0, .int .i64 0, .int .u64 0]), 3, 24) := by kernel_rfl

/-- A row of items of the call's own. -/
def IRow (w : World) (B : Nat) (v : Value) (F : Nat → It) (n : Nat) : Prop := w.ownsRow B 50 3 v n (itV F n) ∧ B ≤ w.heap.size
theorem IRow.congr {w : World} {B : Nat} {v : Value} {F G : Nat → It} {n : Nat} (h : IRow w B v F n) (e : ∀ i, i < n → F i = G i) : IRow w B v G n := by
  unfold IRow at *; rw [← itV_congr n e]; exact h
theorem IRow.below {w w' : World} {B : Nat} {v : Value} {F : Nat → It} {n : Nat} (h : IRow w B v F n) (k : Below w.heap.size w w') : IRow w' B v F n := by
  refine ⟨⟨h.1.1, ?_⟩, Nat.le_trans h.2 k.size⟩
  rcases h.1.2 with hn | ⟨g, cap, cur, hv, hb, hgg, rest⟩
  · exact .inl hn
  · exact .inr ⟨g, cap, cur, hv, hb, (k.block g (lt_of_heap hgg)).trans hgg, rest⟩
theorem IRow.form {w : World} {B : Nat} {v : Value} {F : Nat → It} {n : Nat} (h : IRow w B v F n) (hn : 0 < n) : ∃ g cap, v = .slice (some ⟨g, 0, none⟩) n cap ∧ B ≤ g ∧ g < w.heap.size := by
  rcases h.1.2 with ⟨_, h0⟩ | ⟨g, cap, cur, hv, hb, hgg, rest⟩
  · omega
  · exact ⟨g, cap, hv, hb, lt_of_heap hgg⟩
theorem IRow.items {w : World} {B g cap : Nat} {F : Nat → It} {n : Nat} (h : IRow w B (.slice (some ⟨g, 0, none⟩) n cap) F n) : ItemsAt w g F n := by
  refine ⟨(h.1.lt g rfl).2, fun i hi => ?_, fun i hi => ?_, fun i hi => ?_⟩
  · have := h.1.cellAt (i * 3) (by omega)
    rw [this, show i * 3 = i * 3 + 0 by omega, itV_at F 0 (by omega) n i hi]; rfl
  · have := h.1.cellAt (i * 3 + 1) (by omega)
    rw [this, itV_at F 1 (by omega) n i hi]; rfl
  · have := h.1.cellAt (i * 3 + 2) (by omega)
    rw [this, itV_at F 2 (by omega) n i hi]; rfl
theorem IRow.free {w : World} {B g cap : Nat} {F : Nat → It} {n : Nat} (h : IRow w B (.slice (some ⟨g, 0, none⟩) n cap) F n) (j : Nat) : w.frozen? ⟨g, j, none⟩ = false := h.1.frozenAt j
/-- All whole blocks are kept but those of heaps and items. -/
def KeepT (w w' : World) : Prop := ∀ (g : Nat) (t : TypeId) (cs : Array Value), t ≠ 50 → t ≠ 48 → w.heap[g]? = some (.cells cs t (0, 0)) → w'.heap[g]? = some (.cells cs t (0, 0))
theorem KeepT.refl (w : World) : KeepT w w := fun _ _ _ _ _ h => h
theorem KeepT.trans {a b c : World} (h : KeepT a b) (k : KeepT b c) : KeepT a c := fun g t cs ht hu x => k g t cs ht hu (h g t cs ht hu x)
theorem KeepT.below {w w' : World} (h : Below w.heap.size w w') : KeepT w w' := fun g _ _ _ _ x => (h.block g (lt_of_heap x)).trans x
theorem IRow.grown {w w' : World} {B : Nat} {v : Value} {F : Nat → It} {n : Nat} (h : IRow w B v F n) (g : w.grownBy w' v.ownBlock) : Below B w w' ∧ ∀ (b : Nat) (t : TypeId) (cs : Array Value), t ≠ 50 → w.heap[b]? = some (.cells cs t (0, 0)) → w'.heap[b]? = some (.cells cs t (0, 0)) := by
  refine ⟨(Below.refl B w).grown g h.2 (fun k hk => (h.1.lt k hk).1), fun k t cs ht x => ?_⟩
  refine (g.block k (lt_of_heap x) ?_).trans x
  intro e
  rcases h.1.2 with ⟨hv, _⟩ | ⟨g', cap, cur, hv, _, hgg, _⟩
  · rw [hv] at e; simp [Value.ownBlock] at e
  · rw [hv] at e
    have : k = g' := by simpa [Value.ownBlock] using e
    subst this
    rw [hgg] at x
    injection x with x
    injection x with _ y
    exact ht y.symm
/-- One item is written. -/
theorem IRow.put {w : World} {B g cap : Nat} {F : Nat → It} {n : Nat} (h : IRow w B (.slice (some ⟨g, 0, none⟩) n cap) F n) (i : Nat) (hi : i < n) (x : It) :
    IRow (((w.setCell ⟨g, i * 3, none⟩ (.int .i64 x.key)).setCell ⟨g, i * 3 + 1, none⟩ (.int .i64 x.who)).setCell ⟨g, i * 3 + 2, none⟩ (.int .u64 (x.num : Int))) B (.slice (some ⟨g, 0, none⟩) n cap) (upI F i x) n ∧
    w.grownBy (((w.setCell ⟨g, i * 3, none⟩ (.int .i64 x.key)).setCell ⟨g, i * 3 + 1, none⟩ (.int .i64 x.who)).setCell ⟨g, i * 3 + 2, none⟩ (.int .u64 (x.num : Int))) (some g) := by
  have s1 := h.1.stored (i * 3) (.int .i64 x.key)
  have s2 := s1.1.stored (i * 3 + 1) (.int .i64 x.who)
  have s3 := s2.1.stored (i * 3 + 2) (.int .u64 (x.num : Int))
  rw [itV_set F x n i hi] at s3
  exact ⟨⟨s3.1, by simpa using h.2⟩, (s1.2.trans s2.2).trans s3.2⟩
/-- A heap in memory: whose function is the statement's own. -/
structure HeapAt (w : World) (B h : Nat) (v : Value) (F : Nat → It) (n P : Nat) : Prop where
  lt : h < B
  blk : w.heap[h]? = some (.cells #[.func (.func 6) #[] #[], v, .int .u64 (P : Int)] 48 (0, 0))
  row : IRow w B v F n
theorem HeapAt.cell {w : World} {B h : Nat} {v : Value} {F : Nat → It} {n P : Nat} (H : HeapAt w B h v F n P) (j : Nat) (u : Value) (hu : (#[.func (.func 6) #[] #[], v, .int .u64 (P : Int)] : Array Value)[j]? = some u) : w.cell? ⟨h, j, none⟩ = some u := by
  rw [cell_of_row w h j _ 48 (0, 0) H.blk]; exact hu
theorem HeapAt.free {w : World} {B h : Nat} {v : Value} {F : Nat → It} {n P : Nat} (H : HeapAt w B h v F n P) (j : Nat) : w.frozen? ⟨h, j, none⟩ = false := frozen_of_row w h j _ 48 H.blk
theorem HeapAt.less {w : World} {B h : Nat} {v : Value} {F : Nat → It} {n P : Nat} (H : HeapAt w B h v F n P) : LessAt w h := ⟨lt_of_heap H.blk, H.cell 0 _ rfl⟩
theorem HeapAt.below {w w' : World} {B h : Nat} {v : Value} {F : Nat → It} {n P : Nat} (H : HeapAt w B h v F n P) (k : Below w.heap.size w w') : HeapAt w' B h v F n P := ⟨H.lt, (k.block h (lt_of_heap H.blk)).trans H.blk, H.row.below k⟩
end Go.Proofs.Ytiegpjlobpmacaa
