/- RunsHeap: the list of what is there, in memory. -/
import Derived.Test.YtiegpjlobpmacaaLh
namespace Go.Proofs.Ytiegpjlobpmacaa
open Go.RowKit
set_option maxRecDepth 100000
def thC (x : It) : List Value := [.int .i64 x.key, .int .i64 x.who]
def thV (T : List It) : List Value := T.flatMap thC
theorem thV_len (T : List It) : (thV T).length = T.length * 2 := by
  unfold thV
  induction T with
  | nil => rfl
  | cons k r ih => rw [List.flatMap_cons, List.length_append, ih, List.length_cons]; show 2 + _ = _; omega
theorem thV_app (a b : List It) : thV (a ++ b) = thV a ++ thV b := by unfold thV; simp
theorem thV_at : ∀ (T : List It) (i j : Nat), j < 2 → (hi : i < T.length) → (thV T)[i * 2 + j]? = (thC T[i])[j]?
  | [], i, _, _, hi => by simp at hi
  | x :: r, 0, j, hj, hi => by
    show (thC x ++ thV r)[0 * 2 + j]? = _
    rw [List.getElem?_append_left (by show 0 * 2 + j < 2; omega)]
    simp
  | x :: r, i + 1, j, hj, hi => by
    show (thC x ++ thV r)[(i + 1) * 2 + j]? = _
    rw [List.getElem?_append_right (by show 2 ≤ (i + 1) * 2 + j; omega)]
    rw [show (i + 1) * 2 + j - (thC x).length = i * 2 + j by show (i + 1) * 2 + j - 2 = _; omega]
    rw [thV_at r i j hj (by simpa using hi)]
    simp
theorem thV_one (T : List It) : ∀ u ∈ thV T, u.oneCell' = true := by
  intro u hu
  obtain ⟨x, _, hx⟩ := List.mem_flatMap.1 hu
  unfold thC at hx
  simp only [List.mem_cons, List.mem_nil_iff, or_false] at hx
  rcases hx with rfl | rfl <;> rfl
theorem thV_drop (T : List It) (b : Nat) : thV (T.drop b) = (thV T).drop (b * 2) := by
  induction T generalizing b with
  | nil => simp [thV]
  | cons x r ih =>
    cases b with
    | zero => rfl
    | succ b =>
      show thV (r.drop b) = (thC x ++ thV r).drop ((b + 1) * 2)
      rw [ih, show (b + 1) * 2 = (thC x).length + b * 2 by show _ = 2 + _; omega, List.drop_length_add_append]
theorem thV_take (T : List It) (b : Nat) : thV (T.take b) = (thV T).take (b * 2) := by
  induction T generalizing b with
  | nil => simp [thV]
  | cons x r ih =>
    cases b with
    | zero => simp [thV]
    | succ b =>
      show thC x ++ thV (r.take b) = (thC x ++ thV r).take ((b + 1) * 2)
      rw [ih, show (b + 1) * 2 = (thC x).length + b * 2 by show _ = 2 + _; omega, List.take_length_add_append]
theorem info28 : (Try.prog.info? 28).map (fun i => (i.zero, i.size, i.bytes)) = some (some (.agg #[.int .i64 0, .int .i64 0]), 2, 16) := by kernel_rfl
/-- A row of things of the call's own. -/
def TRow (w : World) (B : Nat) (v : Value) (T : List It) : Prop := w.ownsRow B 28 2 v T.length (thV T) ∧ B ≤ w.heap.size
/-- All whole blocks but those of things are kept. -/
def Keep28 (w w' : World) : Prop := ∀ (b : Nat) (t : TypeId) (cs : Array Value), t ≠ 28 → w.heap[b]? = some (.cells cs t (0, 0)) → w'.heap[b]? = some (.cells cs t (0, 0))
theorem TRow.kept {w w' : World} {B : Nat} {v : Value} {T : List It} (h : TRow w B v T) (k : KeepT w w') (hs : w.heap.size ≤ w'.heap.size) : TRow w' B v T := by
  refine ⟨⟨h.1.1, ?_⟩, Nat.le_trans h.2 hs⟩
  rcases h.1.2 with hn | ⟨g, cap, cur, hv, hb, hgg, rest⟩
  · exact .inl hn
  · exact .inr ⟨g, cap, cur, hv, hb, k g 28 cur (by decide) (by decide) hgg, rest⟩
theorem TRow.below {w w' : World} {B : Nat} {v : Value} {T : List It} (h : TRow w B v T) (k : Below w.heap.size w w') : TRow w' B v T := h.kept (KeepT.below k) k.size
theorem TRow.slice {w : World} {B : Nat} {v : Value} {T : List It} (h : TRow w B v T) : ∃ a cp, v = .slice a T.length cp := by
  rcases h.1.2 with ⟨hv, h0⟩ | ⟨g, cap, cur, hv, hb, hgg, rest⟩
  · exact ⟨none, 0, by rw [hv, h0]⟩
  · exact ⟨_, _, hv⟩
theorem TRow.form {w : World} {B : Nat} {v : Value} {T : List It} (h : TRow w B v T) (hn : 0 < T.length) : ∃ g cap, v = .slice (some ⟨g, 0, none⟩) T.length cap ∧ B ≤ g ∧ g < w.heap.size ∧ T.length ≤ cap := by
  rcases h.1.2 with ⟨_, h0⟩ | ⟨g, cap, cur, hv, hb, hgg, hc, rest⟩
  · omega
  · exact ⟨g, cap, hv, hb, lt_of_heap hgg, hc⟩
theorem TRow.key {w : World} {B g cap n : Nat} {T : List It} (h : TRow w B (.slice (some ⟨g, 0, none⟩) n cap) T) (hn : n = T.length) (i : Nat) (hi : i < T.length) : w.cell? ⟨g, i * 2, none⟩ = some (.int .i64 (T[i]).key) := by
  subst hn
  have := h.1.cellAt (i * 2) (by omega)
  rw [this, show i * 2 = i * 2 + 0 by omega, thV_at T i 0 (by omega) hi]; rfl
theorem TRow.who {w : World} {B g cap n : Nat} {T : List It} (h : TRow w B (.slice (some ⟨g, 0, none⟩) n cap) T) (hn : n = T.length) (i : Nat) (hi : i < T.length) : w.cell? ⟨g, i * 2 + 1, none⟩ = some (.int .i64 (T[i]).who) := by
  subst hn
  have := h.1.cellAt (i * 2 + 1) (by omega)
  rw [this, thV_at T i 1 (by omega) hi]; rfl
theorem TRow.grown {w w' : World} {B : Nat} {v : Value} {T : List It} (h : TRow w B v T) (g : w.grownBy w' v.ownBlock) : Below B w w' ∧ Keep28 w w' := by
  refine ⟨(Below.refl B w).grown g h.2 (fun k hk => (h.1.lt k hk).1), fun k t cs ht x => ?_⟩
  refine (g.block k (lt_of_heap x) ?_).trans x
  intro e
  rcases h.1.2 with ⟨hv, _⟩ | ⟨g', cap, cur, hv, _, hgg, _⟩
  · rw [hv] at e; simp [Value.ownBlock] at e
  · rw [hv] at e
    have : k = g' := by simpa [Value.ownBlock] using e
    subst this
    rw [hgg] at x
    injection x with x
    injection x with _ y
    exact ht y.symm
theorem HeapAt.keep28 {w w' : World} {B h : Nat} {v : Value} {F : Nat → It} {n P : Nat} (H : HeapAt w B h v F n P) (k : Keep28 w w') (hs : w.heap.size ≤ w'.heap.size) : HeapAt w' B h v F n P := by
  refine ⟨H.lt, k h 48 _ (by decide) H.blk, ⟨H.row.1.1, ?_⟩, Nat.le_trans H.row.2 hs⟩
  rcases H.row.1.2 with hn | ⟨g, cap, cur, hv, hb, hgg, rest⟩
  · exact .inl hn
  · exact .inr ⟨g, cap, cur, hv, hb, k g 50 cur (by decide) hgg, rest⟩
/-- Things are appended that stand somewhere. -/
theorem wp_appT {w : World} {ops : Array Oper} {rest : List Oper} {o : Oper} {a : Act} {Q : Exit → Act → World → Prop} (hgd : o.guard = none) (s x : Operand)
    (ho : o.op = .call { callee := .builtin .append, args := #[s, x], argTypes := #[31, 31] })
    (B : Nat) (v : Value) (T : List It) (hs : a.eval s = v) (hown : TRow w B v T) (U : List It) (ad : Addr) (c m : Nat) (hmu : m = U.length)
    (hx : a.eval x = .slice (some ad) m c) (hc : ∀ j u, (thV U)[j]? = some u → w.cell? (ad.add j) = some u) (hlen : T.length + U.length ≤ 1048576)
    (h : ∀ v' w', TRow w' B v' (T ++ U) → Below B w w' → Keep28 w w' → w.heap.size ≤ w'.heap.size → (∀ b, b < w.heap.size → v.ownBlock ≠ some b → w'.heap[b]? = w.heap[b]?) → wpList Try.prog ops Q rest (a.put o.dst v') w') :
    wpList Try.prog ops Q (o :: rest) a w := by
  obtain ⟨i0, hi, hz0, hz1, hz2⟩ := info_parts info28
  subst hmu
  have hB := hown.2
  refine wpList_append_own _ hgd s x 31 ho B 28 i0 (.agg #[.int .i64 0, .int .i64 0]) 2 16 Try.underlying31 hi hz0 hz1 hz2 rfl (by decide) v T.length (thV T) hs hown.1 ad U.length c (thV U) hx (thV_len U) hc (thV_one U) ?_ ?_ hB ?_
  · unfold maxLen; omega
  · omega
  · intro v' w' h1 h2 _
    have hsz := h2.size
    have gr := hown.grown h2
    refine h v' w' ⟨?_, Nat.le_trans hB hsz⟩ gr.1 gr.2 hsz (fun b hb hn => h2.block b hb (fun e => hn e.symm))
    rw [List.length_append, thV_app]; exact h1
end Go.Proofs.Ytiegpjlobpmacaa
