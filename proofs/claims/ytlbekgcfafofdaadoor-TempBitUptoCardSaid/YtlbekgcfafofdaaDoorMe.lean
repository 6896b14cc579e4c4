/- Whole blocks, numbers and entries in memory. -/
import Derived.Test.YtlbekgcfafofdaaDoorEn
namespace Go.Proofs.YtlbekgcfafofdaaDoor
open Go.RowKit
set_option maxRecDepth 100000
/-- A whole block. -/
def BlkAt (w : World) (p : Nat) (t : TypeId) (vs : List Value) : Prop := w.heap[p]? = some (.cells vs.toArray t (0, 0))
theorem BlkAt.lt {w : World} {p : Nat} {t : TypeId} {vs : List Value} (h : BlkAt w p t vs) : p < w.heap.size := lt_of_heap h
theorem BlkAt.cells {w : World} {p : Nat} {t : TypeId} {vs : List Value} (h : BlkAt w p t vs) : CellsAt w p vs :=
  ⟨lt_of_heap h, fun j v hv => by unfold World.cell?; simp only [BlkAt] at h; rw [h]; simpa using hv, fun j => by unfold World.frozen?; simp only [BlkAt] at h; rw [h]; simp⟩
theorem BlkAt.cell {w : World} {p : Nat} {t : TypeId} {vs : List Value} (h : BlkAt w p t vs) (j : Nat) (v : Value) (hv : vs[j]? = some v) : w.cell? ⟨p, j, none⟩ = some v := h.cells.cell j v hv
theorem BlkAt.free {w : World} {p : Nat} {t : TypeId} {vs : List Value} (h : BlkAt w p t vs) (j : Nat) : w.frozen? ⟨p, j, none⟩ = false := h.cells.free j
theorem BlkAt.new (w : World) (vs : List Value) (t : TypeId) : BlkAt (w.alloc (.cells vs.toArray t)) w.heap.size t vs := by
  unfold BlkAt; exact heap_alloc_new w _
theorem BlkAt.set {w : World} {p : Nat} {t : TypeId} {vs : List Value} (h : BlkAt w p t vs) (j : Nat) (x : Value) : BlkAt (w.setCell ⟨p, j, none⟩ x) p t (vs.set j x) := by
  unfold BlkAt at *
  rw [heap_setCell_same w p j _ t x h]
  simp
theorem BlkAt.other {w : World} {p c : Nat} {t : TypeId} {vs : List Value} (h : BlkAt w p t vs) (hc : c ≠ p) (j : Nat) (x : Value) : BlkAt (w.setCell ⟨c, j, none⟩ x) p t vs := by
  unfold BlkAt at *
  rw [heap_setCell_other w ⟨c, j, none⟩ p x (fun e => hc e.symm)]
  exact h
theorem BlkAt.below {w w' : World} {p : Nat} {t : TypeId} {vs : List Value} (h : BlkAt w p t vs) (k : Below w.heap.size w w') : BlkAt w' p t vs := (k.block p (lt_of_heap h)).trans h
theorem BlkAt.drew {w : World} {p : Nat} {t : TypeId} {vs : List Value} (h : BlkAt w p t vs) : BlkAt w.drew p t vs := h
theorem BlkAt.alloc {w : World} {p : Nat} {t : TypeId} {vs : List Value} (h : BlkAt w p t vs) (o : Obj) : BlkAt (w.alloc o) p t vs := h.below (below_alloc w o)

/-- What may have changed of the old blocks: those of S alone. -/
structure Kp (w w' : World) (S : Nat → Prop) : Prop where
  os : w'.os = w.os
  tape : w'.tape = w.tape
  output : w'.output = w.output
  size : w.heap.size ≤ w'.heap.size
  block : ∀ k, k < w.heap.size → ¬ S k → w'.heap[k]? = w.heap[k]?
theorem Kp.refl (w : World) (S : Nat → Prop) : Kp w w S := ⟨rfl, rfl, rfl, Nat.le_refl _, fun _ _ _ => rfl⟩
theorem Kp.trans {a b c : World} {S T U : Nat → Prop} (h : Kp a b S) (k : Kp b c T) (hS : ∀ x, x < a.heap.size → S x → U x) (hT : ∀ x, x < a.heap.size → T x → U x) : Kp a c U :=
  ⟨k.os.trans h.os, k.tape.trans h.tape, k.output.trans h.output, Nat.le_trans h.size k.size, fun x hx hn =>
    (k.block x (Nat.lt_of_lt_of_le hx h.size) (fun e => hn (hT x hx e))).trans (h.block x hx (fun e => hn (hS x hx e)))⟩
theorem Kp.tr {a b c : World} {S : Nat → Prop} (h : Kp a b S) (k : Kp b c S) : Kp a c S := h.trans k (fun _ _ e => e) (fun _ _ e => e)
theorem Kp.of {w w' : World} (S : Nat → Prop) (h : Below w.heap.size w w') : Kp w w' S := ⟨h.os, h.tape, h.output, h.size, fun k hk _ => h.block k hk⟩
theorem Kp.below {w w' : World} {S : Nat → Prop} {B : Nat} (h : Kp w w' S) (hB : B ≤ w.heap.size) (hS : ∀ x, S x → B ≤ x) : Below B w w' :=
  ⟨h.os, h.tape, h.output, h.size, fun k hk => h.block k (Nat.lt_of_lt_of_le hk hB) (fun e => Nat.lt_irrefl _ (Nat.lt_of_lt_of_le hk (hS k e)))⟩
theorem Kp.set (w : World) (b j : Nat) (v : Value) : Kp w (w.setCell ⟨b, j, none⟩ v) (fun k => k = b) :=
  ⟨rfl, rfl, rfl, by simp, fun k _ hn => heap_setCell_other w ⟨b, j, none⟩ k v (fun e => hn e)⟩
theorem Kp.mono {w w' : World} {S T : Nat → Prop} (h : Kp w w' S) (hS : ∀ x, x < w.heap.size → S x → T x) : Kp w w' T := ⟨h.os, h.tape, h.output, h.size, fun k hk hn => h.block k hk (fun e => hn (hS k hk e))⟩
theorem BlkAt.kp {w w' : World} {p : Nat} {t : TypeId} {vs : List Value} {S : Nat → Prop} (h : BlkAt w p t vs) (k : Kp w w' S) (hn : ¬ S p) : BlkAt w' p t vs := (k.block p (lt_of_heap h) hn).trans h

/-- A slice that reads so: n elements, these cells. -/
def SlAt (w : World) (v : Value) (n : Nat) (xs : List Value) : Prop :=
  ∃ a c, v = .slice a n c ∧ n ≤ c ∧ c ≤ 9223372036854775807 ∧ (a = none → c = 0) ∧ (xs = [] ∨ ∃ b off, a = some ⟨b, off, none⟩ ∧ b < w.heap.size ∧ ∀ j u, xs[j]? = some u → w.cell? ⟨b, off + j, none⟩ = some u)
theorem SlAt.below {w w' : World} {v : Value} {n : Nat} {xs : List Value} (h : SlAt w v n xs) (k : Below w.heap.size w w') : SlAt w' v n xs := by
  obtain ⟨a, c, hv, h1, h2, h3, h | ⟨b, off, ha, hb, hc⟩⟩ := h
  · exact ⟨a, c, hv, h1, h2, h3, Or.inl h⟩
  · exact ⟨a, c, hv, h1, h2, h3, Or.inr ⟨b, off, ha, Nat.lt_of_lt_of_le hb k.size, fun j u hu => (k.cell (p := ⟨b, off + j, none⟩) hb).trans (hc j u hu)⟩⟩
theorem SlAt.kp {w w' : World} {v : Value} {n : Nat} {xs : List Value} {S : Nat → Prop} (h : SlAt w v n xs) (k : Kp w w' S) (hn : ∀ b, v.ownBlock = some b → ¬ S b) : SlAt w' v n xs := by
  obtain ⟨a, c, hv, h1, h2, h3, h | ⟨b, off, ha, hb, hc⟩⟩ := h
  · exact ⟨a, c, hv, h1, h2, h3, Or.inl h⟩
  · refine ⟨a, c, hv, h1, h2, h3, Or.inr ⟨b, off, ha, Nat.lt_of_lt_of_le hb k.size, fun j u hu => ?_⟩⟩
    have := k.block b hb (hn b (by rw [hv, ha]; rfl))
    exact (World.cell?_of_block (a := ⟨b, off + j, none⟩) this).trans (hc j u hu)
theorem SlAt.get {w : World} {v : Value} {n : Nat} {xs : List Value} (h : SlAt w v n xs) (hx : xs ≠ []) : ∃ b off c, v = .slice (some ⟨b, off, none⟩) n c ∧ n ≤ c ∧ c ≤ 9223372036854775807 ∧ b < w.heap.size ∧ ∀ j u, xs[j]? = some u → w.cell? ⟨b, off + j, none⟩ = some u := by
  obtain ⟨a, c, hv, h1, h2, h3, h | ⟨b, off, ha, hb, hc⟩⟩ := h
  · exact absurd h hx
  · exact ⟨b, off, c, by rw [hv, ha], h1, h2, hb, hc⟩
theorem SlAt.form {w : World} {v : Value} {n : Nat} {xs : List Value} (h : SlAt w v n xs) : ∃ a c, v = .slice a n c ∧ n ≤ c ∧ c ≤ 9223372036854775807 := by
  obtain ⟨a, c, hv, h1, h2, _⟩ := h
  exact ⟨a, c, hv, h1, h2⟩
theorem SlAt.nil (w : World) : SlAt w (.slice none 0 0) 0 [] := ⟨none, 0, rfl, Nat.le_refl _, by omega, fun _ => rfl, Or.inl rfl⟩
/-- A whole block, or its beginning. -/
theorem BlkAt.sl {w : World} {g c n : Nat} {t : TypeId} {vs : List Value} (h : BlkAt w g t vs) (hn : n ≤ c) (hc : c ≤ 9223372036854775807) (xs : List Value) (hx : ∀ (j : Nat) (u : Value), xs[j]? = some u → vs[j]? = some u) : SlAt w (.slice (some ⟨g, 0, none⟩) n c) n xs :=
  ⟨_, c, rfl, hn, hc, (fun e => by cases e), Or.inr ⟨g, 0, rfl, h.lt, fun j u hu => by rw [Nat.zero_add]; exact h.cell j u (hx j u hu)⟩⟩
/-- Numbers as values. -/
def iV (l : List Int) : List Value := l.map fun x => Value.int .i64 x
theorem iV_len (l : List Int) : (iV l).length = l.length := by simp [iV]
theorem iV_at (l : List Int) (j : Nat) (h : j < l.length) : (iV l)[j]? = some (.int .i64 l[j]) := by simp [iV, h]
theorem iV_app (a b : List Int) : iV (a ++ b) = iV a ++ iV b := by simp [iV]
theorem iV_set (l : List Int) (k : Nat) (x : Int) : iV (l.set k x) = (iV l).set k (.int .i64 x) := by simp [iV, List.map_set]
theorem iV_nil {l : List Int} (h : l ≠ []) : iV l ≠ [] := by unfold iV; simpa using h
/-- A slice of numbers. -/
def SlI (w : World) (v : Value) (l : List Int) : Prop := SlAt w v l.length (iV l)
theorem SlI.below {w w' : World} {v : Value} {l : List Int} (h : SlI w v l) (k : Below w.heap.size w w') : SlI w' v l := SlAt.below h k
theorem SlI.form {w : World} {v : Value} {l : List Int} (h : SlI w v l) : ∃ a c, v = .slice a l.length c ∧ l.length ≤ c ∧ c ≤ 9223372036854775807 := SlAt.form h
theorem SlI.get {w : World} {v : Value} {l : List Int} (h : SlI w v l) (hx : l ≠ []) : ∃ b off c, v = .slice (some ⟨b, off, none⟩) l.length c ∧ l.length ≤ c ∧ b < w.heap.size ∧ ∀ (j : Nat) (hj : j < l.length), w.cell? ⟨b, off + j, none⟩ = some (.int .i64 l[j]) := by
  obtain ⟨b, off, c, h1, h2, _, h3, h4⟩ := SlAt.get h (iV_nil hx)
  exact ⟨b, off, c, h1, h2, h3, fun j hj => h4 j _ (iV_at l j hj)⟩
theorem SlI.at_ {w : World} {b off n c : Nat} {l : List Int} (h : SlI w (.slice (some ⟨b, off, none⟩) n c) l) (j : Nat) (hj : j < l.length) : w.cell? ⟨b, off + j, none⟩ = some (.int .i64 l[j]) ∧ b < w.heap.size ∧ n = l.length := by
  obtain ⟨b', off', c', e, _, hb, hc⟩ := h.get (by rintro rfl; simp at hj)
  injection e with e1 e2 _
  injection e1 with e1
  injection e1 with e3 e4
  subst e3 e4
  exact ⟨hc j hj, hb, e2⟩

theorem info3 : (Tryd.prog.info? 3).map (fun i => (i.zero, i.size, i.bytes)) = some (some (.int .i64 0), 1, 8) := by kernel_rfl
theorem info27 : (Tryd.prog.info? 27).map (fun i => (i.zero, i.size, i.bytes)) = some (some (.agg #[.int .u8 0, .int .u64 0, .string ⟨#[]⟩, .int .i64 0, .int .i64 0, .int .i64 0, .int .u32 0, .slice none 0 0]), 8, 88) := by kernel_rfl
/-- A row of numbers of the call's own. -/
def OwnI (w : World) (v : Value) (l : List Int) : Prop := w.ownsRow 0 3 1 v l.length (iV l)
theorem OwnI.nil (w : World) : OwnI w (.slice none 0 0) [] := World.ownsRow_nil _ _ _ _
theorem OwnI.kp {w w' : World} {v : Value} {l : List Int} {S : Nat → Prop} (h : OwnI w v l) (k : Kp w w' S) (hn : ∀ b, v.ownBlock = some b → ¬ S b) : OwnI w' v l := by
  refine ⟨h.1, ?_⟩
  rcases h.2 with h0 | ⟨g, cap, cur, hv, hb, hg, rest⟩
  · exact .inl h0
  · exact .inr ⟨g, cap, cur, hv, hb, (k.block g (lt_of_heap hg) (hn g (by rw [hv]; rfl))).trans hg, rest⟩
theorem OwnI.below {w w' : World} {v : Value} {l : List Int} (h : OwnI w v l) (k : Below w.heap.size w w') : OwnI w' v l := h.kp (Kp.of (fun _ => False) k) (fun _ _ => id)
theorem OwnI.lt {w : World} {v : Value} {l : List Int} (h : OwnI w v l) {b : Nat} (e : v.ownBlock = some b) : b < w.heap.size := (World.ownsRow.lt h b e).2
theorem OwnI.sl {w : World} {v : Value} {l : List Int} (h : OwnI w v l) : SlI w v l := by
  rcases h.2 with ⟨rfl, hn⟩ | ⟨g, cap, cur, hv, hb, hg, h1, h2, h3, h4⟩
  · have : l = [] := List.eq_nil_of_length_eq_zero hn
    subst this
    exact SlAt.nil w
  · refine ⟨_, cap, hv, h1, by unfold maxLen at h2; omega, (fun e => by cases e), Or.inr ⟨g, 0, rfl, lt_of_heap hg, fun j u hu => ?_⟩⟩
    have := World.ownsRow.cells h (g := g) (by rw [hv]; rfl) j u hu
    rw [add_plain] at this
    exact this
theorem OwnI.set {w : World} {g n c : Nat} {l : List Int} (h : OwnI w (.slice (some ⟨g, 0, none⟩) n c) l) (j : Nat) (x : Int) : OwnI (w.setCell ⟨g, j, none⟩ (.int .i64 x)) (.slice (some ⟨g, 0, none⟩) n c) (l.set j x) := by
  unfold OwnI at *
  have hn : n = l.length := by
    rcases h.2 with ⟨hv, _⟩ | ⟨g', cap, cur, hv, _⟩
    · cases hv
    · injection hv with _ e _
  subst hn
  rw [iV_set, List.length_set]
  exact (World.ownsRow.stored h j (.int .i64 x)).1
theorem OwnI.free {w : World} {g n c : Nat} {l : List Int} (h : OwnI w (.slice (some ⟨g, 0, none⟩) n c) l) (j : Nat) : w.frozen? ⟨g, j, none⟩ = false := by
  rcases h.2 with ⟨hv, _⟩ | ⟨g', cap, cur, hv, hb, hg, _⟩
  · cases hv
  · injection hv with e _ _
    injection e with e
    injection e with e
    subst e
    exact frozen_of_row w g j cur 3 hg
theorem OwnI.cell {w : World} {g n c : Nat} {l : List Int} (h : OwnI w (.slice (some ⟨g, 0, none⟩) n c) l) (j : Nat) (y : Int) (hj : l[j]? = some y) : w.cell? ⟨g, j, none⟩ = some (.int .i64 y) := by
  have := World.ownsRow.cells h (g := g) rfl j (.int .i64 y) (by unfold iV; rw [List.getElem?_map, hj]; rfl)
  rw [add_plain, Nat.zero_add] at this
  exact this
theorem OwnI.lt' {w : World} {g n c : Nat} {l : List Int} (h : OwnI w (.slice (some ⟨g, 0, none⟩) n c) l) : g < w.heap.size := h.lt rfl
/-- Numbers are appended. -/
theorem wp_apI {w : World} {ops : Array Oper} {rest : List Oper} {o : Oper} {a : Act} {Q : Exit → Act → World → Prop} (hgd : o.guard = none) (s x : Operand)
    (ho : o.op = .call { callee := .builtin .append, args := #[s, x], argTypes := #[25, 25] })
    (v : Value) (l : List Int) (hs : a.eval s = v) (hown : OwnI w v l) (ad : Addr) (m c : Nat) (news : List Int) (hx : a.eval x = .slice (some ad) m c) (hm : m = news.length) (hm0 : 0 < m)
    (hnews : ∀ (j : Nat) (h : j < news.length), w.cell? (ad.add j) = some (.int .i64 news[j])) (hlen : l.length + m ≤ 17592186044416)
    (h : ∀ g cap w', OwnI w' (.slice (some ⟨g, 0, none⟩) (l.length + m) cap) (l ++ news) → Kp w w' (fun k => v.ownBlock = some k) → (v.ownBlock = some g ∨ g = w.heap.size) → wpList Tryd.prog ops Q rest (a.put o.dst (.slice (some ⟨g, 0, none⟩) (l.length + m) cap)) w') :
    wpList Tryd.prog ops Q (o :: rest) a w := by
  obtain ⟨i0, hi, hz0, hz1, hz2⟩ := info_parts info3
  refine wpList_append_lies _ hgd s x 25 ho 0 3 i0 (.int .i64 0) 1 8 Tryd.underlying25 hi hz0 hz1 hz2 rfl (by decide) v l.length (iV l) hs hown ad m c (iV news) hx (by rw [iV_len, hm]; omega) (fun j u hu => ?_) (fun u hu => ?_) hm0 (by unfold maxLen; omega) (by omega) (Nat.zero_le _) w.heap.size rfl ?_
  · have hj : j < news.length := by have := (List.getElem?_eq_some_iff.1 hu).1; rw [iV_len] at this; exact this
    rw [iV_at news j hj] at hu
    injection hu with hu
    rw [← hu]
    exact hnews j hj
  · unfold iV at hu
    obtain ⟨y, _, rfl⟩ := List.mem_map.1 hu
    rfl
  · intro g cap w' h1 h2 h3 h4
    refine h g cap w' ?_ ⟨h2.os, h2.tape, h2.output, h2.size, fun k hk hn => h2.block k hk (fun e => hn e.symm)⟩ h3
    unfold OwnI
    rw [List.length_append, iV_app, ← hm]
    exact h1
end Go.Proofs.YtlbekgcfafofdaaDoor
