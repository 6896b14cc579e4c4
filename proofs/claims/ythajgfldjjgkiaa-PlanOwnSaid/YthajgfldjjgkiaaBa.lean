/- Keys, words and blocks in memory. -/
import Derived.Test.YthajgfldjjgkiaaChecked
import Derived.WalkKit
import Derived.WalkSpells
import Derived.WalkLawsBesides
import Derived.Below
import Derived.OwnWalk
import Derived.Laws.OwnMore
import Derived.Laws.AppendOwnNone
import Derived.Deep.AppendLies
import Derived.Lib.Hide
import Derived.RowKit3
import Derived.Deep.QuietTactic
import Derived.BigQuiet
import Derived.IntWalk
namespace Go.Proofs.Ythajgfldjjgkiaa
open Go.RowKit

theorem bcell {W w1 : World} {B : Nat} (hb : RowKit.Below B W w1) : (∀ b o, b < B → w1.cell? ⟨b, o, none⟩ = W.cell? ⟨b, o, none⟩) ∧ (∀ b o, b < B → w1.frozen? ⟨b, o, none⟩ = W.frozen? ⟨b, o, none⟩) :=
  ⟨fun b o h => hb.cell (p := ⟨b, o, none⟩) h, fun b o h => hb.frozen (p := ⟨b, o, none⟩) h⟩
theorem add_plain (b off j : Nat) : (⟨b, off, none⟩ : Addr).add j = ⟨b, off + j, none⟩ := by unfold Addr.add; split <;> simp_all
def RetBelow (w : World) (v : Value) (e : Ending) (w' : World) : Prop := e = .returned v ∧ Below w.heap.size w w'
def Same (w : World) (v : Value) (e : Ending) (w' : World) : Prop := e = .returned v ∧ w = w'
theorem below_alloc (w : World) (o : Obj) : Below w.heap.size w (w.alloc o) := (Below.refl _ _).alloc (Nat.le_refl _) o
theorem below_drewN (w : World) (n : Nat) : Below w.heap.size w (w.drewN n) := ⟨rfl, rfl, rfl, Nat.le_refl _, fun _ _ => rfl⟩
theorem bdrewB {B : Nat} {a w : World} (h : Below B a w) (n : Nat) : Below B a (w.drewN n) := ⟨h.os, h.tape, h.output, h.size, h.block⟩
theorem lt_of_heap {w : World} {g : Nat} {o : Obj} (h : w.heap[g]? = some o) : g < w.heap.size := by
  rcases Nat.lt_or_ge g w.heap.size with h1 | h1
  · exact h1
  · rw [Array.getElem?_eq_none h1] at h; cases h

/-- A block whose cells are known, and may be written. -/
structure CellsAt (w : World) (b : Nat) (vs : List Value) : Prop where
  lt : b < w.heap.size
  cell : ∀ (j : Nat) v, vs[j]? = some v → w.cell? ⟨b, j, none⟩ = some v
  free : ∀ j, w.frozen? ⟨b, j, none⟩ = false
/-- A whole block. -/
def BlkAt (w : World) (p : Nat) (t : TypeId) (vs : List Value) : Prop := w.heap[p]? = some (.cells vs.toArray t (0, 0))
theorem BlkAt.lt {w : World} {p : Nat} {t : TypeId} {vs : List Value} (h : BlkAt w p t vs) : p < w.heap.size := lt_of_heap h
theorem BlkAt.cells {w : World} {p : Nat} {t : TypeId} {vs : List Value} (h : BlkAt w p t vs) : CellsAt w p vs :=
  ⟨lt_of_heap h, fun j v hv => by unfold World.cell?; simp only [BlkAt] at h; rw [h]; simpa using hv, fun j => by unfold World.frozen?; simp only [BlkAt] at h; rw [h]; simp⟩
theorem BlkAt.cell {w : World} {p : Nat} {t : TypeId} {vs : List Value} (h : BlkAt w p t vs) (j : Nat) (v : Value) (hv : vs[j]? = some v) : w.cell? ⟨p, j, none⟩ = some v := h.cells.cell j v hv
theorem BlkAt.free {w : World} {p : Nat} {t : TypeId} {vs : List Value} (h : BlkAt w p t vs) (j : Nat) : w.frozen? ⟨p, j, none⟩ = false := h.cells.free j
theorem BlkAt.new (w : World) (vs : List Value) (t : TypeId) : BlkAt (w.alloc (.cells vs.toArray t)) w.heap.size t vs := by
  unfold BlkAt; exact heap_alloc_new w _
theorem BlkAt.set {w : World} {p : Nat} {t : TypeId} {vs : List Value} (h : BlkAt w p t vs) (j : Nat) (x : Value) : BlkAt (w.setCell ⟨p, j, none⟩ x) p t (vs.set j x) := by
  unfold BlkAt at *
  rw [heap_setCell_same w p j _ t x h]
  simp
theorem BlkAt.other {w : World} {p c : Nat} {t : TypeId} {vs : List Value} (h : BlkAt w p t vs) (hc : c ≠ p) (j : Nat) (x : Value) : BlkAt (w.setCell ⟨c, j, none⟩ x) p t vs := by
  unfold BlkAt at *
  rw [heap_setCell_other w ⟨c, j, none⟩ p x (fun e => hc e.symm)]
  exact h
theorem BlkAt.below {w w' : World} {p : Nat} {t : TypeId} {vs : List Value} (h : BlkAt w p t vs) (k : Below w.heap.size w w') : BlkAt w' p t vs := (k.block p (lt_of_heap h)).trans h
theorem BlkAt.drew {w : World} {p : Nat} {t : TypeId} {vs : List Value} (h : BlkAt w p t vs) : BlkAt w.drew p t vs := h
theorem BlkAt.alloc {w : World} {p : Nat} {t : TypeId} {vs : List Value} (h : BlkAt w p t vs) (o : Obj) : BlkAt (w.alloc o) p t vs := h.below (below_alloc w o)

/-- What may have changed of the old blocks: those of S alone. -/
structure Kp (w w' : World) (S : Nat → Prop) : Prop where
  os : w'.os = w.os
  tape : w'.tape = w.tape
  output : w'.output = w.output
  size : w.heap.size ≤ w'.heap.size
  block : ∀ k, k < w.heap.size → ¬ S k → w'.heap[k]? = w.heap[k]?
theorem Kp.refl (w : World) (S : Nat → Prop) : Kp w w S := ⟨rfl, rfl, rfl, Nat.le_refl _, fun _ _ _ => rfl⟩
theorem Kp.trans {a b c : World} {S T U : Nat → Prop} (h : Kp a b S) (k : Kp b c T) (hS : ∀ x, x < a.heap.size → S x → U x) (hT : ∀ x, x < a.heap.size → T x → U x) : Kp a c U :=
  ⟨k.os.trans h.os, k.tape.trans h.tape, k.output.trans h.output, Nat.le_trans h.size k.size, fun x hx hn =>
    (k.block x (Nat.lt_of_lt_of_le hx h.size) (fun e => hn (hT x hx e))).trans (h.block x hx (fun e => hn (hS x hx e)))⟩
theorem Kp.tr {a b c : World} {S : Nat → Prop} (h : Kp a b S) (k : Kp b c S) : Kp a c S := h.trans k (fun _ _ e => e) (fun _ _ e => e)
theorem Kp.of {w w' : World} (S : Nat → Prop) (h : Below w.heap.size w w') : Kp w w' S := ⟨h.os, h.tape, h.output, h.size, fun k hk _ => h.block k hk⟩
theorem Kp.below {w w' : World} {S : Nat → Prop} {B : Nat} (h : Kp w w' S) (hB : B ≤ w.heap.size) (hS : ∀ x, S x → B ≤ x) : Below B w w' :=
  ⟨h.os, h.tape, h.output, h.size, fun k hk => h.block k (Nat.lt_of_lt_of_le hk hB) (fun e => Nat.lt_irrefl _ (Nat.lt_of_lt_of_le hk (hS k e)))⟩
theorem Kp.set (w : World) (b j : Nat) (v : Value) : Kp w (w.setCell ⟨b, j, none⟩ v) (fun k => k = b) :=
  ⟨rfl, rfl, rfl, by simp, fun k _ hn => heap_setCell_other w ⟨b, j, none⟩ k v (fun e => hn e)⟩
theorem Kp.mono {w w' : World} {S T : Nat → Prop} (h : Kp w w' S) (hS : ∀ x, x < w.heap.size → S x → T x) : Kp w w' T := ⟨h.os, h.tape, h.output, h.size, fun k hk hn => h.block k hk (fun e => hn (hS k hk e))⟩
theorem BlkAt.kp {w w' : World} {p : Nat} {t : TypeId} {vs : List Value} {S : Nat → Prop} (h : BlkAt w p t vs) (k : Kp w w' S) (hn : ¬ S p) : BlkAt w' p t vs := (k.block p (lt_of_heap h) hn).trans h

/-- A slice that reads so: n elements, these cells. -/
def SlAt (w : World) (v : Value) (n : Nat) (xs : List Value) : Prop :=
  ∃ a c, v = .slice a n c ∧ n ≤ c ∧ c ≤ 9223372036854775807 ∧ (a = none → c = 0) ∧ (xs = [] ∨ ∃ b off, a = some ⟨b, off, none⟩ ∧ b < w.heap.size ∧ ∀ j u, xs[j]? = some u → w.cell? ⟨b, off + j, none⟩ = some u)
theorem SlAt.below {w w' : World} {v : Value} {n : Nat} {xs : List Value} (h : SlAt w v n xs) (k : Below w.heap.size w w') : SlAt w' v n xs := by
  obtain ⟨a, c, hv, h1, h2, h3, h | ⟨b, off, ha, hb, hc⟩⟩ := h
  · exact ⟨a, c, hv, h1, h2, h3, Or.inl h⟩
  · exact ⟨a, c, hv, h1, h2, h3, Or.inr ⟨b, off, ha, Nat.lt_of_lt_of_le hb k.size, fun j u hu => (k.cell (p := ⟨b, off + j, none⟩) hb).trans (hc j u hu)⟩⟩
theorem SlAt.kp {w w' : World} {v : Value} {n : Nat} {xs : List Value} {S : Nat → Prop} (h : SlAt w v n xs) (k : Kp w w' S) (hn : ∀ b, v.ownBlock = some b → ¬ S b) : SlAt w' v n xs := by
  obtain ⟨a, c, hv, h1, h2, h3, h | ⟨b, off, ha, hb, hc⟩⟩ := h
  · exact ⟨a, c, hv, h1, h2, h3, Or.inl h⟩
  · refine ⟨a, c, hv, h1, h2, h3, Or.inr ⟨b, off, ha, Nat.lt_of_lt_of_le hb k.size, fun j u hu => ?_⟩⟩
    have := k.block b hb (hn b (by rw [hv, ha]; rfl))
    exact (World.cell?_of_block (a := ⟨b, off + j, none⟩) this).trans (hc j u hu)
theorem SlAt.get {w : World} {v : Value} {n : Nat} {xs : List Value} (h : SlAt w v n xs) (hx : xs ≠ []) : ∃ b off c, v = .slice (some ⟨b, off, none⟩) n c ∧ n ≤ c ∧ c ≤ 9223372036854775807 ∧ b < w.heap.size ∧ ∀ j u, xs[j]? = some u → w.cell? ⟨b, off + j, none⟩ = some u := by
  obtain ⟨a, c, hv, h1, h2, h3, h | ⟨b, off, ha, hb, hc⟩⟩ := h
  · exact absurd h hx
  · exact ⟨b, off, c, by rw [hv, ha], h1, h2, hb, hc⟩
theorem SlAt.form {w : World} {v : Value} {n : Nat} {xs : List Value} (h : SlAt w v n xs) : ∃ a c, v = .slice a n c ∧ n ≤ c ∧ c ≤ 9223372036854775807 := by
  obtain ⟨a, c, hv, h1, h2, _⟩ := h
  exact ⟨a, c, hv, h1, h2⟩
theorem SlAt.nil (w : World) : SlAt w (.slice none 0 0) 0 [] := ⟨none, 0, rfl, Nat.le_refl _, by omega, fun _ => rfl, Or.inl rfl⟩
/-- A whole block, or its beginning. -/
theorem BlkAt.sl {w : World} {g c n : Nat} {t : TypeId} {vs : List Value} (h : BlkAt w g t vs) (hn : n ≤ c) (hc : c ≤ 9223372036854775807) (xs : List Value) (hx : ∀ (j : Nat) (u : Value), xs[j]? = some u → vs[j]? = some u) : SlAt w (.slice (some ⟨g, 0, none⟩) n c) n xs :=
  ⟨_, c, rfl, hn, hc, (fun e => by cases e), Or.inr ⟨g, 0, rfl, h.lt, fun j u hu => by rw [Nat.zero_add]; exact h.cell j u (hx j u hu)⟩⟩
/-- Numbers as values. -/
def iV (l : List Int) : List Value := l.map fun x => Value.int .i64 x
theorem iV_len (l : List Int) : (iV l).length = l.length := by simp [iV]
theorem iV_at (l : List Int) (j : Nat) (h : j < l.length) : (iV l)[j]? = some (.int .i64 l[j]) := by simp [iV, h]
theorem iV_app (a b : List Int) : iV (a ++ b) = iV a ++ iV b := by simp [iV]
theorem iV_set (l : List Int) (k : Nat) (x : Int) : iV (l.set k x) = (iV l).set k (.int .i64 x) := by simp [iV, List.map_set]
theorem iV_nil {l : List Int} (h : l ≠ []) : iV l ≠ [] := by unfold iV; simpa using h
/-- A slice of numbers. -/
def SlI (w : World) (v : Value) (l : List Int) : Prop := SlAt w v l.length (iV l)
theorem SlI.below {w w' : World} {v : Value} {l : List Int} (h : SlI w v l) (k : Below w.heap.size w w') : SlI w' v l := SlAt.below h k
theorem SlI.form {w : World} {v : Value} {l : List Int} (h : SlI w v l) : ∃ a c, v = .slice a l.length c ∧ l.length ≤ c ∧ c ≤ 9223372036854775807 := SlAt.form h
theorem SlI.get {w : World} {v : Value} {l : List Int} (h : SlI w v l) (hx : l ≠ []) : ∃ b off c, v = .slice (some ⟨b, off, none⟩) l.length c ∧ l.length ≤ c ∧ b < w.heap.size ∧ ∀ (j : Nat) (hj : j < l.length), w.cell? ⟨b, off + j, none⟩ = some (.int .i64 l[j]) := by
  obtain ⟨b, off, c, h1, h2, _, h3, h4⟩ := SlAt.get h (iV_nil hx)
  exact ⟨b, off, c, h1, h2, h3, fun j hj => h4 j _ (iV_at l j hj)⟩
theorem SlI.at_ {w : World} {b off n c : Nat} {l : List Int} (h : SlI w (.slice (some ⟨b, off, none⟩) n c) l) (j : Nat) (hj : j < l.length) : w.cell? ⟨b, off + j, none⟩ = some (.int .i64 l[j]) ∧ b < w.heap.size ∧ n = l.length := by
  obtain ⟨b', off', c', e, _, hb, hc⟩ := h.get (by rintro rfl; simp at hj)
  injection e with e1 e2 _
  injection e1 with e1
  injection e1 with e3 e4
  subst e3 e4
  exact ⟨hc j hj, hb, e2⟩
/-- A step: which runs, and which it makes. -/
structure Stp where
  inn : List Int
  out : Int
def outs (ss : List Stp) : Nat → Int := fun i => (ss.getD i ⟨[], 0⟩).out
/-- Steps as cells, In being these slices, Out these numbers. -/
def sV (f : Nat → Value) (o : Nat → Int) : Nat → List Value
  | 0 => []
  | n + 1 => sV f o n ++ [f n, .int .i64 (o n)]
theorem sV_len (f : Nat → Value) (o : Nat → Int) : ∀ n, (sV f o n).length = n * 2
  | 0 => rfl
  | n + 1 => by rw [sV, List.length_append, sV_len f o n]; show n * 2 + 2 = _; omega
theorem sV_at (f : Nat → Value) (o : Nat → Int) : ∀ n i, i < n → (sV f o n)[i * 2]? = some (f i) ∧ (sV f o n)[i * 2 + 1]? = some (.int .i64 (o i))
  | 0, _, h => by omega
  | n + 1, i, h => by
    rw [sV]
    by_cases e : i = n
    · subst e
      rw [List.getElem?_append_right (by rw [sV_len]; omega), List.getElem?_append_right (by rw [sV_len]; omega), sV_len]
      rw [show i * 2 - i * 2 = 0 by omega, show i * 2 + 1 - i * 2 = 1 by omega]
      exact ⟨rfl, rfl⟩
    · rw [List.getElem?_append_left (by rw [sV_len]; omega), List.getElem?_append_left (by rw [sV_len]; omega)]
      exact sV_at f o n i (by omega)
theorem sV_congr {f g : Nat → Value} {o p : Nat → Int} : ∀ n, (∀ i, i < n → f i = g i ∧ o i = p i) → sV f o n = sV g p n
  | 0, _ => rfl
  | n + 1, h => by rw [sV, sV, sV_congr n fun i hi => h i (by omega), (h n (by omega)).1, (h n (by omega)).2]
def updF {α : Type} (f : Nat → α) (k : Nat) (x : α) : Nat → α := fun i => if i = k then x else f i
theorem updF_same {α : Type} (f : Nat → α) (k : Nat) (x : α) : updF f k x k = x := if_pos rfl
theorem updF_other {α : Type} (f : Nat → α) (k : Nat) (x : α) (i : Nat) (h : i ≠ k) : updF f k x i = f i := if_neg h
theorem sV_set (f : Nat → Value) (o : Nat → Int) (v : Value) (z : Int) : ∀ n i, i < n → ((sV f o n).set (i * 2) v).set (i * 2 + 1) (.int .i64 z) = sV (updF f i v) (updF o i z) n
  | 0, _, h => by omega
  | n + 1, i, h => by
    rw [sV, sV]
    by_cases e : i = n
    · subst e
      rw [updF_same, updF_same, sV_congr (f := updF f i v) (g := f) (o := updF o i z) (p := o) i fun k hk => ⟨updF_other _ _ _ _ (by omega), updF_other _ _ _ _ (by omega)⟩]
      rw [List.set_append_right _ _ (by rw [sV_len]; omega), List.set_append_right _ _ (by rw [sV_len]; omega), sV_len]
      rw [show i * 2 - i * 2 = 0 by omega, show i * 2 + 1 - i * 2 = 1 by omega]
      rfl
    · rw [updF_other _ _ _ _ (fun e' => e e'.symm), updF_other _ _ _ _ (fun e' => e e'.symm)]
      rw [List.set_append_left _ _ (by rw [sV_len]; omega), List.set_append_left _ _ (by simp [sV_len]; omega)]
      rw [sV_set f o v z n i (by omega)]
/-- A slice of steps. -/
def StAt (w : World) (v : Value) (ss : List Stp) : Prop := ∃ f, SlAt w v ss.length (sV f (outs ss) ss.length) ∧ ∀ i (hi : i < ss.length), SlI w (f i) ss[i].inn
theorem StAt.below {w w' : World} {v : Value} {ss : List Stp} (h : StAt w v ss) (k : Below w.heap.size w w') : StAt w' v ss := by
  obtain ⟨f, h1, h2⟩ := h
  exact ⟨f, h1.below k, fun i hi => (h2 i hi).below k⟩
theorem StAt.form {w : World} {v : Value} {ss : List Stp} (h : StAt w v ss) : ∃ a c, v = .slice a ss.length c ∧ ss.length ≤ c ∧ c ≤ 9223372036854775807 := by
  obtain ⟨f, h1, h2⟩ := h
  exact h1.form
theorem StAt.get {w : World} {v : Value} {ss : List Stp} (h : StAt w v ss) (hx : ss ≠ []) : ∃ (b off c : Nat) (f : Nat → Value), v = .slice (some ⟨b, off, none⟩) ss.length c ∧ ss.length ≤ c ∧ b < w.heap.size ∧ ∀ (i : Nat) (hi : i < ss.length), w.cell? ⟨b, off + i * 2, none⟩ = some (f i) ∧ w.cell? ⟨b, off + (i * 2 + 1), none⟩ = some (.int .i64 ss[i].out) ∧ SlI w (f i) ss[i].inn := by
  obtain ⟨f, h1, h2⟩ := h
  have h0 : 0 < ss.length := List.length_pos_iff.2 hx
  obtain ⟨b, off, c, h3, h4, _, h5, h6⟩ := SlAt.get h1 (by intro e; have := congrArg List.length e; rw [sV_len] at this; simp at this; omega)
  refine ⟨b, off, c, f, h3, h4, h5, fun i hi => ?_⟩
  have := sV_at f (outs ss) ss.length i hi
  refine ⟨h6 _ _ this.1, ?_, h2 i hi⟩
  rw [h6 _ _ this.2]
  simp [outs, hi]
/-- Steps of the call's own: all their memory is new, and theirs alone. -/
structure StOwn (w : World) (B : Nat) (v : Value) (ss : List Stp) (g : Nat) (gi : Nat → Nat) : Prop where
  val : v = .slice (some ⟨g, 0, none⟩) ss.length ss.length
  row : BlkAt w g 46 (sV (fun i => .slice (some ⟨gi i, 0, none⟩) (ss.getD i ⟨[], 0⟩).inn.length (ss.getD i ⟨[], 0⟩).inn.length) (outs ss) ss.length)
  ge : B ≤ g
  each : ∀ i, i < ss.length → BlkAt w (gi i) 3 (iV (ss.getD i ⟨[], 0⟩).inn) ∧ B ≤ gi i
  inj : ∀ i j, i < ss.length → j < ss.length → gi i = gi j → i = j
theorem StOwn.below {w w' : World} {B : Nat} {v : Value} {ss : List Stp} {g : Nat} {gi : Nat → Nat} (h : StOwn w B v ss g gi) (k : Below w.heap.size w w') : StOwn w' B v ss g gi :=
  ⟨h.val, h.row.below k, h.ge, fun i hi => ⟨(h.each i hi).1.below k, (h.each i hi).2⟩, h.inj⟩
theorem StOwn.st {w : World} {B : Nat} {v : Value} {ss : List Stp} {g : Nat} {gi : Nat → Nat} (h : StOwn w B v ss g gi) (hn : ss.length ≤ 1000000) (hi : ∀ i (h : i < ss.length), ss[i].inn.length ≤ 1000000) : StAt w v ss := by
  refine ⟨fun i => .slice (some ⟨gi i, 0, none⟩) (ss.getD i ⟨[], 0⟩).inn.length (ss.getD i ⟨[], 0⟩).inn.length, ?_, fun i hi2 => ?_⟩
  · rw [h.val]
    exact h.row.sl (Nat.le_refl _) (by omega) _ (fun j u hu => hu)
  · have := (h.each i hi2).1
    have e : ss.getD i ⟨[], 0⟩ = ss[i] := by simp [hi2]
    have hl := hi i hi2
    rw [e] at this
    simp only [e]
    refine this.sl (Nat.le_refl _) (by omega) _ (fun j u hu => hu)
end Go.Proofs.Ythajgfldjjgkiaa
