/- Rows of bytes, blocks of cells. -/
import Derived.Test.YtlohgcdonenmeaaDoorShelf
import Derived.WalkKit
import Derived.WalkSpells
import Derived.WalkLawsBesides
import Derived.Below
import Derived.OwnWalk
import Derived.Laws.OwnMore
import Derived.Laws.AppendOwnNone
import Derived.Laws.BitsAllLaws
import Derived.Laws.IdiomStrings
import Derived.Lib.AppendStr
import Derived.Lib.Hide
import Derived.Deep.AppendLies
import Derived.Deep.QuietTactic
import Derived.BigQuiet
import Derived.IntWalk
import Derived.RowKit3
namespace Go.Proofs.YtlohgcdonenmeaaDoor
open Go.RowKit

def RetBelow (w : World) (v : Value) (e : Ending) (w' : World) : Prop := e = .returned v ∧ Below w.heap.size w w'
/-- What hangs on the arguments alone, and makes nothing. -/
def Same (w : World) (v : Value) (e : Ending) (w' : World) : Prop := e = .returned v ∧ w = w'
def bs (l : List UInt8) : ByteArray := ⟨l.toArray⟩
theorem bs_list (l : List UInt8) : (bs l).data.toList = l := by simp [bs]
theorem bs_of (s : ByteArray) : bs s.data.toList = s := by simp [bs]
theorem bs_size (l : List UInt8) : (bs l).size = l.length := by rw [Lib.size_eq, bs_list]
theorem below_drewN (w : World) (n : Nat) : Below w.heap.size w (w.drewN n) := ⟨rfl, rfl, rfl, Nat.le_refl _, fun _ _ => rfl⟩
theorem below_alloc (w : World) (o : Obj) : Below w.heap.size w (w.alloc o) := (Below.refl _ _).alloc (Nat.le_refl _) o
theorem bdrewB {B : Nat} {a w : World} (h : Below B a w) (n : Nat) : Below B a (w.drewN n) := ⟨h.os, h.tape, h.output, h.size, h.block⟩
theorem bcell {W w1 : World} {B : Nat} (hb : RowKit.Below B W w1) : (∀ b o, b < B → w1.cell? ⟨b, o, none⟩ = W.cell? ⟨b, o, none⟩) ∧ (∀ b o, b < B → w1.frozen? ⟨b, o, none⟩ = W.frozen? ⟨b, o, none⟩) :=
  ⟨fun b o h => hb.cell (p := ⟨b, o, none⟩) h, fun b o h => hb.frozen (p := ⟨b, o, none⟩) h⟩
theorem add_plain (b off j : Nat) : (⟨b, off, none⟩ : Addr).add j = ⟨b, off + j, none⟩ := by unfold Addr.add; split <;> simp_all
/-- A block whose cells are known, and may be written. -/
structure CellsAt (w : World) (b : Nat) (vs : List Value) : Prop where
  lt : b < w.heap.size
  cell : ∀ (j : Nat) v, vs[j]? = some v → w.cell? ⟨b, j, none⟩ = some v
  free : ∀ j, w.frozen? ⟨b, j, none⟩ = false
theorem CellsAt.keep {w w' : World} {B b : Nat} {vs : List Value} (h : CellsAt w b vs) (k : Below B w w') (hb : b < B) : CellsAt w' b vs :=
  ⟨Nat.lt_of_lt_of_le h.lt k.size, fun j v hv => ((bcell k).1 b j hb).trans (h.cell j v hv), fun j => ((bcell k).2 b j hb).trans (h.free j)⟩
theorem CellsAt.step {w w' : World} {b : Nat} {vs : List Value} (h : CellsAt w b vs) (k : Below w.heap.size w w') : CellsAt w' b vs := h.keep k h.lt
theorem CellsAt.new (w : World) (vs : List Value) (t : TypeId) : CellsAt (w.alloc (.cells vs.toArray t)) w.heap.size vs :=
  ⟨by simp, fun j v hv => by rw [World.cell?_alloc_at _ _ _ _ rfl]; simpa using hv, fun j => by simp⟩
theorem CellsAt.set {w : World} {b : Nat} {vs : List Value} (h : CellsAt w b vs) (j : Nat) (x : Value) (hj : j < vs.length) : CellsAt (w.setCell ⟨b, j, none⟩ x) b (vs.set j x) := by
  refine ⟨by simpa using h.lt, fun i v hv => ?_, fun i => by rw [World.frozen?_setCell]; exact h.free i⟩
  rw [List.getElem?_set] at hv
  by_cases e : j = i
  · subst e
    rw [if_pos rfl, if_pos hj] at hv
    cases hv
    exact World.cell?_setCell_same _ _ _ (h.cell j vs[j] (List.getElem?_eq_getElem hj))
  · rw [if_neg e] at hv
    rw [World.cell?_setCell_other _ _ _ _ (by simp; try omega)]
    exact h.cell i v hv
theorem CellsAt.other {w : World} {b c : Nat} {vs : List Value} (h : CellsAt w b vs) (hc : c ≠ b) (j : Nat) (x : Value) : CellsAt (w.setCell ⟨c, j, none⟩ x) b vs :=
  ⟨by simpa using h.lt, fun i v hv => by rw [World.cell?_setCell_other _ _ _ _ (fun e => hc (congrArg Addr.block e))]; exact h.cell i v hv, fun i => by rw [World.frozen?_setCell]; exact h.free i⟩
theorem CellsAt.alloc {w : World} {b : Nat} {vs : List Value} (h : CellsAt w b vs) (o : Obj) : CellsAt (w.alloc o) b vs := h.step ((Below.refl _ _).alloc (Nat.le_refl _) o)


theorem info5 : (Tryd.prog.info? 5).map (fun i => (i.zero, i.size, i.bytes)) = some (some (.int .u8 0), 1, 1) := by kernel_rfl
def byV (l : List UInt8) : List Value := l.map fun c => Value.int .u8 c.toNat
theorem byV_app (a b : List UInt8) : byV (a ++ b) = byV a ++ byV b := by simp [byV]
theorem byV_len (a : List UInt8) : (byV a).length = a.length := by simp [byV]
/-- A row of bytes of the call's own. -/
def OwnB (w : World) (B : Nat) (v : Value) (l : List UInt8) : Prop := w.ownsRow B 5 1 v l.length (byV l) ∧ B ≤ w.heap.size
/-- All whole blocks but those of bytes are kept. -/
def KeepB (w w' : World) : Prop := ∀ (g : Nat) (t : TypeId) (cs : Array Value), t ≠ 5 → w.heap[g]? = some (.cells cs t (0, 0)) → w'.heap[g]? = some (.cells cs t (0, 0))
theorem KeepB.refl (w : World) : KeepB w w := fun _ _ _ _ h => h
theorem KeepB.trans {a b c : World} (h : KeepB a b) (k : KeepB b c) : KeepB a c := fun g t cs ht x => k g t cs ht (h g t cs ht x)
theorem lt_of_heap {w : World} {g : Nat} {o : Obj} (h : w.heap[g]? = some o) : g < w.heap.size := by
  rcases Nat.lt_or_ge g w.heap.size with h1 | h1
  · exact h1
  · rw [Array.getElem?_eq_none h1] at h; cases h
theorem KeepB.below {w w' : World} (h : Below w.heap.size w w') : KeepB w w' := fun g _ _ _ x => (h.block g (lt_of_heap x)).trans x
theorem OwnB.below {w w' : World} {B : Nat} {v : Value} {l : List UInt8} (h : OwnB w B v l) (k : Below w.heap.size w w') : OwnB w' B v l := by
  refine ⟨⟨h.1.1, ?_⟩, Nat.le_trans h.2 k.size⟩
  rcases h.1.2 with hn | ⟨g, cap, cur, hv, hb, hgg, rest⟩
  · exact .inl hn
  · exact .inr ⟨g, cap, cur, hv, hb, (k.block g (lt_of_heap hgg)).trans hgg, rest⟩
theorem OwnB.grown {w w' : World} {B : Nat} {v : Value} {l : List UInt8} (h : OwnB w B v l) (g : w.grownBy w' v.ownBlock) : Below B w w' :=
  (Below.refl B w).grown g h.2 (fun k hk => (h.1.lt k hk).1)
theorem OwnB.keeps {w w' : World} {B : Nat} {v : Value} {l : List UInt8} (h : OwnB w B v l) (g : w.grownBy w' v.ownBlock) : KeepB w w' := by
  intro k t cs ht x
  refine (g.block k (lt_of_heap x) ?_).trans x
  intro e
  rcases h.1.2 with ⟨hv, _⟩ | ⟨g', cap, cur, hv, _, hgg, _⟩
  · rw [hv] at e; simp [Value.ownBlock] at e
  · rw [hv] at e
    have : k = g' := by simpa [Value.ownBlock] using e
    subst this
    rw [hgg] at x
    injection x with x
    injection x with _ y
    exact ht y.symm
theorem OwnB.nil (w : World) : OwnB w w.heap.size (.slice none 0 0) [] := ⟨World.ownsRow_nil _ _ _ _, Nat.le_refl _⟩
theorem OwnB.alloc {w : World} {B : Nat} {v : Value} {l : List UInt8} (h : OwnB w B v l) (o : Obj) : OwnB (w.alloc o) B v l := h.below (below_alloc w o)
theorem below_base {B : Nat} {w w' : World} (h : Below w.heap.size w w') (hB : B ≤ w.heap.size) : Below B w w' := h.mono hB
/-- As text. -/
theorem OwnB.back {w : World} {B : Nat} {v : Value} {l : List UInt8} (h : OwnB w B v l) (hne : l ≠ []) : (convert 34 9 v).run Tryd.prog w = .ok (.string (bs l)) w := by
  obtain ⟨g, cap, hv, _, _⟩ := h.1.form (List.length_pos_iff.2 hne)
  have hc := h.1.cells (g := g) (by rw [hv]; rfl)
  rw [hv]
  refine run_convert_bytes_back w 34 9 5 ⟨g, 0, none⟩ cap l Tryd.underlying34 Tryd.underlying5 Tryd.underlying9 (fun j hj => ?_)
  exact hc j _ (by simp [byV, hj])

/-- Bytes are appended that a block holds which has just been made. -/
theorem wp_app {w : World} {ops : Array Oper} {rest : List Oper} {o : Oper} {a : Act} {Q : Exit → Act → World → Prop} (hgd : o.guard = none) (s x : Operand)
    (ho : o.op = .call { callee := .builtin .append, args := #[s, x], argTypes := #[34, 34] })
    (B : Nat) (v : Value) (l : List UInt8) (hs : a.eval s = v) (hown : OwnB w B v l) (c : List UInt8) (us : Array Value) (hu : us = (byV c).toArray)
    (hx : a.eval x = .slice (some ⟨w.heap.size, 0, none⟩) c.length c.length) (hlen : l.length + c.length ≤ 140737488355328)
    (h : ∀ v' w', OwnB w' B v' (l ++ c) → Below B w w' → KeepB w w' → wpList Tryd.prog ops Q rest (a.put o.dst v') w') :
    wpList Tryd.prog ops Q (o :: rest) a (w.alloc (.cells us 5)) := by
  obtain ⟨i0, hi, hz0, hz1, hz2⟩ := info_parts info5
  subst hu
  have hB := hown.2
  refine wpList_append_own _ hgd s x 34 ho B 5 i0 (.int .u8 0) 1 1 Tryd.underlying34 hi hz0 hz1 hz2 rfl (by decide) v l.length (byV l) hs (hown.1.alloc _) ⟨w.heap.size, 0, none⟩ c.length c.length (byV c) hx (by rw [byV_len]; simp) ?_ ?_ ?_ ?_ ?_ ?_
  · intro j u hj
    have e : (⟨w.heap.size, 0, none⟩ : Addr).add j = ⟨w.heap.size, j, none⟩ := by unfold Addr.add; split <;> simp_all
    rw [e, World.cell?_alloc_at _ _ _ _ rfl]
    simpa using hj
  · intro u hu
    obtain ⟨c', _, rfl⟩ := List.mem_map.1 hu
    rfl
  · unfold maxLen; omega
  · omega
  · simp; omega
  · intro v' w' h1 h2 _
    have hsz := h2.size
    refine h v' w' ⟨?_, ?_⟩ ?_ ?_
    · rw [List.length_append, byV_app]; exact h1
    · simp at hsz; omega
    · exact ((Below.refl B w).alloc hB _).grown h2 (by simp; omega) (fun k hk => (hown.1.lt k hk).1)
    · exact (KeepB.below (below_alloc w _)).trans ((hown.alloc _).keeps h2)
/-- A text is appended. -/
theorem wp_apps {w : World} {ops : Array Oper} {rest : List Oper} {o : Oper} {a : Act} {Q : Exit → Act → World → Prop} (hgd : o.guard = none) (s x : Operand)
    (ho : o.op = .call { callee := .builtin .append, args := #[s, x], argTypes := #[34, 9] })
    (B : Nat) (v : Value) (l : List UInt8) (hs : a.eval s = v) (hown : OwnB w B v l) (t : ByteArray)
    (hx : a.eval x = .string t) (hlen : l.length + t.size ≤ 140737488355328)
    (h : ∀ v' w', OwnB w' B v' (l ++ t.data.toList) → Below B w w' → KeepB w w' → wpList Tryd.prog ops Q rest (a.put o.dst v') w') :
    wpList Tryd.prog ops Q (o :: rest) a w := by
  obtain ⟨i0, hi, hz0, hz1, hz2⟩ := info_parts info5
  have hB := hown.2
  refine Lib.wpList_append_own_string _ hgd s x 34 9 ho B 5 i0 Tryd.underlying34 Tryd.underlying9 hi hz0 hz1 hz2 v l.length (byV l) hs hown.1 t hx ?_ ?_ hB ?_
  · unfold maxLen; omega
  · omega
  · intro v' w' h1 h2 _
    have hsz := h2.size
    refine h v' w' ⟨?_, Nat.le_trans hB hsz⟩ (hown.grown h2) (hown.keeps h2)
    rw [List.length_append, byV_app, ← Lib.size_eq]; exact h1
/-- A row without elements is made. -/
theorem wp_make {w : World} {ops : Array Oper} {rest : List Oper} {o : Oper} {a : Act} {Q : Exit → Act → World → Prop} (hgd : o.guard = none) (x y : Operand) (ho : o.op = .makeSlice 34 x y)
    (B : Nat) (hB : B ≤ w.heap.size) (kl kc : IntKind) (C : Int) (n : Nat) (hl : a.eval x = .int kl 0) (hc : a.eval y = .int kc C) (hC : C = (n : Int)) (hn : n ≤ 1099511627776)
    (h : ∀ v' w', OwnB w' B v' [] → Below B w w' → KeepB w w' → wpList Tryd.prog ops Q rest (a.put o.dst v') w') :
    wpList Tryd.prog ops Q (o :: rest) a w := by
  obtain ⟨i0, hi, hz0, hz1, hz2⟩ := info_parts info5
  refine wpList_make_own w hgd x y 34 ho B 5 i0 (.int .u8 0) 1 Tryd.underlying34 hi hz0 hz1 kl kc C n hl hc hC (by rw [hz2]; omega) (by unfold maxLen; omega) hB ?_
  intro w' h1 h2
  have hsz := h2.size
  exact h _ w' ⟨h1, Nat.le_trans hB hsz⟩ ((Below.refl B w).grown h2 hB (fun k hk => by cases hk)) (fun g t cs _ x => (h2.block g (lt_of_heap x) (by simp)).trans x)

/-- A row of bytes is answered. -/
def RetOwn (B : Nat) (w : World) (l : List UInt8) (e : Ending) (w' : World) : Prop := ∃ v, e = .returned v ∧ OwnB w' B v l ∧ Below B w w' ∧ KeepB w w'


/-- A slice of bytes that reads so. -/
def SlB (w : World) (v : Value) (l : List UInt8) : Prop :=
  ∃ a c, v = .slice a l.length c ∧ (a = none → c = 0) ∧ (l = [] ∨ ∃ b off, a = some ⟨b, off, none⟩ ∧ b < w.heap.size ∧ ∀ j u, l[j]? = some u → w.cell? ⟨b, off + j, none⟩ = some (.int .u8 u.toNat))
theorem SlB.below {w w' : World} {v : Value} {l : List UInt8} (h : SlB w v l) (k : Below w.heap.size w w') : SlB w' v l := by
  obtain ⟨a, c, hv, hn, h | ⟨b, off, ha, hb, hc⟩⟩ := h
  · exact ⟨a, c, hv, hn, Or.inl h⟩
  · exact ⟨a, c, hv, hn, Or.inr ⟨b, off, ha, Nat.lt_of_lt_of_le hb k.size, fun j u hu => (k.cell (p := ⟨b, off + j, none⟩) hb).trans (hc j u hu)⟩⟩
theorem SlB.nil (w : World) : SlB w (.slice none 0 0) [] := ⟨none, 0, rfl, fun _ => rfl, Or.inl rfl⟩
theorem OwnB.sl {w : World} {B : Nat} {v : Value} {l : List UInt8} (h : OwnB w B v l) : SlB w v l := by
  rcases h.1.2 with ⟨rfl, hn⟩ | ⟨g, cap, cur, hv, hb, hg, rest⟩
  · have : l = [] := List.eq_nil_of_length_eq_zero hn
    subst this
    exact SlB.nil w
  · refine ⟨_, _, hv, (fun h => by cases h), ?_⟩
    refine Or.inr ⟨g, 0, rfl, lt_of_heap hg, fun j u hu => ?_⟩
    have := h.1.cells (g := g) (by rw [hv]; rfl) j (.int .u8 u.toNat) (by unfold byV; simp [hu])
    rw [add_plain] at this
    exact this
end Go.Proofs.YtlohgcdonenmeaaDoor
