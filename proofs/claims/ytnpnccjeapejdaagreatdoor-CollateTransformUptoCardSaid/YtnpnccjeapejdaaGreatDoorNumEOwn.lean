/- Rows of bytes of the call's own. -/
import Derived.Test.YtnpnccjeapejdaaGreatDoorNumWord
import Derived.Test.YtnpnccjeapejdaaGreatDoorNumEWrit
import Derived.OwnWalk
import Derived.Lib.AppendStr
import Derived.Deep.AppendLies
import Derived.Laws.IdiomStrings
namespace Go.Proofs.YtnpnccjeapejdaaGreatDoor.Num
open Go.RowKit

theorem info5 : (Tryz.prog.info? 5).map (fun i => (i.zero, i.size, i.bytes)) = some (some (.int .u8 0), 1, 1) := by kernel_rfl
def byV (l : List UInt8) : List Value := l.map fun c => Value.int .u8 c.toNat
theorem byV_app (a b : List UInt8) : byV (a ++ b) = byV a ++ byV b := by simp [byV]
theorem byV_len (a : List UInt8) : (byV a).length = a.length := by simp [byV]
/-- A row of bytes of the call's own. -/
def OwnB (w : World) (B : Nat) (v : Value) (l : List UInt8) : Prop := w.ownsRow B 5 1 v l.length (byV l) ∧ B ≤ w.heap.size
/-- All whole blocks but those of bytes are kept. -/
def KeepB (w w' : World) : Prop := ∀ (g : Nat) (t : TypeId) (cs : Array Value), t ≠ 5 → w.heap[g]? = some (.cells cs t (0, 0)) → w'.heap[g]? = some (.cells cs t (0, 0))
theorem KeepB.refl (w : World) : KeepB w w := fun _ _ _ _ h => h
theorem KeepB.trans {a b c : World} (h : KeepB a b) (k : KeepB b c) : KeepB a c := fun g t cs ht x => k g t cs ht (h g t cs ht x)
theorem lt_of_heap {w : World} {g : Nat} {o : Obj} (h : w.heap[g]? = some o) : g < w.heap.size := by
  rcases Nat.lt_or_ge g w.heap.size with h1 | h1
  · exact h1
  · rw [Array.getElem?_eq_none h1] at h; cases h
theorem KeepB.below {w w' : World} (h : Below w.heap.size w w') : KeepB w w' := fun g _ _ _ x => (h.block g (lt_of_heap x)).trans x
theorem OwnB.below {w w' : World} {B : Nat} {v : Value} {l : List UInt8} (h : OwnB w B v l) (k : Below w.heap.size w w') : OwnB w' B v l := by
  refine ⟨⟨h.1.1, ?_⟩, Nat.le_trans h.2 k.size⟩
  rcases h.1.2 with hn | ⟨g, cap, cur, hv, hb, hgg, rest⟩
  · exact .inl hn
  · exact .inr ⟨g, cap, cur, hv, hb, (k.block g (lt_of_heap hgg)).trans hgg, rest⟩
theorem OwnB.grown {w w' : World} {B : Nat} {v : Value} {l : List UInt8} (h : OwnB w B v l) (g : w.grownBy w' v.ownBlock) : Below B w w' :=
  (Below.refl B w).grown g h.2 (fun k hk => (h.1.lt k hk).1)
theorem OwnB.keeps {w w' : World} {B : Nat} {v : Value} {l : List UInt8} (h : OwnB w B v l) (g : w.grownBy w' v.ownBlock) : KeepB w w' := by
  intro k t cs ht x
  refine (g.block k (lt_of_heap x) ?_).trans x
  intro e
  rcases h.1.2 with ⟨hv, _⟩ | ⟨g', cap, cur, hv, _, hgg, _⟩
  · rw [hv] at e; simp [Value.ownBlock] at e
  · rw [hv] at e
    have : k = g' := by simpa [Value.ownBlock] using e
    subst this
    rw [hgg] at x
    injection x with x
    injection x with _ y
    exact ht y.symm
theorem OwnB.nil (w : World) : OwnB w w.heap.size (.slice none 0 0) [] := ⟨World.ownsRow_nil _ _ _ _, Nat.le_refl _⟩
theorem OwnB.alloc {w : World} {B : Nat} {v : Value} {l : List UInt8} (h : OwnB w B v l) (o : Obj) : OwnB (w.alloc o) B v l := h.below (below_alloc w o)
/-- As text. -/
theorem OwnB.back {w : World} {B : Nat} {v : Value} {l : List UInt8} (h : OwnB w B v l) (hne : l ≠ []) : (convert 52 9 v).run Tryz.prog w = .ok (.string (bs l)) w := by
  obtain ⟨g, cap, hv, _, _⟩ := h.1.form (List.length_pos_iff.2 hne)
  have hc := h.1.cells (g := g) (by rw [hv]; rfl)
  rw [hv]
  refine run_convert_bytes_back w 52 9 5 ⟨g, 0, none⟩ cap l Tryz.underlying52 Tryz.underlying5 Tryz.underlying9 (fun j hj => ?_)
  exact hc j _ (by simp [byV, hj])

/-- Bytes are appended that a block holds which has just been made. -/
theorem wp_app {w : World} {ops : Array Oper} {rest : List Oper} {o : Oper} {a : Act} {Q : Exit → Act → World → Prop} (hgd : o.guard = none) (s x : Operand)
    (ho : o.op = .call { callee := .builtin .append, args := #[s, x], argTypes := #[52, 52] })
    (B : Nat) (v : Value) (l : List UInt8) (hs : a.eval s = v) (hown : OwnB w B v l) (c : List UInt8) (us : Array Value) (hu : us = (byV c).toArray)
    (hx : a.eval x = .slice (some ⟨w.heap.size, 0, none⟩) c.length c.length) (hlen : l.length + c.length ≤ 1099511627776)
    (h : ∀ v' w', OwnB w' B v' (l ++ c) → Below B w w' → KeepB w w' → wpList Tryz.prog ops Q rest (a.put o.dst v') w') :
    wpList Tryz.prog ops Q (o :: rest) a (w.alloc (.cells us 5)) := by
  obtain ⟨i0, hi, hz0, hz1, hz2⟩ := info_parts info5
  subst hu
  have hB := hown.2
  refine wpList_append_own _ hgd s x 52 ho B 5 i0 (.int .u8 0) 1 1 Tryz.underlying52 hi hz0 hz1 hz2 rfl (by decide) v l.length (byV l) hs (hown.1.alloc _) ⟨w.heap.size, 0, none⟩ c.length c.length (byV c) hx (by rw [byV_len]; simp) ?_ ?_ ?_ ?_ ?_ ?_
  · intro j u hj
    have e : (⟨w.heap.size, 0, none⟩ : Addr).add j = ⟨w.heap.size, j, none⟩ := by unfold Addr.add; split <;> simp_all
    rw [e, World.cell?_alloc_at _ _ _ _ rfl]
    simpa using hj
  · intro u hu
    obtain ⟨c', _, rfl⟩ := List.mem_map.1 hu
    rfl
  · unfold maxLen; omega
  · omega
  · simp; omega
  · intro v' w' h1 h2 _
    have hsz := h2.size
    refine h v' w' ⟨?_, ?_⟩ ?_ ?_
    · rw [List.length_append, byV_app]; exact h1
    · simp at hsz; omega
    · exact ((Below.refl B w).alloc hB _).grown h2 (by simp; omega) (fun k hk => (hown.1.lt k hk).1)
    · exact (KeepB.below (below_alloc w _)).trans ((hown.alloc _).keeps h2)
/-- A text is appended. -/
theorem wp_apps {w : World} {ops : Array Oper} {rest : List Oper} {o : Oper} {a : Act} {Q : Exit → Act → World → Prop} (hgd : o.guard = none) (s x : Operand)
    (ho : o.op = .call { callee := .builtin .append, args := #[s, x], argTypes := #[52, 9] })
    (B : Nat) (v : Value) (l : List UInt8) (hs : a.eval s = v) (hown : OwnB w B v l) (t : ByteArray)
    (hx : a.eval x = .string t) (hlen : l.length + t.size ≤ 1099511627776)
    (h : ∀ v' w', OwnB w' B v' (l ++ t.data.toList) → Below B w w' → KeepB w w' → wpList Tryz.prog ops Q rest (a.put o.dst v') w') :
    wpList Tryz.prog ops Q (o :: rest) a w := by
  obtain ⟨i0, hi, hz0, hz1, hz2⟩ := info_parts info5
  have hB := hown.2
  refine Lib.wpList_append_own_string _ hgd s x 52 9 ho B 5 i0 Tryz.underlying52 Tryz.underlying9 hi hz0 hz1 hz2 v l.length (byV l) hs hown.1 t hx ?_ ?_ hB ?_
  · unfold maxLen; omega
  · omega
  · intro v' w' h1 h2 _
    have hsz := h2.size
    refine h v' w' ⟨?_, Nat.le_trans hB hsz⟩ (hown.grown h2) (hown.keeps h2)
    rw [List.length_append, byV_app, ← Lib.size_eq]; exact h1
/-- A row without elements is made. -/
theorem wp_make {w : World} {ops : Array Oper} {rest : List Oper} {o : Oper} {a : Act} {Q : Exit → Act → World → Prop} (hgd : o.guard = none) (x y : Operand) (ho : o.op = .makeSlice 52 x y)
    (B : Nat) (hB : B ≤ w.heap.size) (kl kc : IntKind) (C : Int) (n : Nat) (hl : a.eval x = .int kl 0) (hc : a.eval y = .int kc C) (hC : C = (n : Int)) (hn : n ≤ 1099511627776)
    (h : ∀ v' w', OwnB w' B v' [] → Below B w w' → KeepB w w' → wpList Tryz.prog ops Q rest (a.put o.dst v') w') :
    wpList Tryz.prog ops Q (o :: rest) a w := by
  obtain ⟨i0, hi, hz0, hz1, hz2⟩ := info_parts info5
  refine wpList_make_own w hgd x y 52 ho B 5 i0 (.int .u8 0) 1 Tryz.underlying52 hi hz0 hz1 kl kc C n hl hc hC (by rw [hz2]; omega) (by unfold maxLen; omega) hB ?_
  intro w' h1 h2
  have hsz := h2.size
  exact h _ w' ⟨h1, Nat.le_trans hB hsz⟩ ((Below.refl B w).grown h2 hB (fun k hk => by cases hk)) (fun g t cs _ x => (h2.block g (lt_of_heap x) (by simp)).trans x)

/-- A row of bytes is answered. -/
def RetOwn (B : Nat) (w : World) (l : List UInt8) (e : Ending) (w' : World) : Prop := ∃ v, e = .returned v ∧ OwnB w' B v l ∧ Below B w w' ∧ KeepB w w'

def be8 (n k : Nat) : UInt8 := UInt8.ofNat (n / 2 ^ (56 - 8 * k) % 256)
theorem beN8 (n : Nat) (_ : n < 2 ^ 64) : beN 8 n = (List.range 8).map (be8 n) := by
  have e : List.range 8 = [0, 1, 2, 3, 4, 5, 6, 7] := rfl
  rw [e]
  unfold be8
  simp only [beN, List.map_cons, List.map_nil, List.cons.injEq, and_true, Nat.reducePow, Nat.reduceMul, Nat.reduceSub]
  refine ⟨trivial, ?_, ?_, ?_, ?_, ?_, ?_, ?_⟩ <;> (refine congrArg UInt8.ofNat ?_; omega)
end Go.Proofs.YtnpnccjeapejdaaGreatDoor.Num
