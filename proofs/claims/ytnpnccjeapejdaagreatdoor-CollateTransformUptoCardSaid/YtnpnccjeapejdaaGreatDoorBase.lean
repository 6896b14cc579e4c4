/- Keys, words and blocks in memory. -/
import Derived.Test.YtnpnccjeapejdaaGreatDoorProg
import Derived.WalkKit
import Derived.Below
import Derived.OwnWalk
import Derived.Laws.OwnMore
import Derived.Laws.AppendOwnNone
import Derived.Deep.AppendLies
import Derived.Lib.Hide
import Derived.RowKit3
namespace Go.Proofs.YtnpnccjeapejdaaGreatDoor
open Go.RowKit

theorem bcell {W w1 : World} {B : Nat} (hb : RowKit.Below B W w1) : (∀ b o, b < B → w1.cell? ⟨b, o, none⟩ = W.cell? ⟨b, o, none⟩) ∧ (∀ b o, b < B → w1.frozen? ⟨b, o, none⟩ = W.frozen? ⟨b, o, none⟩) :=
  ⟨fun b o h => hb.cell (p := ⟨b, o, none⟩) h, fun b o h => hb.frozen (p := ⟨b, o, none⟩) h⟩

/-- A block whose cells are known, and may be written. -/
structure CellsAt (w : World) (b : Nat) (vs : List Value) : Prop where
  lt : b < w.heap.size
  cell : ∀ (j : Nat) v, vs[j]? = some v → w.cell? ⟨b, j, none⟩ = some v
  free : ∀ j, w.frozen? ⟨b, j, none⟩ = false
theorem CellsAt.keep {w w' : World} {B b : Nat} {vs : List Value} (h : CellsAt w b vs) (k : Below B w w') (hb : b < B) : CellsAt w' b vs :=
  ⟨Nat.lt_of_lt_of_le h.lt k.size, fun j v hv => ((bcell k).1 b j hb).trans (h.cell j v hv), fun j => ((bcell k).2 b j hb).trans (h.free j)⟩
theorem CellsAt.step {w w' : World} {b : Nat} {vs : List Value} (h : CellsAt w b vs) (k : Below w.heap.size w w') : CellsAt w' b vs := h.keep k h.lt
theorem CellsAt.new (w : World) (vs : List Value) (t : TypeId) : CellsAt (w.alloc (.cells vs.toArray t)) w.heap.size vs :=
  ⟨by simp, fun j v hv => by rw [World.cell?_alloc_at _ _ _ _ rfl]; simpa using hv, fun j => by simp⟩
theorem CellsAt.set {w : World} {b : Nat} {vs : List Value} (h : CellsAt w b vs) (j : Nat) (x : Value) (hj : j < vs.length) : CellsAt (w.setCell ⟨b, j, none⟩ x) b (vs.set j x) := by
  refine ⟨by simpa using h.lt, fun i v hv => ?_, fun i => by rw [World.frozen?_setCell]; exact h.free i⟩
  rw [List.getElem?_set] at hv
  by_cases e : j = i
  · subst e
    rw [if_pos rfl, if_pos hj] at hv
    cases hv
    exact World.cell?_setCell_same _ _ _ (h.cell j vs[j] (List.getElem?_eq_getElem hj))
  · rw [if_neg e] at hv
    rw [World.cell?_setCell_other _ _ _ _ (by simp; try omega)]
    exact h.cell i v hv
theorem CellsAt.other {w : World} {b c : Nat} {vs : List Value} (h : CellsAt w b vs) (hc : c ≠ b) (j : Nat) (x : Value) : CellsAt (w.setCell ⟨c, j, none⟩ x) b vs :=
  ⟨by simpa using h.lt, fun i v hv => by rw [World.cell?_setCell_other _ _ _ _ (fun e => hc (congrArg Addr.block e))]; exact h.cell i v hv, fun i => by rw [World.frozen?_setCell]; exact h.free i⟩
theorem CellsAt.alloc {w : World} {b : Nat} {vs : List Value} (h : CellsAt w b vs) (o : Obj) : CellsAt (w.alloc o) b vs := h.step ((Below.refl _ _).alloc (Nat.le_refl _) o)

/-- A key. -/
structure KeyL where
  f : Int
  c : Int
  ef : Int
  ec : Int
  m : Nat
  b : Bool
def kc (k : KeyL) : List Value := [.int .i64 k.f, .int .i64 k.c, .int .i64 k.ef, .int .i64 k.ec, .int .u16 k.m, .bool k.b]
def ksV (ks : List KeyL) : List Value := ks.flatMap kc
theorem ksV_len (ks : List KeyL) : (ksV ks).length = ks.length * 6 := by
  unfold ksV
  induction ks with
  | nil => rfl
  | cons k r ih => rw [List.flatMap_cons, List.length_append, ih, List.length_cons]; unfold kc; simp; omega
theorem ksV_one (ks : List KeyL) : ∀ u ∈ ksV ks, u.oneCell' = true := by
  intro u hu
  obtain ⟨k, _, hk⟩ := List.mem_flatMap.1 hu
  unfold kc at hk
  simp only [List.mem_cons, List.mem_nil_iff, or_false] at hk
  rcases hk with rfl | rfl | rfl | rfl | rfl | rfl <;> rfl
def wsV (l : List ByteArray) : List Value := l.map Value.string
/-- A slice whose cells read so. -/
def SlAt (w : World) (B : Nat) (v : Value) (size n : Nat) (xs : List Value) : Prop :=
  xs.length = n * size ∧ (((v = .slice none 0 0 ∨ ∃ ad c, v = .slice (some ad) 0 c) ∧ n = 0) ∨ ∃ b off c, v = .slice (some ⟨b, off, none⟩) n c ∧ b < B ∧ ∀ j u, xs[j]? = some u → w.cell? ⟨b, off + j, none⟩ = some u)
theorem add_plain (b off j : Nat) : (⟨b, off, none⟩ : Addr).add j = ⟨b, off + j, none⟩ := by unfold Addr.add; split <;> simp_all
theorem SlAt.keep {w w' : World} {B C : Nat} {v : Value} {size n : Nat} {xs : List Value} (h : SlAt w B v size n xs) (k : Below C w w') (hB : B ≤ C) : SlAt w' B v size n xs := by
  refine ⟨h.1, ?_⟩
  rcases h.2 with ⟨h1, h2⟩ | ⟨b, off, c, hv, hb, hc⟩
  · exact Or.inl ⟨h1, h2⟩
  · exact Or.inr ⟨b, off, c, hv, hb, fun j u hu => (k.cell (p := ⟨b, off + j, none⟩) (show b < C by omega)).trans (hc j u hu)⟩
theorem SlAt.mono {w : World} {B C : Nat} {v : Value} {size n : Nat} {xs : List Value} (h : SlAt w B v size n xs) (hB : B ≤ C) : SlAt w C v size n xs := by
  refine ⟨h.1, ?_⟩
  rcases h.2 with ⟨h1, h2⟩ | ⟨b, off, c, hv, hb, hc⟩
  · exact Or.inl ⟨h1, h2⟩
  · exact Or.inr ⟨b, off, c, hv, by omega, hc⟩

theorem infoK : (Tryz.prog.info? 54).map (fun i => (i.zero, i.size, i.bytes)) = some (some (.agg #[.int .i64 0, .int .i64 0, .int .i64 0, .int .i64 0, .int .u16 0, .bool false]), 6, 40) := by kernel_rfl
theorem own_slice {w : World} {B : Nat} {e : TypeId} {size n : Nat} {v : Value} {xs : List Value} (h : w.ownsRow B e size v n xs) : ∃ ao cap, v = .slice ao n cap := by
  rcases h.2 with ⟨rfl, rfl⟩ | ⟨g, cap, _, rfl, _⟩
  · exact ⟨none, 0, rfl⟩
  · exact ⟨_, cap, rfl⟩
/-- A row of the call's own is a copy of what comes in. -/
theorem wp_copyK {w : World} {ops : Array Oper} {rest : List Oper} {o : Oper} {a : Act} {Q : Exit → Act → World → Prop} (hgd : o.guard = none) (s x : Operand)
    (ho : o.op = .call { callee := .builtin .append, args := #[s, x], argTypes := #[22, 22] })
    (B : Nat) (hB : B ≤ w.heap.size) (hs : a.eval s = .slice none 0 0) (v : Value) (hx : a.eval x = v) (ks : List KeyL) (C : Nat) (hv : SlAt w C v 6 ks.length (ksV ks)) (hlen : ks.length * 40 ≤ 140737488355328)
    (h : ∀ v' w', w'.ownsRow B 54 6 v' ks.length (ksV ks) → Below w.heap.size w w' → wpList Tryz.prog ops Q rest (a.put o.dst v') w') :
    wpList Tryz.prog ops Q (o :: rest) a w := by
  obtain ⟨i0, hi, hz0, hz1, hz2⟩ := info_parts infoK
  rcases hv.2 with ⟨hv1, hn⟩ | ⟨b, off, c, hv1, _, hc⟩
  · have hk : ks = [] := List.eq_nil_of_length_eq_zero hn
    subst hk
    rcases hv1 with hv1 | ⟨ad, c, hv1⟩
    · refine wpList_append_own_none hgd s x 22 ho B 54 i0 6 Tryz.underlying22 hi _ 0 [] hs (World.ownsRow_nil _ _ _ _) (by rw [hx, hv1]) ?_
      exact h _ w (World.ownsRow_nil _ _ _ _) (Below.refl _ _)
    · refine wpList_append_own _ hgd s x 22 ho B 54 i0 _ 6 40 Tryz.underlying22 hi hz0 hz1 hz2 rfl (by decide) _ 0 [] hs (World.ownsRow_nil _ _ _ _) ad 0 c [] (by rw [hx, hv1]) rfl (fun j u hu => by cases hu) (fun u hu => by cases hu) (by simp) (by simp) hB ?_
      intro v' w' h1 h2 _
      refine h v' w' (by simpa [ksV] using h1) ⟨h2.os, h2.tape, h2.output, h2.size, fun k hk => h2.block k hk (by simp [Value.ownBlock])⟩
  · refine wpList_append_own _ hgd s x 22 ho B 54 i0 _ 6 40 Tryz.underlying22 hi hz0 hz1 hz2 rfl (by decide) _ 0 [] hs (World.ownsRow_nil _ _ _ _) ⟨b, off, none⟩ ks.length c (ksV ks) (by rw [hx, hv1]) (ksV_len ks) (fun j u hu => by rw [add_plain]; exact hc j u hu) (ksV_one ks) (by unfold maxLen; omega) (by omega) hB ?_
    intro v' w' h1 h2 _
    refine h v' w' (by simpa using h1) ⟨h2.os, h2.tape, h2.output, h2.size, fun k hk => h2.block k hk (by simp [Value.ownBlock])⟩
end Go.Proofs.YtnpnccjeapejdaaGreatDoor
