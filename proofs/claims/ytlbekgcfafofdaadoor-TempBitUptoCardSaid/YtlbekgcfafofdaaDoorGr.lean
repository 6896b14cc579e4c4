/- Worlds that have grown: found by instances. Bytes of a bounded number. -/
import Derived.Test.YtlbekgcfafofdaaDoorDc
import Derived.Laws.IdiomStrings
import Derived.Deep.RegionHeld3
import Derived.Deep.DeepCutAuto
namespace Go.Proofs.YtlbekgcfafofdaaDoor
open Go.RowKit
set_option maxRecDepth 100000

/-- One step of growth. -/
class Stp (a : outParam World) (b : World) : Prop where
  h : Below a.heap.size a b
class Gr (a b : World) : Prop where
  h : Below a.heap.size a b
instance (a : World) : Gr a a := ⟨Below.refl _ _⟩
instance (a b c : World) [s : Stp b c] [g : Gr a b] : Gr a c := ⟨g.h.trans (s.h.mono g.h.size)⟩
instance (w : World) (o : Obj) : Stp w (w.alloc o) := ⟨below_alloc w o⟩
instance (w : World) : Stp w w.drew := ⟨below_drewN w 1⟩
/-- A slice of bytes, of at most n. -/
structure Sm (W : World) (v : Value) (l : List UInt8) (n : Nat) : Prop where
  sl : SlB W v l
  len : l.length ≤ n
theorem Sm.gr {x W : World} {v : Value} {l : List UInt8} {n : Nat} (h : Sm x v l n) [g : Gr x W] : Sm W v l n := ⟨h.sl.below g.h, h.len⟩
theorem CellsAt.gr {x W : World} {b : Nat} {cs : List Value} (h : CellsAt x b cs) [g : Gr x W] : CellsAt W b cs := h.step g.h
def RetSm (w : World) (l : List UInt8) (n : Nat) (e : Ending) (w' : World) : Prop := ∃ v, e = .returned v ∧ Sm w' v l n ∧ Below w.heap.size w w'
theorem join_gr {x y W : World} {u v : Value} {a b : List UInt8} {n m : Nat} (ha : Sm x u a n) (hb : Sm y v b m) [gx : Gr x W] [gy : Gr y W] (hl : n + m ≤ 140737488355328) : Calls Tryd.prog 39 #[u, v] W (RetSm W (a ++ b) (n + m)) :=
  (join_ok u v a b W (ha.sl.below gx.h) (hb.sl.below gy.h) (by have := ha.len; have := hb.len; omega)).mono fun _ _ ⟨v', h1, h2, h3⟩ => ⟨v', h1, ⟨h2, by rw [List.length_append]; have := ha.len; have := hb.len; omega⟩, h3⟩
theorem big_gr (N : Nat) (hN4 : N = 2 ∨ N = 4 ∨ N = 8) (n : Nat) (hn : n < 18446744073709551616) (W : World) : Calls Tryd.prog 40 #[.int .u64 n, .int .i64 N] W (RetSm W (be N n) N) :=
  (bigbe_ok N hN4 n hn W).mono fun _ _ ⟨v', h1, h2, h3⟩ => ⟨v', h1, ⟨h2, by rw [be_len]; exact Nat.le_refl _⟩, h3⟩
theorem Sm.one (X : World) (z : Int) (c : UInt8) (hz : z = (c.toNat : Int)) : Sm (X.alloc (.cells #[.int .u8 z] 5)) (.slice (some ⟨X.heap.size, 0, none⟩) 1 1) [c] 1 := by
  subst hz
  refine ⟨⟨_, 1, rfl, (fun e => by cases e), Or.inr ⟨X.heap.size, 0, rfl, by simp, fun j u hu => ?_⟩⟩, Nat.le_refl _⟩
  have hj : j = 0 := by have := (List.getElem?_eq_some_iff.1 hu).1; simpa using this
  subst hj
  cases hu
  rw [World.cell?_alloc_at _ _ _ _ rfl]; rfl
theorem Sm.oneAt {X : World} {g : Nat} (z : Int) (c : UInt8) (hz : z = (c.toNat : Int)) (hg : X.heap.size = g) : Sm (X.alloc (.cells #[.int .u8 z] 5)) (.slice (some ⟨g, 0, none⟩) 1 1) [c] 1 := by
  subst hg
  exact Sm.one X z c hz
theorem Sm.at_ {W : World} {g g' n c : Nat} {l : List UInt8} {m : Nat} (h : Sm W (.slice (some ⟨g, 0, none⟩) n c) l m) (e : g = g') : Sm W (.slice (some ⟨g', 0, none⟩) n c) l m := e ▸ h
/-- A document's body under way. -/
def BdIn (w : World) (cs : List Value) (v : Value) (l : List UInt8) (n : Nat) (wx : World) : Prop := CellsAt wx w.heap.size cs ∧ Sm wx v l n ∧ Below w.heap.size w wx
/-- A text as bytes: some world that has grown by one row. -/
theorem conv_gr (s : ByteArray) : ∃ (cw : World → World) (cp : World → Nat), (∀ W, (convert 9 29 (.string s)).run Tryd.prog W = .ok (.slice (some ⟨W.heap.size, 0, none⟩) s.size (cp W)) (cw W)) ∧ (∀ W, Stp W (cw W)) ∧ (∀ W, Sm (cw W) (.slice (some ⟨W.heap.size, 0, none⟩) s.size (cp W)) s.data.toList s.size) := by
  refine ⟨fun w => w.drew.alloc (.cells (Go.bytesRow s (grownCap w s.size 0 5)) 5 ((Go.bytesRow s (grownCap w s.size 0 5)).size, (Go.bytesRow s (grownCap w s.size 0 5)).size + 1)), fun w => grownCap w s.size 0 5, fun W => Go.run_bytes_of_string W 9 29 5 s Tryd.underlying9 Tryd.underlying29 Tryd.underlying5, fun W => ⟨(below_drewN W 1).trans (below_alloc W.drew _)⟩, fun W => ?_⟩
  refine ⟨⟨_, grownCap W s.size 0 5, by rw [← Lib.size_eq], (fun e => by cases e), Or.inr ⟨W.heap.size, 0, rfl, by simp, fun j u hu => ?_⟩⟩, by rw [← Lib.size_eq]; exact Nat.le_refl _⟩
  rw [Nat.zero_add]
  have hj : j < s.data.size := by have := (List.getElem?_eq_some_iff.1 hu).1; simpa using this
  have hu2 : s.data[j] = u := by have := (List.getElem?_eq_some_iff.1 hu).2; simpa using this
  show (W.drew.alloc _).cell? ⟨W.drew.heap.size, j, none⟩ = _
  rw [Go.World.cell?_alloc_mark, Go.bytesRow_at s _ j hj, hu2]
end Go.Proofs.YtlbekgcfafofdaaDoor
