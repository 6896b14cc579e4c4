/- The file system's blocks in memory: what each holds, and what a call leaves alone. Plain definitions and lemmas on worlds; no program is named. -/
import Derived.WalkKit
import Derived.OneCell
import Derived.Lib.Hide
import Derived.Deep.QuietTactic
namespace Go.Proofs.Ytolnojhepakaoaa
open Go.RowKit

/-- All blocks but those in S are as they were. -/
structure Keeps (S : List Nat) (w w' : World) : Prop where
  os : w'.os = w.os
  tape : w'.tape = w.tape
  output : w'.output = w.output
  size : w.heap.size ≤ w'.heap.size
  block : ∀ k, k < w.heap.size → k ∉ S → w'.heap[k]? = w.heap[k]?

theorem Keeps.refl (S : List Nat) (w : World) : Keeps S w w := ⟨rfl, rfl, rfl, Nat.le_refl _, fun _ _ _ => rfl⟩
theorem Keeps.trans {S : List Nat} {a b c : World} (h : Keeps S a b) (k : Keeps S b c) : Keeps S a c :=
  ⟨k.os.trans h.os, k.tape.trans h.tape, k.output.trans h.output, Nat.le_trans h.size k.size, fun i hi hs => (k.block i (Nat.lt_of_lt_of_le hi h.size) hs).trans (h.block i hi hs)⟩
theorem Keeps.mono {S T : List Nat} {w w' : World} (h : Keeps S w w') (hs : ∀ k ∈ S, k ∈ T) : Keeps T w w' := ⟨h.os, h.tape, h.output, h.size, fun k hk hn => h.block k hk fun hm => hn (hs k hm)⟩
theorem Keeps.drew {S : List Nat} {a w : World} (h : Keeps S a w) : Keeps S a w.drew := ⟨h.os, h.tape, h.output, h.size, h.block⟩
theorem Keeps.alloc {S : List Nat} {a w : World} (h : Keeps S a w) (o : Obj) : Keeps S a (w.alloc o) :=
  h.trans ⟨rfl, rfl, rfl, by simp, fun k hk _ => Below.heap_alloc _ _ _ hk⟩
theorem Keeps.setCell {S : List Nat} {a w : World} (h : Keeps S a w) {p : Addr} (hp : p.block ∈ S) (u : Value) : Keeps S a (w.setCell p u) :=
  h.trans ⟨rfl, rfl, rfl, by simp [World.setCell], fun k _ hn => Below.heap_setCell _ _ _ _ (fun e => hn (e ▸ hp))⟩
/-- A store into a block that is new. -/
theorem Keeps.setNew {S : List Nat} {a w : World} (h : Keeps S a w) {p : Addr} (hp : a.heap.size ≤ p.block) (u : Value) : Keeps S a (w.setCell p u) :=
  ⟨h.os, h.tape, h.output, by simpa [World.setCell] using h.size, fun k hk hn => (Below.heap_setCell _ _ _ _ (by omega)).trans (h.block k hk hn)⟩
theorem Keeps.grown {S : List Nat} {a w w' : World} {row : Option Nat} (h : Keeps S a w) (hg : w.grownBy w' row) (hr : ∀ k, row = some k → k ∈ S ∨ a.heap.size ≤ k) : Keeps S a w' :=
  ⟨hg.os.trans h.os, hg.tape.trans h.tape, hg.output.trans h.output, Nat.le_trans h.size hg.size, fun k hk hn => (hg.block k (Nat.lt_of_lt_of_le hk h.size) (fun e => by
    rcases hr k e.symm with h' | h'
    · exact hn h'
    · omega)).trans (h.block k hk hn)⟩

theorem heap_set {w : World} {b i : Nat} {c : Array Value} {T : TypeId} {f : Nat × Nat} (h : w.heap[b]? = some (.cells c T f)) (v : Value) : (w.setCell ⟨b, i, none⟩ v).heap[b]? = some (.cells (c.setIfInBounds i v) T f) := by
  have hlt := lt_of_block h
  have h' : w.heap[b] = .cells c T f := by simpa [Array.getElem?_eq_getElem hlt] using h
  show (w.heap.modify b _)[b]? = _
  rw [Array.getElem?_eq_getElem (by simpa using hlt), Array.getElem_modify_self, h']
  rfl
theorem heap_set_ne {w : World} {b : Nat} {a : Addr} (h : b ≠ a.block) (v : Value) : (w.setCell a v).heap[b]? = w.heap[b]? := Below.heap_setCell _ _ _ _ h
theorem cell_of {w : World} {b i : Nat} {c : Array Value} {T : TypeId} {f : Nat × Nat} (h : w.heap[b]? = some (.cells c T f)) : w.cell? ⟨b, i, none⟩ = c[i]? := by simp [World.cell?, h]
theorem free_of {w : World} {b i : Nat} {c : Array Value} {T : TypeId} (h : w.heap[b]? = some (.cells c T (0, 0))) : w.frozen? ⟨b, i, none⟩ = false := by simp [World.frozen?, h]

/-- What the system's own block says. -/
structure FSt where
  mb : Int
  mf : Int
  mh : Int
  pc : Int
  pf : Int
  ph : Int
  sh : Value
  fa : Value
  pi : Int
  pp : Int
  mp : Nat
  calls : Int
  ops : Nat → Int
  made : Int
  written : Int
  opn : Int
  peak : Int
  used : Int
  most : Int
  stp : Bool
  drk : Bool
  done : Value
  life : Int

/-- The block's cells, the lock's word being l. -/
def FSt.arr (l : Int) (s : FSt) : Array Value := #[.int .i32 l, .int .u32 0, .int .i64 s.mb, .int .i64 s.mf, .int .i64 s.mh, .int .i64 s.pc, .int .i64 s.pf, .int .i64 s.ph, s.sh, s.fa, .int .i64 s.pi, .int .i64 s.pp, .map (some s.mp), .int .i64 s.calls,
  .int .i64 (s.ops 0), .int .i64 (s.ops 1), .int .i64 (s.ops 2), .int .i64 (s.ops 3), .int .i64 (s.ops 4), .int .i64 (s.ops 5), .int .i64 (s.ops 6), .int .i64 (s.ops 7), .int .i64 (s.ops 8),
  .int .i64 s.made, .int .i64 s.written, .int .i64 s.opn, .int .i64 s.peak, .int .i64 s.used, .int .i64 s.most, .bool s.stp, .bool s.drk, s.done, .int .i64 s.life]

/-- The system's block. -/
def FsAt (w : World) (b : Nat) (l : Int) (s : FSt) : Prop := w.heap[b]? = some (.cells (s.arr l) 93 (0, 0))

theorem FsAt.ops {w : World} {b : Nat} {l : Int} {s : FSt} (h : FsAt w b l s) {k : Nat} (hk : k < 9) : w.cell? ⟨b, 14 + k, none⟩ = some (.int .i64 (s.ops k)) := by
  rw [cell_of h]
  match k, hk with
  | 0, _ | 1, _ | 2, _ | 3, _ | 4, _ | 5, _ | 6, _ | 7, _ | 8, _ => rfl

def upd (f : Nat → Int) (k : Nat) (v : Int) : Nat → Int := fun j => if j = k then v else f j
theorem arr_ops (l : Int) (s : FSt) {k : Nat} (hk : k < 9) (v : Int) : (s.arr l).setIfInBounds (14 + k) (.int .i64 v) = FSt.arr l { s with ops := upd s.ops k v } := by
  match k, hk with
  | 0, _ | 1, _ | 2, _ | 3, _ | 4, _ | 5, _ | 6, _ | 7, _ | 8, _ => rfl

theorem FsAt.cell {w : World} {b : Nat} {l : Int} {s : FSt} (h : FsAt w b l s) (i : Nat) : w.cell? ⟨b, i, none⟩ = (s.arr l)[i]? := cell_of h
theorem FsAt.free {w : World} {b : Nat} {l : Int} {s : FSt} (h : FsAt w b l s) (i : Nat) : w.frozen? ⟨b, i, none⟩ = false := free_of h
theorem FsAt.set {w : World} {b : Nat} {l l' : Int} {s s' : FSt} (h : FsAt w b l s) (i : Nat) (v : Value) (e : (s.arr l).setIfInBounds i v = s'.arr l') : FsAt (w.setCell ⟨b, i, none⟩ v) b l' s' := by
  unfold FsAt; rw [heap_set h, e]
theorem Keeps.drewN {S : List Nat} {a w : World} (h : Keeps S a w) (n : Nat) : Keeps S a (w.drewN n) := ⟨h.os, h.tape, h.output, h.size, h.block⟩
theorem FsAt.ofDrewN {w w' : World} {n b : Nat} {l : Int} {s : FSt} (h : FsAt w b l s) (e : w.drewN n = w') : FsAt w' b l s := by rw [← e]; exact h
theorem Keeps.ofDrewN {S : List Nat} {a w w' : World} {n : Nat} (h : Keeps S a w) (e : w.drewN n = w') : Keeps S a w' := by rw [← e]; exact h.drewN n
theorem FsAt.drew {w : World} {b : Nat} {l : Int} {s : FSt} (h : FsAt w b l s) : FsAt w.drew b l s := h


def FSt.called (s : FSt) (k : Nat) (d : Bool) : FSt := { s with calls := s.calls + 1, ops := upd s.ops k (s.ops k + 1), drk := d }
end Go.Proofs.Ytolnojhepakaoaa
