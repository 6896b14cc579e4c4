/- Rows of the call's own: plain lemmas. No program is named. -/
import Derived.Test.YtolnojhepakaoaaBase
import Derived.WalkKit
import Derived.OwnWalk
namespace Go.Proofs.Ytolnojhepakaoaa
open Go.RowKit

theorem ownsRow_keeps {S : List Nat} {w w' : World} {base : Nat} {e : TypeId} {size : Nat} {v : Value} {n : Nat} {xs : List Value} (h : w.ownsRow base e size v n xs) (k : Keeps S w w') (hs : ∀ j, v.ownBlock = some j → j ∉ S) : w'.ownsRow base e size v n xs := by
  refine ⟨h.1, ?_⟩
  rcases h.2 with hn | ⟨g, cap, cur, rfl, hb, hgg, rest⟩
  · exact .inl hn
  · exact .inr ⟨g, cap, cur, rfl, hb, (k.block g (lt_of_block hgg) (hs g rfl)).trans hgg, rest⟩
theorem ownsRow_slice {w : World} {base : Nat} {e : TypeId} {size : Nat} {v : Value} {n : Nat} {xs : List Value} (h : w.ownsRow base e size v n xs) : ∃ ao cap, v = .slice ao n cap := by
  rcases h.2 with ⟨rfl, rfl⟩ | ⟨g, cap, _, rfl, _⟩
  · exact ⟨none, 0, rfl⟩
  · exact ⟨_, cap, rfl⟩

/-- The one cell of a block that has just been made. -/
theorem cell_new (w : World) (u : Value) (t : TypeId) : ∀ j x, [u][j]? = some x → (w.alloc (.cells #[u] t)).cell? ((⟨w.heap.size, 0, none⟩ : Addr).add j) = some x := by
  intro j x hj
  match j, hj with
  | 0, hj => simp at hj; subst hj; simp [Addr.add, World.cell?_alloc_new]
/-- An append of one element onto a row of the call's own: what was there when the call began is as it was. -/
theorem row_grown {w wr w1 : World} {base : Nat} {e : TypeId} {size : Nat} {v : Value} {n : Nat} {xs : List Value} {o : Obj} (hk : Keeps [] w wr) (hr : wr.ownsRow base e size v n xs) (hg : (wr.alloc o).grownBy w1 v.ownBlock) (hb : base = w.heap.size) : Keeps [] w w1 :=
  (hk.alloc o).grown hg (fun k hk2 => .inr (by have := (hr.lt k hk2).1; omega))
end Go.Proofs.Ytolnojhepakaoaa
