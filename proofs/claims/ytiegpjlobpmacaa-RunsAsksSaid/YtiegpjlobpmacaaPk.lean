/- The heap: NewHeap, Peek, and what an empty one answers. -/
import Derived.Test.YtiegpjlobpmacaaPq
namespace Go.Proofs.Ytiegpjlobpmacaa
open Go.RowKit
set_option maxRecDepth 100000
def NewR (w : World) (e : Ending) (w' : World) : Prop := e = .returned (.tuple #[.pointer (some ⟨w.heap.size, 0, none⟩), .int .i64 0]) ∧ (∀ F, HeapAt w' (w.heap.size + 1) w.heap.size (.slice none 0 0) F 0 0) ∧ Below w.heap.size w w' ∧ w'.heap.size = w.heap.size + 1
theorem new_ok (w : World) : Calls Try.prog 5 #[.func (.func 6) #[] #[]] w (NewR w) := by
  have hrun : ∀ w, Sem.run Try.prog (binOp BinOp.eql 29 (Value.func (.func 6) #[] #[]) Value.nilFunc) w = .ok (.bool false) w := fun _ => by kernel_rfl
  go_enter Try.func5, Try.ntmps5
  go_wp2_with fail
  exact bodyPost_ret (v := .tuple #[.pointer (some ⟨w.heap.size, 0, none⟩), .int .i64 0]) (by simp [results, Try.results5, go_sem]) rfl ⟨rfl, fun F => ⟨by omega, heap_alloc_new w _, ⟨World.ownsRow_nil _ _ _ _, by simp⟩⟩, below_alloc w _, by simp⟩
def NoneR (w : World) (e : Ending) (w' : World) : Prop := e = .returned (.tuple #[.agg #[.int .i64 0, .int .i64 0], .bool false]) ∧ Below w.heap.size w w'
theorem set_new (w : World) (cs : Array Value) (t : TypeId) (j : Nat) (x : Value) : (w.alloc (.cells cs t)).setCell ⟨w.heap.size, j, none⟩ x = w.alloc (.cells (cs.setIfInBounds j x) t) := World.setCell_alloc_at _ _ _ _ _ rfl
theorem peek_none {w : World} {B h P : Nat} {v : Value} {F : Nat → It} (H : HeapAt w B h v F 0 P) : Calls Try.prog 9 #[.pointer (some ⟨h, 0, none⟩)] w (NoneR w) := by
  have HH := Lib.hid H
  clear H
  go_enter Try.func9, Try.ntmps9
  go_wp2_with fail
  have H1 := Lib.hid (HH.out.below (below_alloc w (.cells #[.int .i64 0, .int .i64 0] 28)))
  refine (len_ok H1.out).mono ?_
  rintro e w1 ⟨rfl, rfl⟩
  go_wp2_with fail
  exact bodyPost_ret (v := .tuple #[.agg #[.int .i64 0, .int .i64 0], .bool false]) (by simp [results, Try.results9, go_sem]) rfl ⟨rfl, ((Below.refl _ _).alloc (Nat.le_refl _) _).alloc (by simp) _⟩
theorem pop_none {w : World} {B h P : Nat} {v : Value} {F : Nat → It} (H : HeapAt w B h v F 0 P) : Calls Try.prog 10 #[.pointer (some ⟨h, 0, none⟩)] w (NoneR w) := by
  have HH := Lib.hid H
  clear H
  go_enter Try.func10, Try.ntmps10
  go_wp2_with fail
  have H1 := Lib.hid ((HH.out.below (below_alloc w (.cells #[.int .i64 0, .int .i64 0] 28))).below (below_alloc _ (.cells #[.int .i64 0, .int .i64 0] 28)))
  refine (len_ok H1.out).mono ?_
  rintro e w1 ⟨rfl, rfl⟩
  go_wp2_with fail
  exact bodyPost_ret (v := .tuple #[.agg #[.int .i64 0, .int .i64 0], .bool false]) (by simp [results, Try.results10, go_sem]) rfl ⟨rfl, ((Below.refl _ _).alloc (Nat.le_refl _) _).alloc (by simp) _⟩
def PeekR (w : World) (x : It) (e : Ending) (w' : World) : Prop := e = .returned (.tuple #[.agg #[.int .i64 x.key, .int .i64 x.who], .bool true]) ∧ Below w.heap.size w w'
theorem peek_ok {w : World} {B h n P : Nat} {v : Value} {F : Nat → It} (H : HeapAt w B h v F n P) (hn : 0 < n) : Calls Try.prog 9 #[.pointer (some ⟨h, 0, none⟩)] w (PeekR w (F 0)) := by
  obtain ⟨g, cap, rfl, hBg, hgs⟩ := H.row.form hn
  have HH := Lib.hid H
  clear H
  have tn : (((n : Int)) == 0) = false := by simp; omega
  have tn2 : ((0 : Int)) < (n : Int) := by omega
  obtain ⟨x, hx⟩ : ∃ x, x = F 0 := ⟨_, rfl⟩
  have HX := Lib.hid hx
  rw [← hx]
  clear hx
  go_enter Try.func9, Try.ntmps9
  go_wp2_with fail
  have H1 := Lib.hid (HH.out.below (below_alloc w (.cells #[.int .i64 0, .int .i64 0] 28)))
  refine (len_ok H1.out).mono ?_
  rintro e w1 ⟨rfl, rfl⟩
  have R1 := Lib.hid (CellsAt.new w [.int .i64 0, .int .i64 0] 28)
  have B1 := Lib.hid (below_alloc w (.cells #[.int .i64 0, .int .i64 0] 28))
  change Hid (CellsAt (w.alloc (.cells #[.int .i64 0, .int .i64 0] 28)) w.heap.size _) at R1
  generalize w.alloc (.cells #[.int .i64 0, .int .i64 0] 28) = x1 at H1 R1 B1 ⊢
  have c1 := H1.out.cell 1 _ rfl
  have it := H1.out.row.items
  have k0 := it.k0 0 hn
  have k1 := it.k1 0 hn
  rw [← HX.out] at k0 k1
  have lg := it.lt
  have lh := lt_of_heap H1.out.blk
  have r0 := R1.out.cell 0 _ rfl
  have r1 := R1.out.cell 1 _ rfl
  have rf0 := R1.out.free 0
  have rf1 := R1.out.free 1
  have lr := R1.out.lt
  clear it
  go_wp2_with fail
  have E := Lib.hid ((R1.out.set 0 (.int .i64 x.key) (by simp)).set 1 (.int .i64 x.who) (by simp))
  have E0 := E.out.cell 0 _ rfl
  have E1 := E.out.cell 1 _ rfl
  exact bodyPost_ret (v := .tuple #[.agg #[.int .i64 x.key, .int .i64 x.who], .bool true]) (by simp [results, Try.results9, go_sem, E0, E1]) rfl ⟨rfl, (B1.out.setCell (p := ⟨w.heap.size, 0, none⟩) (Nat.le_refl _) _).setCell (p := ⟨w.heap.size, 1, none⟩) (Nat.le_refl _) _⟩
end Go.Proofs.Ytiegpjlobpmacaa
