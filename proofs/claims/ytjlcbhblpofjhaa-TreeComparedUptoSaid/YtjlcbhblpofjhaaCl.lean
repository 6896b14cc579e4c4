/- slices.Clone of sources and of elements; what is made. -/
import Derived.Test.YtjlcbhblpofjhaaSm
namespace Go.Proofs.Ytjlcbhblpofjhaa
open Go.RowKit
set_option maxRecDepth 100000
theorem heap_new (w : World) (o : Obj) : (w.alloc o).heap[w.heap.size]? = some o := by
  show (w.heap.push o)[w.heap.size]? = some o
  simp
theorem info25 : (Try.prog.info? 25).map (fun i => (i.zero, i.size, i.bytes)) = some (some .nilFunc, 1, 8) := by kernel_rfl
theorem info28 : (Try.prog.info? 28).map (fun i => (i.zero, i.size, i.bytes)) = some (some (.agg #[.int .i64 0, .int .i64 0]), 2, 16) := by kernel_rfl
theorem info89 : (Try.prog.info? 89).map (fun i => (i.zero, i.size, i.bytes)) = some (some (.agg #[.int .i64 0, .int .i64 0, .bool false]), 3, 24) := by kernel_rfl
theorem info3 : (Try.prog.info? 3).map (fun i => (i.zero, i.size, i.bytes)) = some (some (.int .i64 0), 1, 8) := by kernel_rfl
theorem info_parts {t : TypeId} {z : Value} {n b : Nat} (h : (Try.prog.info? t).map (fun i => (i.zero, i.size, i.bytes)) = some (some z, n, b)) : ∃ i, Try.prog.info? t = some i ∧ i.zero = some z ∧ i.size = n ∧ i.bytes = b := by
  cases hi : Try.prog.info? t with
  | none => rw [hi] at h; cases h
  | some i =>
    rw [hi] at h
    simp only [Option.map_some, Option.some.injEq, Prod.mk.injEq] at h
    exact ⟨i, rfl, h.1, h.2.1, h.2.2⟩
/-- A row of the call's own, of elements of any type. -/
def CloneR (e : TypeId) (size : Nat) (w : World) (n : Nat) (xs : List Value) (en : Ending) (w' : World) : Prop := ∃ v', en = .returned v' ∧ w'.ownsRow w.heap.size e size v' n xs ∧ Below w.heap.size w w'
theorem below_grown {w w' : World} {B : Nat} (hB : B ≤ w.heap.size) {v : Value} (g : w.grownBy w' v.ownBlock) (h : ∀ k, v.ownBlock = some k → B ≤ k) : Below B w w' := (Below.refl B w).grown g hB h
set_option maxHeartbeats 1600000 in
theorem clone_src (w : World) (ad : Addr) (n c : Nat) (xs : List Value) (hl : xs.length = n) (hx : ∀ j u, xs[j]? = some u → w.cell? (ad.add j) = some u) (h1 : ∀ u ∈ xs, u.oneCell' = true) (hn : n * 8 ≤ 140737488355328) :
    Calls Try.prog 39 #[.slice (some ad) n c] w (CloneR 25 1 w n xs) := by
  have hr : ∀ w, Sem.run Try.prog (binOp BinOp.eql 23 (Value.slice (some ad) n c) (Value.slice none 0 0)) w = .ok (.bool false) w := fun _ => by kernel_rfl
  have HL := Lib.hid hl
  have HX := Lib.hid (show ∀ j u, xs[j]? = some u → (w.alloc (.cells #[] 25)).cell? (ad.add j) = some u from fun j u hu => by
    have h := hx j u hu
    have lt : (ad.add j).block < w.heap.size := by
      rcases Nat.lt_or_ge (ad.add j).block w.heap.size with k | k
      · exact k
      · have : w.cell? (ad.add j) = none := by unfold World.cell?; rw [Array.getElem?_eq_none k]
        rw [this] at h; cases h
    exact ((below_alloc w _).cell lt).trans h)
  have H1 := Lib.hid h1
  have OW := Lib.hid (show (w.alloc (.cells #[] 25)).ownsRow w.heap.size 25 1 (.slice (some ⟨w.heap.size, 0, none⟩) 0 0) 0 [] from ⟨rfl, .inr ⟨w.heap.size, 0, #[], rfl, Nat.le_refl _, heap_new w _, Nat.le_refl _, by unfold maxLen; omega, rfl, rfl⟩⟩)
  obtain ⟨i0, hi, hz0, hz1, hz2⟩ := info_parts info25
  clear hl hx h1
  go_enter Try.func39, Try.ntmps39
  go_wp2_with (at_builtin; refine wpList_append_own _ rfl _ _ 23 rfl w.heap.size 25 i0 .nilFunc 1 8 Try.underlying23 hi hz0 hz1 hz2 rfl (by decide) _ 0 [] rfl OW.out ad n c xs rfl (by rw [HL.out, Nat.mul_one]) HX.out H1.out (by unfold maxLen; omega) (by omega) (by simp) ?_; intro v' w' h1 h2 _)
  have B1 := Lib.hid ((below_alloc w (.cells #[] 25)).trans (below_grown (B := w.heap.size) (by simp) h2 (fun k hk => by injection hk with hk; exact Nat.le_of_eq hk)))
  have O1 := Lib.hid h1
  rw [Nat.zero_add, List.nil_append] at O1
  clear h1 h2
  go_wp2_with fail
  go_ret
  exact ⟨v', rfl, O1.out, B1.out⟩
theorem clone_src_nil (w : World) : Calls Try.prog 39 #[.slice none 0 0] w (CloneR 25 1 w 0 []) := by
  have hr : ∀ w, Sem.run Try.prog (binOp BinOp.eql 23 (Value.slice none 0 0) (Value.slice none 0 0)) w = .ok (.bool true) w := fun _ => by kernel_rfl
  go_enter Try.func39, Try.ntmps39
  go_wp2_with fail
  go_ret
  exact ⟨_, rfl, World.ownsRow_nil _ _ _ _, Below.refl _ _⟩
set_option maxHeartbeats 1600000 in
theorem clone_it (w : World) (ad : Addr) (n c : Nat) (xs : List Value) (hl : xs.length = n * 2) (hx : ∀ j u, xs[j]? = some u → w.cell? (ad.add j) = some u) (h1 : ∀ u ∈ xs, u.oneCell' = true) (hn : n * 16 ≤ 140737488355328) :
    Calls Try.prog 35 #[.slice (some ad) n c] w (CloneR 28 2 w n xs) := by
  have hr : ∀ w, Sem.run Try.prog (binOp BinOp.eql 29 (Value.slice (some ad) n c) (Value.slice none 0 0)) w = .ok (.bool false) w := fun _ => by kernel_rfl
  have HL := Lib.hid hl
  have HX := Lib.hid (show ∀ j u, xs[j]? = some u → (w.alloc (.cells #[] 28)).cell? (ad.add j) = some u from fun j u hu => by
    have h := hx j u hu
    have lt : (ad.add j).block < w.heap.size := by
      rcases Nat.lt_or_ge (ad.add j).block w.heap.size with k | k
      · exact k
      · have : w.cell? (ad.add j) = none := by unfold World.cell?; rw [Array.getElem?_eq_none k]
        rw [this] at h; cases h
    exact ((below_alloc w _).cell lt).trans h)
  have H1 := Lib.hid h1
  have OW := Lib.hid (show (w.alloc (.cells #[] 28)).ownsRow w.heap.size 28 2 (.slice (some ⟨w.heap.size, 0, none⟩) 0 0) 0 [] from ⟨rfl, .inr ⟨w.heap.size, 0, #[], rfl, Nat.le_refl _, heap_new w _, Nat.le_refl _, by unfold maxLen; omega, rfl, rfl⟩⟩)
  obtain ⟨i0, hi, hz0, hz1, hz2⟩ := info_parts info28
  clear hl hx h1
  go_enter Try.func35, Try.ntmps35
  go_wp2_with (at_builtin; refine wpList_append_own _ rfl _ _ 29 rfl w.heap.size 28 i0 (.agg #[.int .i64 0, .int .i64 0]) 2 16 Try.underlying29 hi hz0 hz1 hz2 rfl (by decide) _ 0 [] rfl OW.out ad n c xs rfl (by rw [HL.out]) HX.out H1.out (by unfold maxLen; omega) (by omega) (by simp) ?_; intro v' w' h1 h2 _)
  have B1 := Lib.hid ((below_alloc w (.cells #[] 28)).trans (below_grown (B := w.heap.size) (by simp) h2 (fun k hk => by injection hk with hk; exact Nat.le_of_eq hk)))
  have O1 := Lib.hid h1
  rw [Nat.zero_add, List.nil_append] at O1
  clear h1 h2
  go_wp2_with fail
  go_ret
  exact ⟨v', rfl, O1.out, B1.out⟩
theorem clone_it_nil (w : World) : Calls Try.prog 35 #[.slice none 0 0] w (CloneR 28 2 w 0 []) := by
  have hr : ∀ w, Sem.run Try.prog (binOp BinOp.eql 29 (Value.slice none 0 0) (Value.slice none 0 0)) w = .ok (.bool true) w := fun _ => by kernel_rfl
  go_enter Try.func35, Try.ntmps35
  go_wp2_with fail
  go_ret
  exact ⟨_, rfl, World.ownsRow_nil _ _ _ _, Below.refl _ _⟩
theorem made_at (z : Array Value) (m j : Nat) (hj : j < m) : (madeCells z m)[j]? = some z[j % z.size]! := by
  unfold madeCells
  rw [Array.getElem?_map, Array.getElem?_range, if_pos hj]
  rfl
theorem make_hands (n : Nat) (hn : n ≤ 64) (w : World) : Sem.run Try.prog (Instr.makeSlice 78 (.int .i64 (n : Int)) (.int .i64 (n : Int))) w = .ok (.slice (some ⟨w.heap.size, 0, none⟩) n n) (w.alloc (.cells (madeCells #[.int .i64 0, .int .i64 0, .bool false] (n * 3)) 89)) := by
  obtain ⟨i0, hi, hz0, hz1, hz2⟩ := info_parts info89
  have r := run_make (w := w) 78 89 i0 (.agg #[.int .i64 0, .int .i64 0, .bool false]) Try.underlying78 hi hz0 .i64 .i64 (n : Int) (n : Int) (by omega) (by omega) (by rw [hz2]; omega) (by omega)
  rw [hz1] at r
  exact r
theorem make_losers (n : Nat) (hn : n ≤ 64) (w : World) : Sem.run Try.prog (Instr.makeSlice 41 (.int .i64 (n : Int)) (.int .i64 (n : Int))) w = .ok (.slice (some ⟨w.heap.size, 0, none⟩) n n) (w.alloc (.cells (madeCells #[.int .i64 0] n) 3)) := by
  obtain ⟨i0, hi, hz0, hz1, hz2⟩ := info_parts info3
  have r := run_make (w := w) 41 3 i0 (.int .i64 0) Try.underlying41 hi hz0 .i64 .i64 (n : Int) (n : Int) (by omega) (by omega) (by rw [hz2]; omega) (by omega)
  rw [hz1, Nat.mul_one] at r
  exact r
end Go.Proofs.Ytjlcbhblpofjhaa
