/- strings.Builder: copyCheck, WriteByte, WriteString. -/
import Derived.Test.YtlohgcdonenmeaaDoorBa
import Derived.Shelf.Strings.BuilderK
import Derived.Lib.FrozenHead2
import Derived.Lib.OthersKept
import Derived.WalkKit
import Derived.WalkSpells
import Derived.WalkLawsBesides
import Derived.Below
import Derived.OwnWalk
import Derived.Laws.OwnMore
import Derived.Laws.Runes
import Derived.Lib.AppendStr
import Derived.Lib.Hide
import Derived.Deep.QuietTactic
import Derived.BigQuiet
import Derived.IntWalk
import Derived.RowKit3
namespace Go.Proofs.YtlohgcdonenmeaaDoor
open Go.RowKit
set_option maxRecDepth 100000


theorem size36 : (Tryd.prog.info? 36).map (·.size) = some 2 := by kernel_rfl

set_option maxHeartbeats 1000000 in
theorem check_used (b : Nat) (w : World) (h0 : w.cell? ⟨b, 0, none⟩ = some (.pointer (some ⟨b, 0, none⟩))) :
    Calls Tryd.prog 21 #[.pointer (some ⟨b, 0, none⟩)] w fun e w' => e = .returned (.tuple #[]) ∧ w' = w := by
  obtain ⟨j, hj, _⟩ := Option.map_eq_some_iff.1 size36
  go_enter Tryd.func21, Tryd.ntmps21
  go_wp2
  rw [Lib.run_neq_ptr_same w _ Tryd.underlying33 hj]
  go_wp2
  go_end0
  exact ⟨rfl, rfl⟩
set_option maxHeartbeats 1000000 in
theorem check_fresh (b : Nat) (w : World) (h0 : w.cell? ⟨b, 0, none⟩ = some (.pointer none)) (hsh : w.shape? b = some (36, 2)) (hfz : w.frozen? ⟨b, 0, none⟩ = false) :
    Calls Tryd.prog 21 #[.pointer (some ⟨b, 0, none⟩)] w fun e w' => e = .returned (.tuple #[]) ∧ w' = w.setCell ⟨b, 0, none⟩ (.pointer (some ⟨b, 0, none⟩)) := by
  obtain ⟨j, hj, hjs⟩ := Option.map_eq_some_iff.1 size36
  go_enter Tryd.func21, Tryd.ntmps21
  go_wp2
  rw [Lib.run_to_unsafe w ⟨b, 0, none⟩ Tryd.underlying33 Tryd.underlying51 hj (by rw [hjs]; decide) hsh (Nat.zero_lt_succ 1)]
  simp only [Result.andThen]
  rw [Oper.upon_value]
  go_wp2
  rw [run_callFunc_extern Tryd.func23 (by kernel_rfl) (by kernel_rfl) (by kernel_rfl) (e := Extern.AbiNoEscape.same) (by kernel_rfl)]
  rw [Lib.run_noEscape]
  simp only [Result.andThen]
  rw [Oper.upon_value]
  go_wp2
  rw [Lib.run_from_unsafe w ⟨b, 0, none⟩ Tryd.underlying51 Tryd.underlying33 hj hsh (by kernel_rfl)]
  simp only [Result.andThen]
  rw [Oper.upon_value]
  go_wp2
  go_end0
  exact ⟨rfl, rfl⟩

/-- A builder of one's own in block b, whose row lies from base on; the first cell is its address, once it has been written to. -/
def BAt (w : World) (b base : Nat) (u : Bool) (l : List UInt8) : Prop :=
  b < base ∧ ∃ v, w.heap[b]? = some (.cells #[.pointer (if u then some ⟨b, 0, none⟩ else none), v] 36 (0, 0)) ∧ OwnB w base v l
/-- What a call leaves. -/
structure Stay (b base : Nat) (w w' : World) : Prop where
  below : Below b w w'
  row : ∀ k, b < k → k < base → w'.heap[k]? = w.heap[k]?
theorem Stay.refl (b base : Nat) (w : World) : Stay b base w w := ⟨Below.refl _ _, fun _ _ _ => rfl⟩
theorem Stay.trans {b base : Nat} {u v w : World} (h : Stay b base u v) (k : Stay b base v w) : Stay b base u w :=
  ⟨h.below.trans k.below, fun i a c => (k.row i a c).trans (h.row i a c)⟩
theorem Stay.of {b base : Nat} {w w' : World} (h : Below base w w') (hb : b < base) : Stay b base w w' :=
  ⟨h.mono (Nat.le_of_lt hb), fun k _ hk => h.block k hk⟩
theorem heap_set (w : World) (a : Addr) (x : Value) (k : Nat) (h : k ≠ a.block) : (w.setCell a x).heap[k]? = w.heap[k]? := Below.heap_setCell _ _ _ _ h
theorem Stay.set {b base : Nat} (w : World) (j : Nat) (x : Value) : Stay b base w (w.setCell ⟨b, j, none⟩ x) :=
  ⟨(Below.refl b w).setCell (p := ⟨b, j, none⟩) (Nat.le_refl _) x, fun k h _ => heap_set w ⟨b, j, none⟩ x k (by show k ≠ b; omega)⟩
theorem OwnB.other {w : World} {base b j : Nat} {v x : Value} {l : List UInt8} (h : OwnB w base v l) (hb : b < base) : OwnB (w.setCell ⟨b, j, none⟩ x) base v l := by
  refine ⟨⟨h.1.1, ?_⟩, by have := h.2; simpa using this⟩
  rcases h.1.2 with hn | ⟨g, cap, cur, hv, hg, hgg, rest⟩
  · exact .inl hn
  · exact .inr ⟨g, cap, cur, hv, hg, (heap_set w ⟨b, j, none⟩ x g (by show g ≠ b; omega)).trans hgg, rest⟩
theorem BAt.keep {w w' : World} {b base : Nat} {u : Bool} {l : List UInt8} (h : BAt w b base u l) (k : Below w.heap.size w w') : BAt w' b base u l := by
  obtain ⟨hb, v, h1, h2⟩ := h
  exact ⟨hb, v, (k.block b (lt_of_heap h1)).trans h1, h2.below k⟩
theorem shape_of {w : World} {b : Nat} {p v : Value} (h : w.heap[b]? = some (.cells #[p, v] 36 (0, 0))) : w.shape? b = some (36, 2) := by simp [World.shape?, h]
theorem check_ok (b base : Nat) (u : Bool) (l : List UInt8) (w : World) (h : BAt w b base u l) :
    Calls Tryd.prog 21 #[.pointer (some ⟨b, 0, none⟩)] w fun e w' => e = .returned (.tuple #[]) ∧ BAt w' b base true l ∧ Stay b base w w' := by
  obtain ⟨hb, v, h1, h2⟩ := h
  cases u with
  | false =>
    refine (check_fresh b w (by rw [Lib.cell_of_heap h1]; rfl) (shape_of h1) (Lib.frozen_of_heap h1 0)).mono ?_
    rintro e w' ⟨rfl, rfl⟩
    exact ⟨rfl, ⟨hb, v, by simp [World.setCell, Array.getElem?_modify, h1], h2.other hb⟩, Stay.set w 0 _⟩
  | true =>
    refine (check_used b w (by rw [Lib.cell_of_heap h1]; rfl)).mono ?_
    rintro e w' ⟨rfl, rfl⟩
    exact ⟨rfl, ⟨hb, v, h1, h2⟩, Stay.refl _ _ _⟩

set_option maxHeartbeats 2000000 in
theorem put_byte (b base : Nat) (u : Bool) (l : List UInt8) (c : UInt8) (w : World) (h : BAt w b base u l) (hlen : l.length + 1 ≤ 140737488355328) :
    Calls Tryd.prog 16 #[.pointer (some ⟨b, 0, none⟩), .int .u8 c.toNat] w fun e w' => e = .returned .nilIface ∧ BAt w' b base true (l ++ [c]) ∧ Stay b base w w' := by
  go_enter Tryd.func16, Tryd.ntmps16
  go_wp2_with (go_at_call 21; refine (check_ok b base u l _ h).mono ?_)
  rintro e w1 ⟨rfl, h1, k1⟩
  clear h
  obtain ⟨hB, v, hbk, hown⟩ := h1
  have HO := Lib.hid hown
  have c1 : w1.cell? ⟨b, 1, none⟩ = some v := by rw [Lib.cell_of_heap hbk]; rfl
  have HK := Lib.hid hbk
  clear hown hbk
  go_wp2_with (at_builtin; refine wp_app rfl _ _ rfl base v l rfl HO.out [c] _ rfl rfl (by simpa using hlen) ?_)
  intro v' w2 hown' hb2 _
  have hbk2 : w2.heap[b]? = some (.cells #[.pointer (some ⟨b, 0, none⟩), v] 36 (0, 0)) := (hb2.block b hB).trans HK.out
  have d1 : w2.cell? ⟨b, 1, none⟩ = some v := by rw [Lib.cell_of_heap hbk2]; rfl
  have f1 : w2.frozen? ⟨b, 1, none⟩ = false := Lib.frozen_of_heap hbk2 1
  obtain ⟨ao, n', cap, rfl⟩ : ∃ ao n' cap, v' = .slice ao n' cap := by
    rcases hown'.1.2 with ⟨hv, _⟩ | ⟨g, cap, cur, hv, _⟩
    · exact ⟨_, _, _, hv⟩
    · exact ⟨_, _, _, hv⟩
  go_wp2
  go_ret
  refine ⟨rfl, ⟨hB, _, by simp [World.setCell, Array.getElem?_modify, hbk2], hown'.other hB⟩, k1.trans ((Stay.of hb2 hB).trans (Stay.set _ _ _))⟩

set_option maxHeartbeats 2000000 in
theorem put_str (b base : Nat) (u : Bool) (l : List UInt8) (s : ByteArray) (w : World) (h : BAt w b base u l) (hlen : l.length + s.size ≤ 140737488355328) :
    Calls Tryd.prog 15 #[.pointer (some ⟨b, 0, none⟩), .string s] w fun e w' => e = .returned (.tuple #[.int .i64 s.size, .nilIface]) ∧ BAt w' b base true (l ++ s.data.toList) ∧ Stay b base w w' := by
  go_enter Tryd.func15, Tryd.ntmps15
  go_wp2_with (go_at_call 21; refine (check_ok b base u l _ h).mono ?_)
  rintro e w1 ⟨rfl, h1, k1⟩
  clear h
  obtain ⟨hB, v, hbk, hown⟩ := h1
  have HO := Lib.hid hown
  have c1 : w1.cell? ⟨b, 1, none⟩ = some v := by rw [Lib.cell_of_heap hbk]; rfl
  have HK := Lib.hid hbk
  clear hown hbk
  go_wp2_with (at_builtin; refine wp_apps rfl _ _ rfl base v l rfl HO.out s rfl hlen ?_)
  intro v' w2 hown' hb2 _
  have hbk2 : w2.heap[b]? = some (.cells #[.pointer (some ⟨b, 0, none⟩), v] 36 (0, 0)) := (hb2.block b hB).trans HK.out
  have d1 : w2.cell? ⟨b, 1, none⟩ = some v := by rw [Lib.cell_of_heap hbk2]; rfl
  have f1 : w2.frozen? ⟨b, 1, none⟩ = false := Lib.frozen_of_heap hbk2 1
  obtain ⟨ao, n', cap, rfl⟩ : ∃ ao n' cap, v' = .slice ao n' cap := by
    rcases hown'.1.2 with ⟨hv, _⟩ | ⟨g, cap, cur, hv, _⟩
    · exact ⟨_, _, _, hv⟩
    · exact ⟨_, _, _, hv⟩
  go_wp2
  go_ret2
  refine ⟨rfl, ⟨hB, _, by simp [World.setCell, Array.getElem?_modify, hbk2], hown'.other hB⟩, k1.trans ((Stay.of hb2 hB).trans (Stay.set _ _ _))⟩
/-- What it holds, as text. -/
theorem str_ok (b base : Nat) (u : Bool) (l : List UInt8) (w : World) (h : BAt w b base u l) :
    Calls Tryd.prog 17 #[.pointer (some ⟨b, 0, none⟩)] w fun e w' => e = .returned (.string (bs l)) ∧ Below b w w' := by
  obtain ⟨hB, v, hbk, hown⟩ := h
  have hI : Lib.IsBuilder 36 5 b b (Lib.byteCells l) w := by
    have ho : w.ownsRow b 5 1 v (Lib.byteCells l).length (Lib.byteCells l) := by
      refine ⟨by simp [Lib.byteCells], ?_⟩
      rcases hown.1.2 with ⟨a, c⟩ | ⟨g, cap, cur, hv, hg, rest⟩
      · exact .inl ⟨a, by simpa [Lib.byteCells] using c⟩
      · exact .inr ⟨g, cap, cur, by simpa [Lib.byteCells] using hv, by omega, by simpa [Lib.byteCells, byV] using rest⟩
    have hne : v.ownBlock ≠ some b := by
      rcases hown.1.2 with ⟨rfl, _⟩ | ⟨g, cap, cur, rfl, hg, _⟩
      · simp [Value.ownBlock]
      · simp [Value.ownBlock]; omega
    cases u with
    | false => exact .inl ⟨Nat.le_refl _, v, hbk, ho, hne⟩
    | true => exact .inr ⟨Nat.le_refl _, v, hbk, ho, hne⟩
  exact Tryd.Builder_String_any b b l w hI (Nat.le_of_lt (lt_of_heap hbk))
end Go.Proofs.YtlohgcdonenmeaaDoor
