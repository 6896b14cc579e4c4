/- The table of classes in memory; isBlank and what stands on it. -/
import Derived.Test.YtgpcmlbmmcnkjaaGreatDoorSx
import Derived.Test.YtgpcmlbmmcnkjaaGreatDoorShelf
import Derived.Below
import Derived.WalkKit
import Derived.WalkSpells
import Derived.WalkLawsBesides
import Derived.Lib.Hide
import Derived.IntWalk
namespace Go.Proofs.YtgpcmlbmmcnkjaaGreatDoor
open Go.RowKit

def clsL : List Nat := [0, 0, 0, 0, 0, 0, 0, 0, 0, 3, 0, 0, 0, 0, 0, 0, 0, 0, 0, 0, 0, 0, 0, 0, 0, 0, 0, 0, 0, 0, 0, 0, 7, 4, 4, 4, 4, 4, 4, 4, 4, 4, 4, 4, 4, 4, 4, 4, 6, 6, 6, 6, 6, 6, 6, 6, 6, 6, 4, 4, 4, 4, 4, 4, 4, 6, 6, 6, 6, 6, 6, 6, 6, 6, 6, 6, 6, 6, 6, 6, 6, 6, 6, 6, 6, 6, 6, 6, 6, 6, 6, 4, 4, 4, 4, 4, 4, 14, 14, 14, 14, 14, 14, 14, 14, 14, 14, 14, 14, 14, 14, 14, 14, 14, 14, 14, 14, 14, 14, 14, 14, 14, 14, 4, 4, 4, 4, 0, 0, 0, 0, 0, 0, 0, 0, 0, 0, 0, 0, 0, 0, 0, 0, 0, 0, 0, 0, 0, 0, 0, 0, 0, 0, 0, 0, 0, 0, 0, 0, 0, 0, 0, 0, 0, 0, 0, 0, 0, 0, 0, 0, 0, 0, 0, 0, 0, 0, 0, 0, 0, 0, 0, 0, 0, 0, 0, 0, 0, 0, 0, 0, 0, 0, 0, 0, 0, 0, 0, 0, 0, 0, 0, 0, 0, 0, 0, 0, 0, 0, 0, 0, 0, 0, 0, 0, 0, 0, 0, 0, 0, 0, 0, 0, 0, 0, 0, 0, 0, 0, 0, 0, 0, 0, 0, 0, 0, 0, 0, 0, 0, 0, 0, 0, 0, 0, 0, 0, 0, 0, 0, 0, 0, 0, 0, 0, 0]
def cClasses : Array Value := (clsL.map fun n : Nat => Value.int .u8 (n : Int)).toArray
/-- The table lies where the program's start has laid it. -/
def Tabs (w : World) : Prop := ∃ t fr, w.heap[1]? = some (.cells cClasses t fr)
theorem lt_of_block {w : World} {b : Nat} {o : Obj} (h : w.heap[b]? = some o) : b < w.heap.size := by
  rcases Nat.lt_or_ge b w.heap.size with h' | h'
  · exact h'
  · rw [Array.getElem?_eq_none h'] at h; cases h
theorem Tabs.below {w w' : World} (h : Tabs w) (k : Below w.heap.size w w') : Tabs w' := by
  obtain ⟨t, fr, h0⟩ := h
  exact ⟨t, fr, (k.block 1 (lt_of_block h0)).trans h0⟩
theorem below_drewN (w : World) (n : Nat) : Below w.heap.size w (w.drewN n) := ⟨rfl, rfl, rfl, Nat.le_refl _, fun _ _ => rfl⟩
theorem bdrew {B : Nat} {a w : World} (h : Below B a w) (n : Nat) : Below B a (w.drewN n) := ⟨h.os, h.tape, h.output, h.size, h.block⟩

theorem cls_blank : ∀ n : Fin 256, (bits BinOp.and IntKind.u8 ((clsL.getD n.val 0 : Nat) : Int) 1 != 0) = (n.val == 9 || n.val == 32) := by decide +kernel
theorem isBl_nat (c : UInt8) : isBl c = (c.toNat == 9 || c.toNat == 32) := by
  unfold isBl
  have e : ∀ d : UInt8, (c == d) = (c.toNat == d.toNat) := fun d => by
    rw [Bool.eq_iff_iff, beq_iff_eq, beq_iff_eq]
    exact ⟨fun h => by rw [h], fun h => UInt8.toNat_inj.1 h⟩
  rw [e, e]; rfl
theorem cls_cell {w : World} (T : Tabs w) (c : UInt8) : ∃ n : Int, w.cell? ⟨1, c.toNat, none⟩ = some (.int .u8 n) ∧ (bits BinOp.and IntKind.u8 n 1 != 0) = isBl c := by
  obtain ⟨t, fr, h⟩ := T
  have hc : c.toNat < 256 := c.toNat_lt
  refine ⟨(clsL.getD c.toNat 0 : Nat), ?_, ?_⟩
  · rw [cell_of_row w 1 c.toNat cClasses t fr h]
    have hl : clsL.length = 256 := by decide +kernel
    have hg : clsL[c.toNat]? = some (clsL.getD c.toNat 0) := by
      rw [List.getD_eq_getElem?_getD, List.getElem?_eq_getElem (by omega)]; rfl
    unfold cClasses
    rw [List.getElem?_toArray, List.getElem?_map, hg]
    rfl
  · rw [isBl_nat]
    exact cls_blank ⟨c.toNat, hc⟩

theorem isBlank_ok (c : UInt8) (w : World) (T : Tabs w) : Calls Tryz.prog 86 #[.int .u8 c.toNat] w fun e w' => e = .returned (.bool (isBl c)) ∧ w = w' := by
  obtain ⟨n, h1, h2⟩ := cls_cell T c
  have hc := c.toNat_lt
  clear T
  go_enter Tryz.func86, Tryz.ntmps86
  go_wp2_with fail
  go_ret
  exact ⟨rfl, rfl⟩
theorem gap_ok (o : Option UInt8) (w : World) : Calls Tryz.prog 83 #[.int .i64 (match o with | some t => (t.toNat : Int) | none => -1)] w fun e w' => e = .returned (.int .i64 (gapN o)) ∧ w = w' := by
  cases o with
  | none =>
    go_enter Tryz.func83, Tryz.ntmps83
    go_wp2_with fail
    go_ret
    exact ⟨rfl, rfl⟩
  | some t =>
    have h : ((t.toNat : Int) == -1) = false := by rw [beq_eq_false_iff_ne]; omega
    go_enter Tryz.func83, Tryz.ntmps83
    go_wp2_with fail
    go_ret
    exact ⟨rfl, rfl⟩
theorem blank_ok (c : UInt8) (w : World) : Calls Tryz.prog 46 #[.int .u8 c.toNat] w fun e w' => e = .returned (.bool (isBl c)) ∧ w = w' := by
  have E := Lib.hid (isBl_nat c)
  by_cases h1 : c.toNat = 32
  · have t1 : ((c.toNat : Int) == 32) = true := by rw [beq_iff_eq]; omega
    have E2 := Lib.hid (show isBl c = true by rw [E.out, h1]; rfl)
    clear h1
    go_enter Tryz.func46, Tryz.ntmps46
    go_wp2_with fail
    go_ret
    exact ⟨by rw [E2.out]; rfl, rfl⟩
  · have t1 : ((c.toNat : Int) == 32) = false := by rw [beq_eq_false_iff_ne]; omega
    by_cases h2 : c.toNat = 9
    · have t2 : ((c.toNat : Int) == 9) = true := by rw [beq_iff_eq]; omega
      have E2 := Lib.hid (show isBl c = true by rw [E.out, h2]; rfl)
      clear h1 h2
      go_enter Tryz.func46, Tryz.ntmps46
      go_wp2_with fail
      go_ret
      exact ⟨by rw [E2.out]; rfl, rfl⟩
    · have t2 : ((c.toNat : Int) == 9) = false := by rw [beq_eq_false_iff_ne]; omega
      have E2 := Lib.hid (show isBl c = false by rw [E.out]; simp [h1, h2])
      clear h1 h2
      go_enter Tryz.func46, Tryz.ntmps46
      go_wp2_with fail
      go_ret
      exact ⟨by rw [E2.out]; rfl, rfl⟩
end Go.Proofs.YtgpcmlbmmcnkjaaGreatDoor
