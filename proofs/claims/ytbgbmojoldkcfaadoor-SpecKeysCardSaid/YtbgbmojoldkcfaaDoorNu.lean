/- number and skip of the scanner. -/
import Derived.Test.YtbgbmojoldkcfaaDoorMo
namespace Go.Proofs.YtbgbmojoldkcfaaDoor
open Go.RowKit

def scV (t : ByteArray) (k : Nat) : List Value := [.string t, .int .i64 (k : Int)]
theorem digits_flip (s : ByteArray) (w : World) (hs : s.size ≤ 140737488351232) : Calls Tryd.prog 15 #[.string s, .int .i64 2147483647] w fun e w' => e = .returned (.tuple #[.int .i64 (valS 2147483647 0 s.data.toList).1, .int .i64 (valS 2147483647 0 s.data.toList).2]) ∧ w' = w :=
  (digits_ok s 2147483647 (by omega) w hs).mono fun _ _ h => ⟨h.1, h.2.symm⟩
/-- What number does: nothing, or both cells set. -/
def NumPost (w : World) (S : Nat) (H j : Nat) (k v z least : Nat) (e : Ending) (w' : World) : Prop :=
  ((z = 0 ∨ v < least) ∧ e = .returned (.bool false) ∧ ∃ q, w' = w.drewN q) ∨
  (¬ (z = 0 ∨ v < least) ∧ e = .returned (.bool true) ∧ ∃ q, w' = ((w.setCell ⟨H, j, none⟩ (.int .i64 (v : Int))).setCell ⟨S, 1, none⟩ (.int .i64 ((k : Int) + (z : Int)))).drewN q)

set_option maxRecDepth 100000
set_option maxHeartbeats 1600000 in
theorem number_m (t : ByteArray) (k : Nat) (S H j : Nat) (old : Value) (least : Nat) (w : World) (hk : k ≤ t.size) (ht : t.size ≤ 140737488351232) (hl : least ≤ 1) (hS : CellsAt w S (scV t k)) (hH : w.cell? ⟨H, j, none⟩ = some old) (hHf : w.frozen? ⟨H, j, none⟩ = false) (hne : H ≠ S) :
    Calls Tryd.prog 38 #[.pointer (some ⟨S, 0, none⟩), .pointer (some ⟨H, j, none⟩), .int .i64 least] w (NumPost w S H j k (valS 2147483647 0 (t.data.toList.drop k)).1 (valS 2147483647 0 (t.data.toList.drop k)).2 least) := by
  have s0 := hS.cell 0 _ rfl
  have s1 := hS.cell 1 _ rfl
  have g1 := hS.free 1
  have D := fun w => digits_flip (t.extract k t.size) w (by rw [ByteArray.size_extract]; omega)
  rw [Lib.extract_to_end] at D
  have b1 := valS_le 2147483647 (t.data.toList.drop k) 0 (by omega)
  have b2 := valS_len 2147483647 (t.data.toList.drop k) 0
  rw [List.length_drop, ← Lib.size_eq] at b2
  generalize (valS 2147483647 0 (t.data.toList.drop k)).1 = v at *
  generalize (valS 2147483647 0 (t.data.toList.drop k)).2 = z at *
  have HD := Lib.hid D
  clear D hS
  by_cases hz : z = 0
  · have t1 : ((z : Int) == 0) = true := by rw [beq_iff_eq]; omega
    have HZ := Lib.hid hz
    clear hz
    go_enter Tryd.func38, Tryd.ntmps38
    go_wp2_with fail
    go_quiet ((go_at_call 15; exact Calls.quiet_of_same (HD.out _)))
    go_wp2_with fail
    go_ret
    exact Or.inl ⟨Or.inl HZ.out, rfl, _, rfl⟩
  · have t1 : ((z : Int) == 0) = false := by rw [beq_eq_false_iff_ne]; omega
    have HZ := Lib.hid hz
    clear hz
    by_cases hv : v < least
    · have t2 : decide ((v : Int) < (least : Int)) = true := by simp only [decide_eq_true_eq]; omega
      go_enter Tryd.func38, Tryd.ntmps38
      go_wp2_with fail
      go_quiet ((go_at_call 15; exact Calls.quiet_of_same (HD.out _)))
      go_wp2_with fail
      go_ret
      exact Or.inl ⟨Or.inr hv, rfl, _, rfl⟩
    · have t2 : decide ((v : Int) < (least : Int)) = false := by simp only [decide_eq_false_iff_not]; omega
      go_enter Tryd.func38, Tryd.ntmps38
      go_wp2_with fail
      go_quiet ((go_at_call 15; exact Calls.quiet_of_same (HD.out _)))
      go_wp2_with fail
      go_ret
      exact Or.inr ⟨fun h => h.elim HZ.out hv, rfl, _, rfl⟩

def SkipPost (w : World) (S : Nat) (t : ByteArray) (k : Nat) (c : UInt8) (e : Ending) (w' : World) : Prop :=
  (dotAt t.data.toList k c = true ∧ e = .returned (.bool true) ∧ ∃ q, w' = (w.setCell ⟨S, 1, none⟩ (.int .i64 ((k : Int) + 1))).drewN q) ∨
  (dotAt t.data.toList k c = false ∧ e = .returned (.bool false) ∧ ∃ q, w' = w.drewN q)
set_option maxHeartbeats 1600000 in
theorem skip_m (t : ByteArray) (k : Nat) (S : Nat) (c : UInt8) (w : World) (hk : k ≤ t.size) (ht : t.size ≤ 140737488351232) (hS : CellsAt w S (scV t k)) :
    Calls Tryd.prog 21 #[.pointer (some ⟨S, 0, none⟩), .int .u8 c.toNat] w (SkipPost w S t k c) := by
  have s0 := hS.cell 0 _ rfl
  have s1 := hS.cell 1 _ rfl
  have g1 := hS.free 1
  clear hS
  by_cases hlt : k < t.size
  · have t1 : ((k : Int) == (t.size : Int)) = false := by rw [beq_eq_false_iff_ne]; omega
    cases hd : dotAt t.data.toList k c with
    | true =>
      obtain ⟨_, hcc⟩ := dot_yes hd
      have t2 : ((t[k].toNat : Int) != (c.toNat : Int)) = false := by rw [hcc]; simp
      have HD := Lib.hid hd
      clear hd hcc
      go_enter Tryd.func21, Tryd.ntmps21
      go_wp2_with fail
      go_quiet (fail)
      go_wp2_with fail
      go_ret
      exact Or.inl ⟨HD.out, rfl, _, rfl⟩
    | false =>
      have hne := dot_no hd hlt
      have t2 : ((t[k].toNat : Int) != (c.toNat : Int)) = true := by
        rw [bne_iff_ne]; intro e; exact hne (UInt8.toNat_inj.1 (by omega))
      have HD := Lib.hid hd
      clear hd hne
      go_enter Tryd.func21, Tryd.ntmps21
      go_wp2_with fail
      go_quiet (fail)
      go_wp2_with fail
      go_ret
      exact Or.inr ⟨HD.out, rfl, _, rfl⟩
  · have t1 : ((k : Int) == (t.size : Int)) = true := by rw [beq_iff_eq]; omega
    have HD := Lib.hid (show dotAt t.data.toList k c = false from by unfold dotAt; rw [decide_eq_false (by rw [← Lib.size_eq]; exact hlt)]; rfl)
    go_enter Tryd.func21, Tryd.ntmps21
    go_wp2_with fail
    go_quiet (fail)
    go_wp2_with fail
    go_ret
    exact Or.inr ⟨HD.out, rfl, _, rfl⟩
/-- A half of a key. -/
def hfV (f c m : Nat) : List Value := [.int .i64 (f : Int), .int .i64 (c : Int), .int .u16 (m : Int)]
def RetK6 (w : World) (k : KeyR) (e : Ending) (w' : World) : Prop := e = .returned (.agg (kc6 k).toArray) ∧ Below w.heap.size w w'
theorem clr_all : ∀ m : Fin 1024, bits BinOp.andNot IntKind.u16 ((m.val : Nat) : Int) 1 = ((m.val - m.val % 2 : Nat) : Int) := by decide +kernel
set_option maxHeartbeats 1600000 in
theorem keyOf_ok (f c m ef ec m2 : Nat) (hm : m < 1024) (hm2 : m2 < 1024) (w : World) :
    Calls Tryd.prog 22 #[.agg (hfV f c m).toArray, .agg (hfV ef ec m2).toArray] w (RetK6 w ⟨f, c, ef, ec, m ||| (m2 - m2 % 2), ((m2 : Int) % 2 != 0)⟩) := by
  have a1 := clr_all ⟨m2, hm2⟩
  simp only at a1
  have a2 := or_nat m (m2 - m2 % 2) hm (by omega)
  have a3 : bits BinOp.and IntKind.u16 (m2 : Int) 1 = (m2 : Int) % 2 := by
    rw [show (1 : Int) = ((1 : Nat) : Int) from rfl, and_nat m2 1 (by omega) (by omega), Nat.and_one_is_mod]; rfl
  unfold hfV
  go_enter Tryd.func22, Tryd.ntmps22
  go_wp2_with fail
  exact bodyPost_ret (v := .agg #[.int .i64 (f : Int), .int .i64 (c : Int), .int .i64 (ef : Int), .int .i64 (ec : Int), .int .u16 ((m ||| (m2 - m2 % 2) : Nat) : Int), .bool ((m2 : Int) % 2 != 0)]) (by simp [results, Tryd.results22, go_sem, a2, a3]) rfl ⟨rfl, (((Below.refl w.heap.size w).alloc (Nat.le_refl _) _).alloc (by simp) _).alloc (by simp; omega) _⟩
end Go.Proofs.YtbgbmojoldkcfaaDoor
