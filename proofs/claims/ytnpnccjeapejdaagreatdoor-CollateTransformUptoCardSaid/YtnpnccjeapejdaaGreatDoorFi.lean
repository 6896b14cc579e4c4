/- collate.kindOf, filterOf, comparison and turned of any modifiers. -/
import Derived.Test.YtnpnccjeapejdaaGreatDoorCk
import Derived.Laws.EntriesVeiled
namespace Go.Proofs.YtnpnccjeapejdaaGreatDoor
open Go.RowKit

set_option maxRecDepth 100000
theorem kind_ok (m : Nat) (hm : m < 65536) (w : World) : Calls Tryz.prog 33 #[.int .u16 (m : Int)] w (RetV w (.int .u16 ((m &&& 496 : Nat) : Int))) := by
  have a1 : bits BinOp.and IntKind.u16 (m : Int) 496 = ((m &&& 496 : Nat) : Int) := and_nat m 496 hm (by omega)
  go_enter Tryz.func33, Tryz.ntmps33
  go_wp2_with fail
  go_ret
  exact ⟨rfl, rfl⟩
/-- Which bytes count: 0 all, 2 the plain ones, 4 those that are shown. -/
def letsS (m : Nat) : Nat := if m &&& 2 = 0 then (if m &&& 8 = 0 then 0 else 4) else 2
def foldS (m : Nat) : Bool := !decide (m &&& 4 = 0)
set_option maxHeartbeats 3200000 in
theorem filter_ok (m : Nat) (hm : m < 65536) (w : World) : Calls Tryz.prog 48 #[.int .u16 (m : Int)] w (RetBk w (.agg #[.int .u8 (letsS m : Int), .bool (foldS m)])) := by
  have b4 : bits BinOp.and IntKind.u16 (m : Int) 4 = ((m &&& 4 : Nat) : Int) := and_nat m 4 hm (by omega)
  have b2 : bits BinOp.and IntKind.u16 (m : Int) 2 = ((m &&& 2 : Nat) : Int) := and_nat m 2 hm (by omega)
  have b8 : bits BinOp.and IntKind.u16 (m : Int) 8 = ((m &&& 8 : Nat) : Int) := and_nat m 8 hm (by omega)
  unfold letsS foldS
  generalize m &&& 4 = x4 at *
  generalize m &&& 2 = x2 at *
  generalize m &&& 8 = x8 at *
  clear hm
  by_cases c4 : x4 = 0 <;> by_cases c2 : x2 = 0 <;> by_cases c8 : x8 = 0
  all_goals
    first
      | (have n4 : ((x4 : Int) != 0) = false := by rw [bne_eq_false_iff_eq]; omega)
      | (have n4 : ((x4 : Int) != 0) = true := by rw [bne_iff_ne]; omega)
    first
      | (have u2 : ((x2 : Int) == 0) = true := by rw [beq_iff_eq]; omega)
      | (have u2 : ((x2 : Int) == 0) = false := by rw [beq_eq_false_iff_ne]; omega)
    first
      | (have u8 : ((x8 : Int) == 0) = true := by rw [beq_iff_eq]; omega)
      | (have u8 : ((x8 : Int) == 0) = false := by rw [beq_eq_false_iff_ne]; omega)
    simp only [c2, c8, c4, ↓reduceIte, decide_true, decide_false, Bool.not_true, Bool.not_false]
    clear c2 c8 c4
    go_enter Tryz.func48, Tryz.ntmps48
    go_wp2_with fail
    refine bodyPost_ret (v := _) ?_ rfl ⟨rfl, ((Below.refl _ _).alloc (Nat.le_refl _) _).alloc (by simp) _⟩
    simp [results, Tryz.results48, go_sem]
/-- A comparison of keys of a kind, with a filter: which function it is, and what it has with it (in blocks from B on). -/
def CmpAt (w : World) (B K lt : Nat) (fo : Bool) (fv : Value) : Prop :=
  (K = 0 ∧ lt = 0 ∧ fo = false ∧ fv = .func (.func 23) #[] #[]) ∨
  (K = 0 ∧ ¬ (lt = 0 ∧ fo = false) ∧ fv = .func (.func 78) #[.agg #[.int .u8 lt, .bool fo]] #[]) ∨
  (K = 256 ∧ ∃ b c, B ≤ b ∧ B ≤ c ∧ fv = .func (.func 79) #[] #[.pointer (some ⟨b, 0, none⟩), .pointer (some ⟨c, 0, none⟩)] ∧ CellsAt w b [.int .u16 (K : Int)] ∧ CellsAt w c [.int .u8 lt, .bool fo]) ∨
  (K ≠ 0 ∧ K ≠ 256 ∧ ∃ b, B ≤ b ∧ fv = .func (.func 81) #[] #[.pointer (some ⟨b, 0, none⟩)] ∧ CellsAt w b [.int .u16 (K : Int)])
theorem CmpAt.step {w w' : World} {B K lt : Nat} {fo : Bool} {fv : Value} (h : CmpAt w B K lt fo fv) (b : Below w.heap.size w w') : CmpAt w' B K lt fo fv := by
  rcases h with h | h | ⟨h, p, q, u, v, h1, h2, h3⟩ | ⟨h, h0, p, u, h1, h2⟩
  · exact Or.inl h
  · exact Or.inr (Or.inl h)
  · exact Or.inr (Or.inr (Or.inl ⟨h, p, q, u, v, h1, h2.step b, h3.step b⟩))
  · exact Or.inr (Or.inr (Or.inr ⟨h, h0, p, u, h1, h2.step b⟩))
theorem CmpAt.other {w : World} {B K lt : Nat} {fo : Bool} {fv : Value} (h : CmpAt w B K lt fo fv) {c : Nat} (hc : c < B) (j : Nat) (x : Value) : CmpAt (w.setCell ⟨c, j, none⟩ x) B K lt fo fv := by
  rcases h with h | h | ⟨h, p, q, u, v, h1, h2, h3⟩ | ⟨h, h0, p, u, h1, h2⟩
  · exact Or.inl h
  · exact Or.inr (Or.inl h)
  · exact Or.inr (Or.inr (Or.inl ⟨h, p, q, u, v, h1, h2.other (by omega) j x, h3.other (by omega) j x⟩))
  · exact Or.inr (Or.inr (Or.inr ⟨h, h0, p, u, h1, h2.other (by omega) j x⟩))
theorem CmpAt.mono {w : World} {B C K lt : Nat} {fo : Bool} {fv : Value} (h : CmpAt w B K lt fo fv) (hc : C ≤ B) : CmpAt w C K lt fo fv := by
  rcases h with h | h | ⟨h, p, q, u, v, h1, h2, h3⟩ | ⟨h, h0, p, u, h1, h2⟩
  · exact Or.inl h
  · exact Or.inr (Or.inl h)
  · exact Or.inr (Or.inr (Or.inl ⟨h, p, q, by omega, by omega, h1, h2, h3⟩))
  · exact Or.inr (Or.inr (Or.inr ⟨h, h0, p, by omega, h1, h2⟩))
theorem CmpAt.shape {w : World} {B K lt : Nat} {fo : Bool} {fv : Value} (h : CmpAt w B K lt fo fv) : ∃ n bs cs, fv = .func (.func n) bs cs := by
  rcases h with ⟨_, _, _, h⟩ | ⟨_, _, h⟩ | ⟨_, _, _, _, _, h, _, _⟩ | ⟨_, _, _, _, h, _⟩ <;> exact ⟨_, _, _, h⟩
def RetCmp (w : World) (K lt : Nat) (fo : Bool) (e : Ending) (w' : World) : Prop := ∃ fv, e = .returned fv ∧ CmpAt w' w.heap.size K lt fo fv ∧ Below w.heap.size w w'
set_option maxHeartbeats 3200000 in
theorem comparison_ok (K lt : Nat) (fo : Bool) (w : World) : Calls Tryz.prog 49 #[.int .u16 (K : Int), .agg #[.int .u8 (lt : Int), .bool fo]] w (RetCmp w K lt fo) := by
  have A1 := Lib.hid ((CellsAt.new w [.int .u16 (K : Int)] 24).alloc (.cells [.int .u8 (lt : Int), .bool fo].toArray 57))
  have A2 := Lib.hid (CellsAt.new (w.alloc (.cells [.int .u16 (K : Int)].toArray 24)) [.int .u8 (lt : Int), .bool fo] 57)
  have B := Lib.hid (((Below.refl w.heap.size w).alloc (Nat.le_refl _) (.cells [.int .u16 (K : Int)].toArray 24)).alloc (by simp) (.cells [.int .u8 (lt : Int), .bool fo].toArray 57))
  rw [show (w.alloc (.cells [.int .u16 (K : Int)].toArray 24)).heap.size = w.heap.size + 1 by simp] at A2
  by_cases h0 : K = 0
  · subst h0
    by_cases h1 : lt = 0 ∧ fo = false
    · obtain ⟨rfl, rfl⟩ := h1
      go_enter Tryz.func49, Tryz.ntmps49
      go_wp2_with fail
      go_ret
      exact ⟨_, rfl, Or.inl ⟨rfl, rfl, rfl, rfl⟩, B.out⟩
    · cases fo
      · have hl : ¬ lt = 0 := fun e => h1 ⟨e, rfl⟩
        have u : decide ((lt : Int) = 0) = false := by rw [decide_eq_false_iff_not]; omega
        have u2 : ((lt : Int) == 0) = false := by rw [beq_eq_false_iff_ne]; omega
        have HL := Lib.hid hl
        clear h1 hl
        go_enter Tryz.func49, Tryz.ntmps49
        go_wp2_with fail
        go_ret
        exact ⟨_, rfl, Or.inr (Or.inl ⟨rfl, fun (e : _ ∧ _) => HL.out e.1, rfl⟩), B.out⟩
      · clear h1
        go_enter Tryz.func49, Tryz.ntmps49
        go_wp2_with fail
        go_ret
        exact ⟨_, rfl, Or.inr (Or.inl ⟨rfl, (by rintro ⟨_, h⟩; cases h), rfl⟩), B.out⟩
  · have u0 : ((K : Int) == 0) = false := by rw [beq_eq_false_iff_ne]; omega
    have H0 := Lib.hid h0
    clear h0
    by_cases h1 : K = 256
    · subst h1
      go_enter Tryz.func49, Tryz.ntmps49
      go_wp2_with fail
      go_ret
      exact ⟨_, rfl, Or.inr (Or.inr (Or.inl ⟨rfl, w.heap.size, w.heap.size + 1, Nat.le_refl _, Nat.le_succ _, rfl, A1.out, A2.out⟩)), B.out⟩
    · have u1 : ((K : Int) == 256) = false := by rw [beq_eq_false_iff_ne]; omega
      have H1 := Lib.hid h1
      clear h1
      go_enter Tryz.func49, Tryz.ntmps49
      go_wp2_with fail
      go_ret
      exact ⟨_, rfl, Or.inr (Or.inr (Or.inr ⟨H0.out, H1.out, w.heap.size, Nat.le_refl _, rfl, A1.out⟩)), B.out⟩
/-- A comparison, turned. -/
def TurnAt (w : World) (B : Nat) (g fv : Value) : Prop := ∃ b, B ≤ b ∧ fv = .func (.func 82) #[] #[.pointer (some ⟨b, 0, none⟩)] ∧ CellsAt w b [g]
def RetTurn (w : World) (g : Value) (e : Ending) (w' : World) : Prop := ∃ fv, e = .returned fv ∧ TurnAt w' w.heap.size g fv ∧ Below w.heap.size w w'
theorem turned_ok (n : Nat) (bs cs : Array Value) (w : World) : Calls Tryz.prog 50 #[.func (.func n) bs cs] w (RetTurn w (.func (.func n) bs cs)) := by
  have A1 := Lib.hid (CellsAt.new w [.func (.func n) bs cs] 34)
  have B := Lib.hid ((Below.refl w.heap.size w).alloc (Nat.le_refl _) (.cells [Value.func (.func n) bs cs].toArray 34))
  go_enter Tryz.func50, Tryz.ntmps50
  go_wp2_with fail
  go_ret
  exact ⟨_, rfl, ⟨w.heap.size, Nat.le_refl _, rfl, A1.out⟩, B.out⟩
end Go.Proofs.YtnpnccjeapejdaaGreatDoor
