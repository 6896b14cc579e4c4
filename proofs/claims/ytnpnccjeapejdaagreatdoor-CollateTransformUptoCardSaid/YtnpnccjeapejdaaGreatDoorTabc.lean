/- The table of classes in memory; isBlank and what stands on it. -/
import Derived.Lib.Bytealg
import Derived.WalkKit
import Derived.Test.YtnpnccjeapejdaaGreatDoorShelf
import Derived.Below
import Derived.WalkSpells
import Derived.WalkLawsBesides
import Derived.Lib.Hide
import Derived.IntWalk
namespace Go.Proofs.YtnpnccjeapejdaaGreatDoor
section
section
/-- The first place from k on at which p holds; the length, if there is none. -/
def nxt (p : UInt8 → Bool) (s : List UInt8) (k : Nat) : Nat := k + (s.drop k).findIdx p
theorem nxt_step (p : UInt8 → Bool) (s : List UInt8) (k : Nat) (h : k < s.length) : nxt p s k = if p s[k] then k else nxt p s (k + 1) := by
  unfold nxt
  rw [List.drop_eq_getElem_cons h, List.findIdx_cons]
  cases p s[k] <;> simp; omega
theorem nxt_end (p : UInt8 → Bool) (s : List UInt8) (k : Nat) (h : s.length ≤ k) : nxt p s k = k := by
  unfold nxt
  rw [List.drop_eq_nil_of_le h]; rfl
theorem nxt_ge (p : UInt8 → Bool) (s : List UInt8) (k : Nat) : k ≤ nxt p s k := Nat.le_add_right _ _
theorem nxt_le (p : UInt8 → Bool) (s : List UInt8) (k : Nat) (h : k ≤ s.length) : nxt p s k ≤ s.length := by
  unfold nxt
  have := List.findIdx_le_length (p := p) (xs := s.drop k)
  rw [List.length_drop] at this
  omega
theorem nxt_at (p : UInt8 → Bool) (s : List UInt8) (k : Nat) (h : nxt p s k < s.length) : p s[nxt p s k] = true := by
  have hk : (s.drop k).findIdx p < (s.drop k).length := by
    rw [List.length_drop]
    unfold nxt at h
    omega
  have := List.findIdx_getElem (w := hk)
  rw [List.getElem_drop] at this
  exact this
theorem nxt_ahead (p : UInt8 → Bool) (s : List UInt8) (k j : Nat) (h1 : k ≤ j) (h2 : j < nxt p s k) (h3 : j < s.length) : p s[j] = false := by
  have hk : j - k < (s.drop k).findIdx p := by unfold nxt at h2; omega
  have := List.not_of_lt_findIdx hk
  rw [List.getElem_drop] at this
  have e : k + (j - k) = j := by omega
  simpa [e] using this

def isBl (c : UInt8) : Bool := c == 9 || c == 32
/-- Where the field ends that begins at k: with a separator, without. -/
def fend (s : List UInt8) (tab : Option UInt8) (k : Nat) : Nat :=
  match tab with
  | some t => nxt (· == t) s k
  | none => nxt isBl s (nxt (fun c => !isBl c) s k)
def gapN (tab : Option UInt8) : Nat := if tab.isSome then 1 else 0
theorem fend_ge (s : List UInt8) (tab : Option UInt8) (k : Nat) : k ≤ fend s tab k := by
  cases tab with
  | some t => exact nxt_ge _ _ _
  | none => exact Nat.le_trans (nxt_ge _ _ _) (nxt_ge _ _ _)
theorem fend_le (s : List UInt8) (tab : Option UInt8) (k : Nat) (h : k ≤ s.length) : fend s tab k ≤ s.length := by
  cases tab with
  | some t => exact nxt_le _ _ _ h
  | none => exact nxt_le _ _ _ (nxt_le _ _ _ h)
/-- What begins a field where there is no separator. -/
def starts (s : List UInt8) (j : Nat) : Bool := decide (0 < j) && isBl (s.getD j 0) && !isBl (s.getD (j - 1) 0)
theorem getD_at (s : List UInt8) (j : Nat) (h : j < s.length) : s.getD j 0 = s[j] := by simp [List.getD, h]
theorem fend_starts (s : List UInt8) (k : Nat) (hk : k < s.length) (h : fend s none k < s.length) : k < fend s none k ∧ starts s (fend s none k) = true := by
  have h0 := nxt_ge (fun c => !isBl c) s k
  have h1 : fend s none k = nxt isBl s (nxt (fun c => !isBl c) s k) := rfl
  generalize hj : nxt (fun c => !isBl c) s k = j at *
  have h2 := nxt_ge isBl s j
  rw [← h1] at h2
  have hb : isBl s[fend s none k] = true := by
    have := nxt_at isBl s j (by rw [← h1]; exact h)
    simpa only [← h1] using this
  have hjl : j < s.length := by omega
  have hnb : (!isBl s[j]) = true := by
    have := nxt_at (fun c => !isBl c) s k (by rw [hj]; exact hjl)
    simpa [hj] using this
  have hne : j ≠ fend s none k := by
    intro e
    have : isBl s[j] = true := by simpa [← e] using hb
    rw [this] at hnb
    cases hnb
  have hpre : isBl s[fend s none k - 1] = false := nxt_ahead isBl s j _ (by omega) (by rw [← h1]; omega) (by omega)
  refine ⟨by omega, ?_⟩
  unfold starts
  rw [getD_at _ _ h, getD_at _ _ (by omega), hb, hpre]
  simp; omega
/-- The fields from k on. -/
def spans (s : List UInt8) (tab : Option UInt8) : Nat → Nat → List (Nat × Nat)
  | 0, _ => []
  | f + 1, k => (k, fend s tab k) :: if fend s tab k = s.length then [] else spans s tab f (fend s tab k + gapN tab)
theorem index_find (c : UInt8) : ∀ l : List UInt8, Lib.indexByte l c = if l.findIdx (· == c) < l.length then (l.findIdx (· == c) : Int) else -1
  | [] => rfl
  | x :: r => by
    have ih := index_find c r
    unfold Lib.indexByte
    rw [ih, List.findIdx_cons]
    cases hx : x == c with
    | true => simp
    | false =>
      by_cases hl : r.findIdx (· == c) < r.length
      · have h2 : ((r.findIdx (· == c) : Int) == -1) = false := by rw [beq_eq_false_iff_ne]; omega
        simp [hl, h2]
      · simp [hl]
/-- What IndexByte gives of what is left of the line. -/
theorem index_at (s : List UInt8) (t : UInt8) (k : Nat) (hk : k ≤ s.length) : Lib.indexByte (s.drop k) t = if fend s (some t) k < s.length then (fend s (some t) k : Int) - k else -1 := by
  rw [index_find]
  have e : fend s (some t) k = k + (s.drop k).findIdx (· == t) := rfl
  rw [e, List.length_drop]
  by_cases h : (s.drop k).findIdx (· == t) < s.length - k
  · rw [if_pos h, if_pos (by omega)]; omega
  · rw [if_neg h, if_neg (by omega)]
end
section
/-- Field m (from 0 on) behind k. -/
def fbeg (s : List UInt8) (tab : Option UInt8) : Nat → Nat → Nat
  | 0, k => k
  | m + 1, k => if fend s tab k = s.length then s.length else fbeg s tab m (fend s tab k + gapN tab)
theorem fend_len (s : List UInt8) (tab : Option UInt8) : fend s tab s.length = s.length := by
  cases tab with
  | some t => exact nxt_end _ _ _ (Nat.le_refl _)
  | none => unfold fend; simp only; rw [nxt_end _ _ s.length (Nat.le_refl _), nxt_end _ _ s.length (Nat.le_refl _)]
theorem fend_next (s : List UInt8) (tab : Option UInt8) (k : Nat) (hk : k ≤ s.length) (h : fend s tab k ≠ s.length) : k < fend s tab k + gapN tab ∧ fend s tab k + gapN tab ≤ s.length := by
  have h1 := fend_ge s tab k
  have h2 := fend_le s tab k hk
  cases tab with
  | some t => unfold gapN; simp only [Option.isSome_some, if_true]; omega
  | none =>
    have hk2 : k < s.length := by
      rcases Nat.lt_or_ge k s.length with h3 | h3
      · exact h3
      · exfalso
        obtain rfl : k = s.length := by omega
        exact h (fend_len s none)
    have := fend_starts s k hk2 (by omega)
    unfold gapN
    simp only [Option.isSome_none, Bool.false_eq_true, if_false]
    omega
theorem fbeg_le (s : List UInt8) (tab : Option UInt8) : ∀ m k, k ≤ s.length → fbeg s tab m k ≤ s.length
  | 0, _, h => h
  | m + 1, k, h => by
    rw [fbeg]
    split
    · exact Nat.le_refl _
    · rename_i hn
      exact fbeg_le s tab m _ (fend_next s tab k h hn).2
/-- Behind the blanks that stand at k. -/
def behB (s : List UInt8) (k : Nat) : Nat := nxt (fun c => !isBl c) s k
/-- From k on: behind the blanks, if these are passed over; then n bytes, as far as there are any. -/
def furS (s : List UInt8) (k : Nat) (bl : Bool) (n : Nat) : Nat := (if bl then behB s k else k) + min n (s.length - (if bl then behB s k else k))
theorem behB_le (s : List UInt8) (k : Nat) (h : k ≤ s.length) : behB s k ≤ s.length := nxt_le _ _ _ h
theorem furS_le (s : List UInt8) (k : Nat) (bl : Bool) (n : Nat) (h : k ≤ s.length) : furS s k bl n ≤ s.length := by
  unfold furS
  have := behB_le s k h
  split <;> omega
end
end
section
open Go.RowKit

def clsL : List Nat := [0, 0, 0, 0, 0, 0, 0, 0, 0, 3, 0, 0, 0, 0, 0, 0, 0, 0, 0, 0, 0, 0, 0, 0, 0, 0, 0, 0, 0, 0, 0, 0, 7, 4, 4, 4, 4, 4, 4, 4, 4, 4, 4, 4, 4, 4, 4, 4, 6, 6, 6, 6, 6, 6, 6, 6, 6, 6, 4, 4, 4, 4, 4, 4, 4, 6, 6, 6, 6, 6, 6, 6, 6, 6, 6, 6, 6, 6, 6, 6, 6, 6, 6, 6, 6, 6, 6, 6, 6, 6, 6, 4, 4, 4, 4, 4, 4, 14, 14, 14, 14, 14, 14, 14, 14, 14, 14, 14, 14, 14, 14, 14, 14, 14, 14, 14, 14, 14, 14, 14, 14, 14, 14, 4, 4, 4, 4, 0, 0, 0, 0, 0, 0, 0, 0, 0, 0, 0, 0, 0, 0, 0, 0, 0, 0, 0, 0, 0, 0, 0, 0, 0, 0, 0, 0, 0, 0, 0, 0, 0, 0, 0, 0, 0, 0, 0, 0, 0, 0, 0, 0, 0, 0, 0, 0, 0, 0, 0, 0, 0, 0, 0, 0, 0, 0, 0, 0, 0, 0, 0, 0, 0, 0, 0, 0, 0, 0, 0, 0, 0, 0, 0, 0, 0, 0, 0, 0, 0, 0, 0, 0, 0, 0, 0, 0, 0, 0, 0, 0, 0, 0, 0, 0, 0, 0, 0, 0, 0, 0, 0, 0, 0, 0, 0, 0, 0, 0, 0, 0, 0, 0, 0, 0, 0, 0, 0, 0, 0, 0, 0, 0, 0, 0, 0, 0, 0]
def cClasses : Array Value := (clsL.map fun n : Nat => Value.int .u8 (n : Int)).toArray
/-- The table lies where the program's start has laid it. -/
def Tabs (w : World) : Prop := ∃ t fr, w.heap[2]? = some (.cells cClasses t fr)
theorem lt_of_block {w : World} {b : Nat} {o : Obj} (h : w.heap[b]? = some o) : b < w.heap.size := by
  rcases Nat.lt_or_ge b w.heap.size with h' | h'
  · exact h'
  · rw [Array.getElem?_eq_none h'] at h; cases h
theorem Tabs.below {w w' : World} (h : Tabs w) (k : Below w.heap.size w w') : Tabs w' := by
  obtain ⟨t, fr, h0⟩ := h
  exact ⟨t, fr, (k.block 2 (lt_of_block h0)).trans h0⟩
theorem below_drewN (w : World) (n : Nat) : Below w.heap.size w (w.drewN n) := ⟨rfl, rfl, rfl, Nat.le_refl _, fun _ _ => rfl⟩
theorem bdrew {B : Nat} {a w : World} (h : Below B a w) (n : Nat) : Below B a (w.drewN n) := ⟨h.os, h.tape, h.output, h.size, h.block⟩

theorem cls_blank : ∀ n : Fin 256, (bits BinOp.and IntKind.u8 ((clsL.getD n.val 0 : Nat) : Int) 1 != 0) = (n.val == 9 || n.val == 32) := by decide +kernel
theorem isBl_nat (c : UInt8) : isBl c = (c.toNat == 9 || c.toNat == 32) := by
  unfold isBl
  have e : ∀ d : UInt8, (c == d) = (c.toNat == d.toNat) := fun d => by
    rw [Bool.eq_iff_iff, beq_iff_eq, beq_iff_eq]
    exact ⟨fun h => by rw [h], fun h => UInt8.toNat_inj.1 h⟩
  rw [e, e]; rfl
theorem cls_cell {w : World} (T : Tabs w) (c : UInt8) : ∃ n : Int, w.cell? ⟨2, c.toNat, none⟩ = some (.int .u8 n) ∧ (bits BinOp.and IntKind.u8 n 1 != 0) = isBl c := by
  obtain ⟨t, fr, h⟩ := T
  have hc : c.toNat < 256 := c.toNat_lt
  refine ⟨(clsL.getD c.toNat 0 : Nat), ?_, ?_⟩
  · rw [cell_of_row w 2 c.toNat cClasses t fr h]
    have hl : clsL.length = 256 := by decide +kernel
    have hg : clsL[c.toNat]? = some (clsL.getD c.toNat 0) := by
      rw [List.getD_eq_getElem?_getD, List.getElem?_eq_getElem (by omega)]; rfl
    unfold cClasses
    rw [List.getElem?_toArray, List.getElem?_map, hg]
    rfl
  · rw [isBl_nat]
    exact cls_blank ⟨c.toNat, hc⟩

theorem isBlank_ok (c : UInt8) (w : World) (T : Tabs w) : Calls Tryz.prog 125 #[.int .u8 c.toNat] w fun e w' => e = .returned (.bool (isBl c)) ∧ w = w' := by
  obtain ⟨n, h1, h2⟩ := cls_cell T c
  have hc := c.toNat_lt
  clear T
  go_enter Tryz.func125, Tryz.ntmps125
  go_wp2_with fail
  go_ret
  exact ⟨rfl, rfl⟩
theorem gap_ok (o : Option UInt8) (w : World) : Calls Tryz.prog 123 #[.int .i64 (match o with | some t => (t.toNat : Int) | none => -1)] w fun e w' => e = .returned (.int .i64 (gapN o)) ∧ w = w' := by
  cases o with
  | none =>
    go_enter Tryz.func123, Tryz.ntmps123
    go_wp2_with fail
    go_ret
    exact ⟨rfl, rfl⟩
  | some t =>
    have h : ((t.toNat : Int) == -1) = false := by rw [beq_eq_false_iff_ne]; omega
    go_enter Tryz.func123, Tryz.ntmps123
    go_wp2_with fail
    go_ret
    exact ⟨rfl, rfl⟩
end
end Go.Proofs.YtnpnccjeapejdaaGreatDoor
