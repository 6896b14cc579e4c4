/- numeral's value of a text. -/
import Derived.Test.YtpbbgmfjdachnaaDoorZero
namespace Go.Proofs.YtpbbgmfjdachnaaDoor
open Go.RowKit

/-- A block whose cells are known, and may be written. -/
structure CellsAt (w : World) (b : Nat) (vs : List Value) : Prop where
  lt : b < w.heap.size
  cell : ∀ (j : Nat) v, vs[j]? = some v → w.cell? ⟨b, j, none⟩ = some v
  free : ∀ j, w.frozen? ⟨b, j, none⟩ = false
theorem CellsAt.step {w w' : World} {b : Nat} {vs : List Value} (h : CellsAt w b vs) (k : Below w.heap.size w w') : CellsAt w' b vs :=
  ⟨Nat.lt_of_lt_of_le h.lt k.size, fun j v hv => ((bcell k).1 b j h.lt).trans (h.cell j v hv), fun j => ((bcell k).2 b j h.lt).trans (h.free j)⟩
theorem CellsAt.new (w : World) (vs : List Value) (t : TypeId) : CellsAt (w.alloc (.cells vs.toArray t)) w.heap.size vs :=
  ⟨by simp, fun j v hv => by rw [World.cell?_alloc_at _ _ _ _ rfl]; simpa using hv, fun j => by simp⟩
theorem CellsAt.set {w : World} {b : Nat} {vs : List Value} (h : CellsAt w b vs) (j : Nat) (x : Value) (hj : j < vs.length) : CellsAt (w.setCell ⟨b, j, none⟩ x) b (vs.set j x) := by
  refine ⟨by simpa using h.lt, fun i v hv => ?_, fun i => by rw [World.frozen?_setCell]; exact h.free i⟩
  rw [List.getElem?_set] at hv
  by_cases e : j = i
  · subst e
    rw [if_pos rfl, if_pos hj] at hv
    cases hv
    exact World.cell?_setCell_same _ _ _ (h.cell j vs[j] (List.getElem?_eq_getElem hj))
  · rw [if_neg e] at hv
    rw [World.cell?_setCell_other _ _ _ _ (by simp; try omega)]
    exact h.cell i v hv
theorem CellsAt.other {w : World} {b c : Nat} {vs : List Value} (h : CellsAt w b vs) (hc : c ≠ b) (j : Nat) (x : Value) : CellsAt (w.setCell ⟨c, j, none⟩ x) b vs :=
  ⟨by simpa using h.lt, fun i v hv => by rw [World.cell?_setCell_other _ _ _ _ (fun e => hc (congrArg Addr.block e))]; exact h.cell i v hv, fun i => by rw [World.frozen?_setCell]; exact h.free i⟩
theorem CellsAt.alloc {w : World} {b : Nat} {vs : List Value} (h : CellsAt w b vs) (o : Obj) : CellsAt (w.alloc o) b vs := h.step ((Below.refl _ _).alloc (Nat.le_refl _) o)

def valV (v : Val) : Value := .agg #[.int .u8 v.cls, .int .i64 v.rank, .int .i64 v.exp, .string (bs v.whole), .string (bs v.frac)]

theorem expS_le (l : List UInt8) : -1099511627776 ≤ (expS l).1 ∧ (expS l).1 ≤ 1099511627776 ∧ (expS l).2 ≤ l.length := by
  have b := satS_le ((l.drop (1 + expSg l)).takeWhile isDig) 0 (by omega)
  have n := spanN_le isDig (l.drop (1 + expSg l))
  simp only [List.length_drop] at n
  unfold expS
  split
  · split
    · simp
    · have m : ∀ (q : Bool) (n : Nat), n ≤ 1099511627776 → -1099511627776 ≤ (if q = true then -(n : Int) else n) ∧ (if q = true then -(n : Int) else n) ≤ 1099511627776 := fun q n hn => by
        cases q
        · simp; omega
        · simp; omega
      refine ⟨(m _ _ b).1, (m _ _ b).2, ?_⟩
      show 1 + expSg l + spanN isDig (l.drop (1 + expSg l)) ≤ l.length
      omega
  · simp
theorem hdNone_ok : HdOk Hd.none := ⟨by show 0 ≤ _; omega, by show 0 ≤ _; omega, by show (-1099511627776 : Int) ≤ 0 ∧ (0 : Int) ≤ 1099511627776; omega, by show 0 ≤ _; omega, by show 0 ≤ _; omega⟩
theorem hdNum_ok {n : Bool} {a b : List UInt8} {e : Int} {k : Nat} (ha : a.length ≤ 1125899906842624) (hb : b.length ≤ 1125899906842624) (he : -1099511627776 ≤ e ∧ e ≤ 1099511627776) (hk : k ≤ 1125899906842632) : HdOk ⟨3, n, a, b, e, k⟩ := ⟨ha, hb, he, hk, by show 3 ≤ 4; omega⟩
theorem scanS_ok (s : ByteArray) (g : Bool) (hs : s.size ≤ 1125899906842624) : HdOk (scanS s.data.toList g) := by
  by_cases hw : scWord s g
  · obtain ⟨rfl, hp⟩ := hw
    have e := scan_word s ⟨rfl, hp⟩
    unfold scL at e
    rw [e]
    have h1 := pos_le s true
    have h2 := wordS_le (scR1 s true) (scNeg s)
    refine ⟨by simp, by simp, by simp, ?_, ?_⟩
    · show scF s true + (wordS (scR1 s true) (scNeg s)).2 ≤ 1125899906842632
      omega
    · show (wordS (scR1 s true) (scNeg s)).1 ≤ 4
      unfold wordS
      repeat' split
      all_goals simp
  · have e := scan_num s g hw
    unfold scL at e
    rw [e]
    have h1 := pos_le s g
    have d1 := pos_drop s g
    have h2 := expS_le ((scR2 s g).drop (fracN (scR2 s g)))
    have l1 : (scWhole s g).length ≤ s.size := by unfold scWhole; show spanN isDig (scR1 s g) ≤ s.size; have : scW s g = spanN isDig (scR1 s g) := rfl; omega
    have l2 : (fracS (scR2 s g)).length ≤ s.size := by
      have : (fracS (scR2 s g)).length ≤ fracN (scR2 s g) := by
        unfold fracS fracN
        split
        · show spanN isDig _ ≤ _; omega
        · simp
      omega
    have l3 : ((scR2 s g).drop (fracN (scR2 s g))).length + (scF s g + scW s g + fracN (scR2 s g)) ≤ s.size := by
      rw [← d1]; unfold expL; rw [List.length_drop, ← Lib.size_eq]; omega
    have m : ∀ c : Prop, [Decidable c] → ∀ x y : Hd, HdOk x → HdOk y → HdOk (if c then x else y) := fun c _ x y hx hy => by
      split
      · exact hx
      · exact hy
    unfold numberS
    refine m _ _ _ hdNone_ok (m _ _ _ ?_ ?_)
    · refine hdNum_ok (Nat.le_trans l1 hs) (Nat.le_trans l2 hs) ⟨h2.1, h2.2.1⟩ ?_
      show scF s g + scW s g + fracN (scR2 s g) + (expS ((scR2 s g).drop (fracN (scR2 s g)))).2 ≤ _
      omega
    · refine hdNum_ok (Nat.le_trans l1 hs) (Nat.le_trans l2 hs) ⟨by omega, by omega⟩ ?_
      show scF s g + scW s g + fracN (scR2 s g) ≤ _
      omega
end Go.Proofs.YtpbbgmfjdachnaaDoor
