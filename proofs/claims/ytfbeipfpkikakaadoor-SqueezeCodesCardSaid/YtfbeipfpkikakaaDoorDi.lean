/- Slices of numbers that came in. -/
import Derived.Test.YtfbeipfpkikakaaDoorDr
import Derived.Test.YtfbeipfpkikakaaDoorCz
namespace Go.Proofs.YtfbeipfpkikakaaDoor
open Go.ChangeShapes Go.WideShapes Go.ChangeAt Go.RowKit

set_option maxRecDepth 100000
/-- A slice of numbers that came in. -/
theorem open_is {H : Type} {enc : TypeId × Value → H} {W : World} {sp : Nat → Bool} {v : Value} {d : DataW H} {p : List MemPlace} (hv : Value.okWide Tryd.prog W .any 0 29 v) (h : DataW.Trod enc Tryd.prog W 0 sp true 29 v d p) :
    ∃ (l : List Int) (a : Option Addr) (c : Nat), v = .slice a l.length c ∧ SlZ W (.slice a l.length c) l ∧ l.length ≤ c ∧ c ≤ 9223372036854775807 ∧ (l = [] ∨ ∃ elems spare, d = .slice elems spare ∧ l.length ≤ elems.length) := by
  obtain ⟨a, len, cap, rfl⟩ := okWide_slice Tryd.underlying29 hv
  obtain ⟨fuel, hf⟩ := h
  rcases open_ints Tryd.underlying29 Tryd.underlying3 (by kernel_rfl) hf with ⟨hcs, _⟩ | ⟨x, l, c, zs, hcs, hbb, hl, hm, hz, hx, hcell, hwf⟩
  · simp [Value.cells] at hcs
    obtain ⟨rfl, rfl, rfl⟩ := hcs
    exact ⟨[], none, 0, rfl, ⟨none, 0, rfl, fun _ => rfl, .inl rfl⟩, Nat.le_refl _, by omega, .inl rfl⟩
  · simp [Value.cells] at hcs
    obtain ⟨rfl, rfl, rfl⟩ := hcs
    have hd0 := congrArg Prod.fst hx
    simp only at hd0
    have hzl : len ≤ zs.length := by rw [hz]; split <;> omega
    have e : (zs.take len).length = len := by simp; omega
    refine ⟨zs.take len, some x, cap, by rw [e], ?_, by rw [e]; exact hl, hm, ?_⟩
    · refine ⟨some x, cap, rfl, (fun h => by cases h), ?_⟩
      rcases Nat.eq_zero_or_pos len with h0 | h0
      · left; exact List.eq_nil_of_length_eq_zero (by rw [e, h0])
      · right
        obtain ⟨pb, po, spot⟩ := x
        have hc0 := hcell 0 (by omega)
        have hspot : spot = none := by simpa [Addr.add] using World.cell?_spot hc0
        subst hspot
        have hlt : pb < W.heap.size := by
          rcases Nat.lt_or_ge pb W.heap.size with h' | h'
          · exact h'
          · rw [add_plain] at hc0
            unfold World.cell? at hc0
            simp only [Array.getElem?_eq_none h'] at hc0
            cases hc0
        refine ⟨pb, po, rfl, hlt, fun j u hu => ?_⟩
        have hj : j < len := by have := (List.getElem?_eq_some_iff.1 hu).1; rw [e] at this; exact this
        have hcj := hcell j (by omega)
        rw [add_plain] at hcj
        rw [hcj]
        rw [List.getElem?_take, if_pos hj] at hu
        rw [List.getD_eq_getElem?_getD, hu]
        rfl
    · right
      refine ⟨_, _, hd0, ?_⟩
      rw [e]
      simp [Go.ChangeShapes.lits]; omega
theorem small_is {H : Type} {ts : List TypeId} {ds : List (DataW H)} {j : Nat} {l : List Int} {d : DataW H} (h : (DataW.weightsEach Tryd.prog ts ds).all (· ≤ reachBytes) = true) (ht : ts[j]? = some 29) (hd : ds[j]? = some d)
    (hl : l = [] ∨ ∃ elems spare, d = .slice elems spare ∧ l.length ≤ elems.length) : l.length * 8 ≤ 140737488351232 := by
  rcases hl with rfl | ⟨e, s, rfl, h2⟩
  · simp
  · have := sized_slice h ht hd Tryd.underlying29
    rw [show Tryd.prog.bytesOf 3 = 8 by kernel_rfl, Nat.add_mul] at this
    unfold reachBytes at this
    omega
end Go.Proofs.YtfbeipfpkikakaaDoor
