/- TreeCompared: its lists made sources. -/
import Derived.Test.YtjlcbhblpofjhaaLc
namespace Go.Proofs.Ytjlcbhblpofjhaa
open Go.RowKit
set_option maxRecDepth 100000
def RetTrue (w : World) (e : Ending) (w' : World) : Prop := e = .returned (.bool true) ∧ Below w.heap.size w w'
set_option maxHeartbeats 1600000 in
theorem compared_long {w : World} {a : Option Addr} {n c : Nat} (hl : 64 < n) : Calls Try.prog 3 #[.slice a n c] w (RetTrue w) := by
  have t1 : decide ((64 : Int) < (n : Int)) = true := decide_eq_true (by omega)
  have t1n : decide (64 < n) = true := decide_eq_true hl
  clear hl
  go_enter Try.func3, Try.ntmps3
  go_wp2_with fail
  go_ret
  exact ⟨rfl, Below.refl _ _⟩
def osOf (ls : List (List It)) : OS := ⟨fun i => ls.getD i [], 0⟩
def lenN (ls : List (List It)) : Nat → Nat := tot (fun i => (ls.getD i []).length)
/-- So many of the lists are sources. -/
structure SrcsAt (w : World) (ls : List (List It)) (i : Nat) (rb gb : Nat → Nat) (sv : Value) (wr : World) : Prop where
  row : wr.ownsRow w.heap.size 25 1 sv i (srcV i (fun _ => 36) (fun j => #[.pointer (some ⟨rb j, 0, none⟩)]))
  box : BoxAt i rb gb wr (osOf ls)
  cnt : CellsAt wr w.heap.size [.int .i64 0]
  cn : NotSrc wr w.heap.size
  nt : ∀ b, footB i rb gb b → NotSrc wr b ∧ w.heap.size < b
  bel : Below w.heap.size w wr
  nil : i = 0 → sv = .slice none 0 0
def SrcsR (w : World) (ls : List (List It)) (sv nv iv : Value) (wr : World) : Prop :=
  ∃ (i : Nat) (rb gb : Nat → Nat), nv = .int .i64 (lenN ls i : Int) ∧ iv = .int .i64 (i : Int) ∧ i ≤ ls.length ∧ SrcsAt w ls i rb gb sv wr
theorem SrcsAt.below {w : World} {ls : List (List It)} {i : Nat} {rb gb : Nat → Nat} {sv : Value} {wr wx : World} (h : SrcsAt w ls i rb gb sv wr) (b : Below wr.heap.size wr wx) : SrcsAt w ls i rb gb sv wx :=
  ⟨own_below h.row b, h.box.same b.size fun c hc => b.block c (h.box.low hc), h.cnt.step b, h.cn.below b, fun c hc => ⟨(h.nt c hc).1.below b, (h.nt c hc).2⟩, h.bel.trans (b.mono h.bel.size), h.nil⟩
theorem foot_up {i : Nat} {rb gb : Nat → Nat} {r g b : Nat} (h : footB (i + 1) (upN rb i r) (upN gb i g) b) : footB i rb gb b ∨ b = r ∨ b = g := by
  obtain ⟨j, hj, e⟩ := h
  by_cases c : j = i
  · subst c
    rw [upN_same, upN_same] at e
    exact Or.inr e
  · rw [upN_other _ _ _ _ c, upN_other _ _ _ _ c] at e
    exact Or.inl ⟨j, by omega, e⟩
/-- One more. -/
theorem SrcsAt.more {w : World} {ls : List (List It)} {i : Nat} {rb gb : Nat → Nat} {sv sv' : Value} {wr w1 w2 : World} {r g : Nat} (h : SrcsAt w ls i rb gb sv wr) (b1 : Below wr.heap.size wr w1) (hr : RestAt w1 r g (ls.getD i [])) (r1 : wr.heap.size ≤ r) (g1 : wr.heap.size ≤ g) (gl : g < w1.heap.size) (rn : NotSrc w1 r) (gn : NotSrc w1 g)
    (row : w2.ownsRow w.heap.size 25 1 sv' (i + 1) (srcV i (fun _ => 36) (fun j => #[.pointer (some ⟨rb j, 0, none⟩)]) ++ [.func (.func 36) #[] #[.pointer (some ⟨r, 0, none⟩)]])) (b2 : Below w.heap.size w1 w2) (k2 : Keep25 w1 w2) : SrcsAt w ls (i + 1) (upN rb i r) (upN gb i g) sv' w2 := by
  have h1 := h.below b1
  have old : ∀ b, footB i rb gb b → b < wr.heap.size := fun b hb => h.box.low hb
  have kb : ∀ b, footB i rb gb b → NotSrc w2 b ∧ w2.heap[b]? = w1.heap[b]? := fun b hb => (h1.nt b hb).1.keep k2
  have box1 := h1.box.same b2.size fun b hb => (kb b hb).2
  have rk := rn.keep k2
  have gk := gn.keep k2
  have wl := h.bel.size
  have cl := h.cnt.lt
  refine ⟨?_, ⟨fun j hj => ?_, fun j hj => ?_, fun j l hj hl hjl => ?_⟩, ?_, (h1.cn.keep k2).1, fun b hb => ?_, h1.bel.trans b2, fun h => by omega⟩
  · rw [srcV_snoc, upN_same]
    rw [srcV_congr (sF := fun _ => 36) (sF' := fun _ => 36) (sC := fun j => #[Value.pointer (some ⟨upN rb i r j, 0, none⟩)]) (sC' := fun j => #[Value.pointer (some ⟨rb j, 0, none⟩)]) (fun j hj => ⟨rfl, by show #[Value.pointer (some ⟨upN rb i r j, 0, none⟩)] = _; rw [upN_other _ _ _ _ (by omega)]⟩)]
    exact row
  · by_cases c : j = i
    · subst c
      rw [upN_same, upN_same]
      exact hr.same b2.size rk.2 fun _ => gk.2
    · rw [upN_other _ _ _ _ c, upN_other _ _ _ _ c]
      exact box1.rest j (by omega)
  · by_cases c : j = i
    · subst c
      rw [upN_same]
      exact Nat.lt_of_lt_of_le gl b2.size
    · rw [upN_other _ _ _ _ c]
      exact box1.glt j (by omega)
  · by_cases c : j = i
    · subst c
      rw [upN_same, upN_same, upN_other _ _ _ _ (fun e => hjl e.symm)]
      have := old (rb l) ⟨l, by omega, Or.inl rfl⟩
      omega
    · by_cases d : l = i
      · subst d
        rw [upN_same, upN_other _ _ _ _ c, upN_other _ _ _ _ c]
        have := old (rb j) ⟨j, by omega, Or.inl rfl⟩
        have := old (gb j) ⟨j, by omega, Or.inr rfl⟩
        omega
      · rw [upN_other _ _ _ _ c, upN_other _ _ _ _ c, upN_other _ _ _ _ d]
        exact h.box.apart j l (by omega) (by omega) hjl
  · have ck := (h1.cn.keep k2).2
    exact ⟨Nat.lt_of_lt_of_le h1.cnt.lt b2.size, fun j v hv => (World.cell?_of_block (w := w1) (a := ⟨w.heap.size, j, none⟩) ck).trans (h1.cnt.cell j v hv), fun j => (World.frozen?_of_block (w := w1) (a := ⟨w.heap.size, j, none⟩) ck).trans (h1.cnt.free j)⟩
  · rcases foot_up hb with c | c | c
    · exact ⟨(kb b c).1, (h.nt b c).2⟩
    · subst c; exact ⟨rk.1, by omega⟩
    · subst c; exact ⟨gk.1, by omega⟩
end Go.Proofs.Ytjlcbhblpofjhaa
