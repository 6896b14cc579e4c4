/- The sources of lists and the order that counts, in memory. -/
import Derived.Test.YtjlcbhblpofjhaaMo
namespace Go.Proofs.Ytjlcbhblpofjhaa
open Go.RowKit
set_option maxRecDepth 100000
theorem Moves.sub {w w' : World} {X Z : Nat → Prop} (h : Moves w X w' X) (hs : ∀ b, X b → Z b) : Moves w Z w' Z :=
  ⟨h.os, h.tape, h.output, h.size, fun b hb hn => h.keep b hb (fun hx => hn (hs b hx)), fun _ hz => Or.inl hz⟩
structure BoxAt (k : Nat) (rb gb : Nat → Nat) (w : World) (s : OS) : Prop where
  rest : ∀ i, i < k → RestAt w (rb i) (gb i) (s.rest i)
  glt : ∀ i, i < k → gb i < w.heap.size
  apart : ∀ i j, i < k → j < k → i ≠ j → rb i ≠ rb j ∧ gb i ≠ rb j
def footB (k : Nat) (rb gb : Nat → Nat) (b : Nat) : Prop := ∃ i, i < k ∧ (b = rb i ∨ b = gb i)
theorem BoxAt.low {k : Nat} {rb gb : Nat → Nat} {w : World} {s : OS} (h : BoxAt k rb gb w s) {b : Nat} (hb : footB k rb gb b) : b < w.heap.size := by
  obtain ⟨i, hi, e | e⟩ := hb
  · rw [e]; exact (h.rest i hi).lt
  · rw [e]; exact h.glt i hi
theorem BoxAt.same {k : Nat} {rb gb : Nat → Nat} {w w' : World} {s : OS} (h : BoxAt k rb gb w s) (hs : w.heap.size ≤ w'.heap.size) (hk : ∀ b, footB k rb gb b → w'.heap[b]? = w.heap[b]?) : BoxAt k rb gb w' s :=
  ⟨fun i hi => (h.rest i hi).same hs (hk _ ⟨i, hi, Or.inl rfl⟩) (fun _ => hk _ ⟨i, hi, Or.inr rfl⟩), fun i hi => Nat.lt_of_lt_of_le (h.glt i hi) hs, h.apart⟩
theorem BoxAt.asked {k : Nat} {rb gb : Nat → Nat} {w w' : World} {s : OS} (h : BoxAt k rb gb w s) {i : Nat} (hi : i < k) (hr : RestAt w' (rb i) (gb i) (s.rest i).tail) (m : Moves w (fun b => b = rb i) w' (fun b => b = rb i)) : BoxAt k rb gb w' (nsOf s i).2 := by
  refine ⟨fun j hj => ?_, fun j hj => Nat.lt_of_lt_of_le (h.glt j hj) m.size, h.apart⟩
  show RestAt w' (rb j) (gb j) (upN s.rest i (s.rest i).tail j)
  by_cases e : j = i
  · subst e; rw [upN_same]; exact hr
  · rw [upN_other _ _ _ _ e]
    have a := h.apart j i hj hi e
    exact (h.rest j hj).same m.size (m.keep _ (h.rest j hj).lt a.1) (fun _ => m.keep _ (h.glt j hj) a.2)
theorem BoxAt.of {k : Nat} {rb gb : Nat → Nat} {w : World} {s s' : OS} (h : BoxAt k rb gb w s) (e : s'.rest = s.rest) : BoxAt k rb gb w s' := ⟨fun i hi => by rw [e]; exact h.rest i hi, h.glt, h.apart⟩
theorem w64_next (n : Nat) : wrap64 (wrap64 (n : Int) + 1) = wrap64 ((n + 1 : Nat) : Int) := by
  unfold wrap64
  omega
def CountR (w : World) (cb : Nat) (z r : Int) (e : Ending) (w' : World) : Prop := e = .returned (.int .i64 r) ∧ CellsAt w' cb [.int .i64 z] ∧ Moves w (fun b => b = cb) w' (fun b => b = cb)
set_option maxHeartbeats 1600000 in
theorem count_ok {w : World} {cb n : Nat} (h : CellsAt w cb [.int .i64 (wrap64 (n : Int))]) (xk xw yk yw : Int) :
    Calls Try.prog 13 #[.agg #[.int .i64 xk, .int .i64 xw], .agg #[.int .i64 yk, .int .i64 yw], .pointer (some ⟨cb, 0, none⟩)] w (CountR w cb (wrap64 ((n + 1 : Nat) : Int)) (cmpK xk yk)) := by
  have B1 := Lib.hid (((Below.refl w.heap.size w).alloc (Nat.le_refl _) (.cells #[.int .i64 xk, .int .i64 xw] 28)).alloc (by simp) (.cells #[.int .i64 yk, .int .i64 yw] 28))
  have P1 := Lib.hid (show CellsAt ((w.alloc (.cells #[.int .i64 xk, .int .i64 xw] 28)).alloc (.cells #[.int .i64 yk, .int .i64 yw] 28)) w.heap.size [.int .i64 xk, .int .i64 xw] from pair_first w _ _ 28 28)
  have Q1 := Lib.hid (show CellsAt ((w.alloc (.cells #[.int .i64 xk, .int .i64 xw] 28)).alloc (.cells #[.int .i64 yk, .int .i64 yw] 28)) (w.heap.size + 1) [.int .i64 yk, .int .i64 yw] from pair_second w _ _ 28 28)
  have HC := Lib.hid (h.keep B1.out h.lt)
  have NE := Lib.hid (show cb ≠ w.heap.size ∧ cb ≠ w.heap.size + 1 by have := h.lt; omega)
  have WN := Lib.hid (w64_next n)
  generalize wrap64 ((n + 1 : Nat) : Int) = z' at WN ⊢
  generalize hz : wrap64 (n : Int) = z at *
  clear hz h
  go_enter Try.func13, Try.ntmps13
  go_upto_region 1 with fail
  generalize (w.alloc (.cells #[.int .i64 xk, .int .i64 xw] 28)).alloc (.cells #[.int .i64 yk, .int .i64 yw] 28) = x1 at B1 P1 Q1 HC ⊢
  have c0 := HC.out.cell 0 _ rfl
  have f0 := HC.out.free 0
  have lc := HC.out.lt
  have wn := WN.out
  go_upto_region 2 with fail
  clear wn c0 f0 lc
  have P2 := Lib.hid (P1.out.other (c := cb) NE.out.1 0 (.int .i64 z'))
  have Q2 := Lib.hid (Q1.out.other (c := cb) NE.out.2 0 (.int .i64 z'))
  have C2 := Lib.hid (show CellsAt (x1.setCell ⟨cb, 0, none⟩ (.int .i64 z')) cb [.int .i64 z'] from HC.out.set 0 (.int .i64 z') (by simp))
  have M2 := Lib.hid ((Moves.below B1.out (fun b => b = cb)).set (a := ⟨cb, 0, none⟩) rfl (.int .i64 z'))
  clear P1 Q1 HC B1
  generalize x1.setCell ⟨cb, 0, none⟩ (.int .i64 z') = x2 at P2 Q2 C2 M2 ⊢
  have p0 := P2.out.cell 0 _ rfl
  have p1 := P2.out.cell 1 _ rfl
  have q0 := Q2.out.cell 0 _ rfl
  have q1 := Q2.out.cell 1 _ rfl
  have lp := P2.out.lt
  have lq := Q2.out.lt
  have BK := Lib.hid (byKey_ok xk xw yk yw x2)
  generalize cmpK xk yk = r at *
  go_wp2_with fail
  refine BK.out.mono ?_
  rintro e w3 ⟨rfl, hb⟩
  have C3 := Lib.hid (C2.out.step hb)
  have M3 := Lib.hid (M2.out.trans (Moves.below hb _))
  clear hb
  go_wp2_with fail
  go_ret
  exact ⟨rfl, C3.out, M3.out⟩

/-- The environment of a tree of lists whose order counts. -/
def EC (k : Nat) (rb gb : Nat → Nat) (cb : Nat) : Env OS where
  S := fun w Y s => Y = (fun b => footB k rb gb b ∨ b = cb) ∧ BoxAt k rb gb w s ∧ CellsAt w cb [.int .i64 (wrap64 (s.calls : Int))] ∧ ∀ i, i < k → rb i ≠ cb ∧ gb i ≠ cb
  oF := 13
  oC := #[.pointer (some ⟨cb, 0, none⟩)]
  sF := fun _ => 36
  sC := fun i => #[.pointer (some ⟨rb i, 0, none⟩)]
  nO := fun s x y => (cmpK x.key y.key, { s with calls := s.calls + 1 })
  nS := nsOf
theorem EC_of (k : Nat) (rb gb : Nat → Nat) (cb : Nat) : OfEnv (EC k rb gb cb) := ⟨fun _ _ _ => rfl, fun _ _ _ => rfl, fun _ _ => rfl⟩
theorem EC_ok (k : Nat) (rb gb : Nat → Nat) (cb : Nat) : (EC k rb gb cb).Ok k where
  enterO := fun args w => by show Sem.run Try.prog (callFunc 13 args) w = .ok (.enter 13 args) w; kernel_rfl
  enterS := fun i _ args w => by show Sem.run Try.prog (callFunc 36 args) w = .ok (.enter 36 args) w; kernel_rfl
  low := fun w Y s h b hb => by
    obtain ⟨rfl, h1, h2, h3⟩ := h
    exact hb.elim h1.low (fun e => e ▸ h2.lt)
  stable := fun w w' Y s h hs hk => by
    obtain ⟨rfl, h1, h2, h3⟩ := h
    have kc := hk cb (Or.inr rfl)
    exact ⟨rfl, h1.same hs fun b hb => hk b (Or.inl hb), ⟨Nat.lt_of_lt_of_le h2.lt hs, fun j v hv => (World.cell?_of_block (w := w) (a := ⟨cb, j, none⟩) kc).trans (h2.cell j v hv), fun j => (World.frozen?_of_block (w := w) (a := ⟨cb, j, none⟩) kc).trans (h2.free j)⟩, h3⟩
  order := fun w Y s x y h => by
    obtain ⟨rfl, h1, h2, h3⟩ := h
    refine (count_ok h2 x.key x.who y.key y.who).mono ?_
    rintro e w' ⟨rfl, hc, hm⟩
    have nf : ∀ b, footB k rb gb b → b ≠ cb := fun b ⟨i, hi, e⟩ => by
      have := h3 i hi
      rcases e with e | e
      · rw [e]; exact this.1
      · rw [e]; exact this.2
    exact ⟨rfl, _, ⟨rfl, (h1.same hm.size fun b hb => hm.keep b (h1.low hb) (nf b hb)).of rfl, hc, h3⟩, hm.sub fun b hb => Or.inr hb⟩
  source := fun w Y s i hi h => by
    obtain ⟨rfl, h1, h2, h3⟩ := h
    refine (of1_ok (h1.rest i hi)).mono ?_
    rintro e w' ⟨rfl, hr, hm⟩
    exact ⟨rfl, _, ⟨rfl, h1.asked hi hr hm, hm.cells h2 (fun e => (h3 i hi).1 e.symm), h3⟩, hm.sub fun b hb => Or.inl ⟨i, hi, Or.inl hb⟩⟩
/-- The environment of a tree of lists, ordered by the keys. -/
def EK (k : Nat) (rb gb : Nat → Nat) : Env OS where
  S := fun w Y s => Y = footB k rb gb ∧ BoxAt k rb gb w s
  oF := 14
  oC := #[]
  sF := fun _ => 36
  sC := fun i => #[.pointer (some ⟨rb i, 0, none⟩)]
  nO := fun s x y => (cmpK x.key y.key, s)
  nS := nsOf
theorem EK_of (k : Nat) (rb gb : Nat → Nat) : OfEnv (EK k rb gb) := ⟨fun _ _ _ => rfl, fun _ _ _ => rfl, fun _ _ => rfl⟩
theorem EK_ok (k : Nat) (rb gb : Nat → Nat) : (EK k rb gb).Ok k where
  enterO := fun args w => by show Sem.run Try.prog (callFunc 14 args) w = .ok (.enter 14 args) w; kernel_rfl
  enterS := fun i _ args w => by show Sem.run Try.prog (callFunc 36 args) w = .ok (.enter 36 args) w; kernel_rfl
  low := fun w Y s h b hb => by
    obtain ⟨rfl, h1⟩ := h
    exact h1.low hb
  stable := fun w w' Y s h hs hk => by
    obtain ⟨rfl, h1⟩ := h
    exact ⟨rfl, h1.same hs fun b hb => hk b hb⟩
  order := fun w Y s x y h => by
    obtain ⟨rfl, h1⟩ := h
    refine (byKey_ok x.key x.who y.key y.who w).mono ?_
    rintro e w' ⟨rfl, hb⟩
    exact ⟨rfl, _, ⟨rfl, h1.same hb.size fun b hf => hb.block b (h1.low hf)⟩, Moves.below hb _⟩
  source := fun w Y s i hi h => by
    obtain ⟨rfl, h1⟩ := h
    refine (of1_ok (h1.rest i hi)).mono ?_
    rintro e w' ⟨rfl, hr, hm⟩
    exact ⟨rfl, _, ⟨rfl, h1.asked hi hr hm⟩, hm.sub fun b hb => ⟨i, hi, Or.inl hb⟩⟩
end Go.Proofs.Ytjlcbhblpofjhaa
