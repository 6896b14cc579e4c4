/- The answer's Effective in every case; SameOptions of options that hold the same. -/
import Derived.Test.YtbgbmojoldkcfaaRefSome
namespace Go.Proofs.Ytbgbmojoldkcfaa
open Go.RowKit

theorem ref_ok (o : Opt) (ks : List KeyL) (kv fv : Value) (w : World) (hk : SlAt w w.heap.size kv 6 ks.length (ksV ks)) (hkl : ks.length * 40 ≤ 140737488355328) :
    Calls Try.prog 7 #[optV o kv fv] w (RetKeys w ((dflt ks).map (own o))) := by
  unfold dflt
  by_cases h : ks = []
  · subst h
    rw [if_pos rfl]
    exact ref_nil o kv fv w hk
  · rw [if_neg h]
    have hne : ks.length ≠ 0 := fun e => h (List.eq_nil_of_length_eq_zero e)
    rcases hk.2 with ⟨_, h0⟩ | ⟨b, off, c, rfl, hb, hc⟩
    · exact absurd h0 hne
    · exact ref_some o ks fv b off c w hb hc hne hkl

/-- A slice whose elements are where its address says. -/
structure SlV (w : World) (ao : Option Addr) (n size : Nat) (xs : List Value) : Prop where
  len : xs.length = n * size
  at_ : 0 < n → ∃ b off, ao = some ⟨b, off, none⟩ ∧ b < w.heap.size ∧ ∀ j u, xs[j]? = some u → w.cell? ⟨b, off + j, none⟩ = some u
theorem SlAt.val {w : World} {v : Value} {size n : Nat} {xs : List Value} (h : SlAt w w.heap.size v size n xs) : ∃ ao c, v = .slice ao n c ∧ SlV w ao n size xs := by
  rcases h.2 with ⟨rfl | ⟨ad, c, rfl⟩, rfl⟩ | ⟨b, off, c, rfl, hb, hc⟩
  · exact ⟨none, 0, rfl, h.1, fun h => absurd h (by omega)⟩
  · exact ⟨_, c, rfl, h.1, fun h => absurd h (by omega)⟩
  · exact ⟨_, c, rfl, h.1, fun _ => ⟨b, off, rfl, hb, hc⟩⟩
theorem own_slat {w : World} {B : Nat} {e : TypeId} {size n : Nat} {v : Value} {xs : List Value} (h : w.ownsRow B e size v n xs) : SlAt w w.heap.size v size n xs := by
  refine ⟨h.1, ?_⟩
  by_cases h0 : n = 0
  · subst h0
    rcases h.2 with ⟨rfl, _⟩ | ⟨g, cap, cur, hv, hb, hg, rest⟩
    · exact Or.inl ⟨Or.inl rfl, rfl⟩
    · have hx : xs = [] := List.eq_nil_of_length_eq_zero (by rw [h.1]; omega)
      exact Or.inr ⟨g, 0, cap, hv, (Array.getElem?_eq_some_iff.1 hg).1, fun j u hu => by rw [hx] at hu; cases hu⟩
  · obtain ⟨g, c, rfl, _, hl, hr, _⟩ := own_row h h0
    exact Or.inr ⟨g, 0, c, rfl, hl, fun j u hu => hr j u hu⟩

structure SoIn (w : World) (o : Opt) (k1 f1 k2 f2 : Value) (wr : World) : Prop where
  c1 : CellsAt wr w.heap.size (optC o k1 f1)
  c2 : CellsAt wr (w.heap.size + 1) (optC o k2 f2)
  below : Below w.heap.size w wr
theorem CellsAt.drewN {w : World} {b : Nat} {vs : List Value} (h : CellsAt w b vs) (n : Nat) : CellsAt (w.drewN n) b vs := ⟨h.lt, h.cell, h.free⟩
theorem SoIn.drewN {w : World} {o : Opt} {k1 f1 k2 f2 : Value} {wr : World} (h : SoIn w o k1 f1 k2 f2 wr) (n : Nat) : SoIn w o k1 f1 k2 f2 (wr.drewN n) := ⟨h.c1.drewN n, h.c2.drewN n, bdrewK h.below n⟩
theorem SoIn.start (w : World) (o : Opt) (k1 f1 k2 f2 : Value) : SoIn w o k1 f1 k2 f2 ((w.alloc (Obj.cells (optC o k1 f1).toArray 28)).alloc (Obj.cells (optC o k2 f2).toArray 28)) := by
  have h := CellsAt.new (w.alloc (Obj.cells (optC o k1 f1).toArray 28)) (optC o k2 f2) 28
  rw [show (w.alloc (Obj.cells (optC o k1 f1).toArray 28)).heap.size = w.heap.size + 1 by simp] at h
  exact ⟨(CellsAt.new w (optC o k1 f1) 28).alloc _, h, ((Below.refl w.heap.size w).alloc (Nat.le_refl _) _).alloc (by simp) _⟩
def RetB (w : World) (v : Value) (e : Ending) (w' : World) : Prop := e = .returned v ∧ Below w.heap.size w w'

set_option maxRecDepth 100000
set_option maxHeartbeats 1600000 in
theorem same_ok (o : Opt) (ks : List KeyL) (l : List ByteArray) (ka kb fa fb : Option Addr) (kc1 kc2 fc1 fc2 : Nat) (w : World)
    (h1 : SlV w ka ks.length 6 (ksV ks)) (h2 : SlV w kb ks.length 6 (ksV ks)) (h3 : SlV w fa l.length 1 (wsV l)) (h4 : SlV w fb l.length 1 (wsV l)) (hkl : ks.length * 40 ≤ 140737488355328) (hfl : l.length * 16 ≤ 140737488355328) :
    Calls Try.prog 8 #[optV o (.slice ka ks.length kc1) (.slice fa l.length fc1), optV o (.slice kb ks.length kc2) (.slice fb l.length fc2)] w (RetB w (.bool true)) := by
  have H1 := Lib.hid h1
  have H2 := Lib.hid h2
  have H3 := Lib.hid h3
  have H4 := Lib.hid h4
  clear h1 h2 h3 h4
  have S0 := Lib.hid (SoIn.start w o (.slice ka ks.length kc1) (.slice fa l.length fc1) (.slice kb ks.length kc2) (.slice fb l.length fc2))
  unfold optV optC
  have a0 := S0.out.c1.cell 0 _ rfl
  have a17 := S0.out.c1.cell 17 _ rfl
  have b0 := S0.out.c2.cell 0 _ rfl
  have b17 := S0.out.c2.cell 17 _ rfl
  unfold optC at a0 a17 b0 b17
  go_enter Try.func8, Try.ntmps8
  go_wp2_with fail
  go_loopw [5] (fun i wr => ∃ k : Nat, k ≤ ks.length ∧ i = .int .i64 k ∧ SoIn w o (.slice ka ks.length kc1) (.slice fa l.length fc1) (.slice kb ks.length kc2) (.slice fb l.length fc2) wr) (fun i _ => ks.length - (match i with | .int _ z => z.toNat | _ => 0))
  case atStart => exact ⟨0, by omega, rfl, S0.out⟩
  case round =>
    obtain ⟨k, hk, rfl, hS⟩ := hrel
    have HS := Lib.hid hS
    clear hS S0 a0 a17 b0 b17
    have a0 := HS.out.c1.cell 0 _ rfl
    have b0 := HS.out.c2.cell 0 _ rfl
    by_cases hlt : k < ks.length
    · have t1 : decide ((k : Int) < (ks.length : Int)) = true := by simpa using hlt
      obtain ⟨p1, o1, e1, hp1, hc1⟩ := H1.out.at_ (by omega)
      obtain ⟨p2, o2, e2, hp2, hc2⟩ := H2.out.at_ (by omega)
      rw [e1] at a0
      rw [e2] at b0
      have A := ks_at (fun j u hu => (HS.out.below.cell (p := ⟨p1, o1 + j, none⟩) hp1).trans (hc1 j u hu)) k hlt
      have B := ks_at (fun j u hu => (HS.out.below.cell (p := ⟨p2, o2 + j, none⟩) hp2).trans (hc2 j u hu)) k hlt
      clear hc1 hc2 e1 e2
      generalize ks[k] = K at A B
      have x0 := A 0 _ rfl
      have x1 := A 1 _ rfl
      have x2 := A 2 _ rfl
      have x3 := A 3 _ rfl
      have x4 := A 4 _ rfl
      have x5 := A 5 _ rfl
      have y0 := B 0 _ rfl
      have y1 := B 1 _ rfl
      have y2 := B 2 _ rfl
      have y3 := B 3 _ rfl
      have y4 := B 4 _ rfl
      have y5 := B 5 _ rfl
      rw [Nat.add_zero] at x0 y0
      clear A B
      go_wp2_with fail
      go_quiet (fail)
      go_wp2_with fail
      go_roundw
      case rel => exact ⟨k + 1, by omega, by go_num, HS.out.drewN _⟩
      case measure => simp; omega
    · have t1 : decide ((k : Int) < (ks.length : Int)) = false := by simpa using hlt
      obtain ⟨wo, hwo⟩ : ∃ wo : World, wo = wr := ⟨_, rfl⟩
      subst hwo
      go_wp2_with fail
      go_loopw [6] (fun i wr => ∃ k : Nat, k ≤ l.length ∧ i = .int .i64 k ∧ SoIn w o (.slice ka ks.length kc1) (.slice fa l.length fc1) (.slice kb ks.length kc2) (.slice fb l.length fc2) wr) (fun i _ => l.length - (match i with | .int _ z => z.toNat | _ => 0))
      case atStart => exact ⟨0, by omega, rfl, HS.out⟩
      case round =>
        obtain ⟨m, hm, rfl, hS⟩ := hrel
        have HT := Lib.hid hS
        clear hS HS a0 b0
        by_cases hlt2 : m < l.length
        · have t2 : decide ((m : Int) < (l.length : Int)) = true := by simpa using hlt2
          have a17 := HT.out.c1.cell 17 _ rfl
          have b17 := HT.out.c2.cell 17 _ rfl
          obtain ⟨p1, o1, e1, hp1, hc1⟩ := H3.out.at_ (by omega)
          obtain ⟨p2, o2, e2, hp2, hc2⟩ := H4.out.at_ (by omega)
          rw [e1] at a17
          rw [e2] at b17
          have hx : (wsV l)[m]? = some (.string l[m]) := by unfold wsV; rw [List.getElem?_map, List.getElem?_eq_getElem hlt2]; rfl
          have x0 := (HT.out.below.cell (p := ⟨p1, o1 + m, none⟩) hp1).trans (hc1 m _ hx)
          have y0 := (HT.out.below.cell (p := ⟨p2, o2 + m, none⟩) hp2).trans (hc2 m _ hx)
          clear hc1 hc2 e1 e2 hx
          generalize l[m] = s at *
          go_wp2_with fail
          go_quiet (fail)
          go_wp2_with fail
          go_roundw
          case rel => exact ⟨m + 1, by omega, by go_num, HT.out.drewN _⟩
          case measure => simp; omega
        · have t2 : decide ((m : Int) < (l.length : Int)) = false := by simpa using hlt2
          have q0 := HT.out.c1.cell 0 _ rfl
          have q1 := HT.out.c1.cell 1 _ rfl
          have q2 := HT.out.c1.cell 2 _ rfl
          have q3 := HT.out.c1.cell 3 _ rfl
          have q4 := HT.out.c1.cell 4 _ rfl
          have q5 := HT.out.c1.cell 5 _ rfl
          have q6 := HT.out.c1.cell 6 _ rfl
          have q7 := HT.out.c1.cell 7 _ rfl
          have q8 := HT.out.c1.cell 8 _ rfl
          have q9 := HT.out.c1.cell 9 _ rfl
          have q10 := HT.out.c1.cell 10 _ rfl
          have q11 := HT.out.c1.cell 11 _ rfl
          have q12 := HT.out.c1.cell 12 _ rfl
          have q13 := HT.out.c1.cell 13 _ rfl
          have q14 := HT.out.c1.cell 14 _ rfl
          have q15 := HT.out.c1.cell 15 _ rfl
          have q16 := HT.out.c1.cell 16 _ rfl
          have q17 := HT.out.c1.cell 17 _ rfl
          have r0 := HT.out.c2.cell 0 _ rfl
          have r1 := HT.out.c2.cell 1 _ rfl
          have r2 := HT.out.c2.cell 2 _ rfl
          have r3 := HT.out.c2.cell 3 _ rfl
          have r4 := HT.out.c2.cell 4 _ rfl
          have r5 := HT.out.c2.cell 5 _ rfl
          have r6 := HT.out.c2.cell 6 _ rfl
          have r7 := HT.out.c2.cell 7 _ rfl
          have r8 := HT.out.c2.cell 8 _ rfl
          have r9 := HT.out.c2.cell 9 _ rfl
          have r10 := HT.out.c2.cell 10 _ rfl
          have r11 := HT.out.c2.cell 11 _ rfl
          have r12 := HT.out.c2.cell 12 _ rfl
          have r13 := HT.out.c2.cell 13 _ rfl
          have r14 := HT.out.c2.cell 14 _ rfl
          have r15 := HT.out.c2.cell 15 _ rfl
          have r16 := HT.out.c2.cell 16 _ rfl
          have r17 := HT.out.c2.cell 17 _ rfl
          go_wp2_with fail
          go_ret
          exact ⟨rfl, HT.out.below⟩
end Go.Proofs.Ytbgbmojoldkcfaa
