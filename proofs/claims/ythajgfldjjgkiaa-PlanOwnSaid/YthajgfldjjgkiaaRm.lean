/- The document's Make. -/
import Derived.Test.YthajgfldjjgkiaaRs
namespace Go.Proofs.Ythajgfldjjgkiaa
open Go.RowKit
set_option maxRecDepth 100000

structure RiAt (wo wr : World) (ga N cap : Nat) (A : List Int) (i : Nat) (vi : Value) : Prop where
  all : OwnI wr (.slice (some ⟨ga, 0, none⟩) N cap) (pkA A i)
  inn : OwnI wr vi (srt (pkL A i))
  blk : ∀ b, vi.ownBlock = some b → wo.heap.size ≤ b
  kp : Kp wo wr (fun k => k = ga)
  lt : ga < wo.heap.size
def RiR (wo : World) (ga N cap tk : Nat) (A : List Int) (v12 v13 v14 : Value) (wr : World) : Prop := ∃ (i : Nat) (vi : Value), vi = v12 ∧ v13 = .int .i64 (pkS A i) ∧ v14 = .int .i64 (i : Int) ∧ i ≤ tk ∧ RiAt wo wr ga N cap A i vi
theorem RiAt.drew {wo wr : World} {ga N cap : Nat} {A : List Int} {i : Nat} {vi : Value} (h : RiAt wo wr ga N cap A i vi) (m : Nat) : RiAt wo (wr.drewN m) ga N cap A i vi :=
  ⟨h.all.below (below_drewN wr m), h.inn.below (below_drewN wr m), h.blk, h.kp.tr (Kp.of _ (below_drewN wr m)), h.lt⟩
theorem RiAt.next {wo wr w' : World} {ga N cap : Nat} {A : List Int} {i : Nat} {vi : Value} {e : Ending} (h : RiAt wo wr ga N cap A i vi) (x : Nat) (hx : x = ls (pkA A i)) (p : PutR (wr.setCell ⟨ga, x, none⟩ (.int .i64 (-1))) vi (srt (pkL A i)) (x : Int) e w') :
    ∃ vi', e = .returned vi' ∧ RiAt wo w' ga N cap A (i + 1) vi' := by
  obtain ⟨g, c, L, he, h1, h2, h3, h4⟩ := p
  have q : L = srt (pkL A (i + 1)) := by rw [pkL, ← hx]; exact h2.srt
  refine ⟨_, he, ⟨?_, ?_, ?_, ?_, h.lt⟩⟩
  · have := h.all.set x (-1)
    rw [pkA, ← hx]
    refine this.kp h3 (fun b hb hv => ?_)
    injection hb with hb
    subst hb
    have := h.blk _ hv
    have := h.lt
    exact absurd ‹wo.heap.size ≤ ga› (by omega)
  · rw [← q]; exact h1
  · intro b hb
    injection hb with hb
    subst hb
    rcases h4 with h4 | h4
    · exact h.blk _ h4
    · have := h.kp.size
      have e2 : (wr.setCell ⟨ga, x, none⟩ (.int .i64 (-1))).heap.size = wr.heap.size := by simp
      simp only
      omega
  · refine (h.kp.tr (Kp.set wr ga x (.int .i64 (-1)))).trans h3 (fun _ _ e => e) (fun z hz e => ?_)
    have := h.blk z e
    omega
theorem srt_nil : srt [] = [] := by simp [srt]
structure RmAt (w wr : World) (ga cap : Nat) (vs : Value) (f : Nat → Value) (W : List Int) (fan s : Nat) : Prop where
  all : OwnI wr (.slice (some ⟨ga, 0, none⟩) (W.length + s) cap) (mkA W fan s)
  steps : OwnS wr vs f (outs (mkS W fan s)) s
  ins : ∀ i, i < s → SlI wr (f i) ((mkS W fan s).getD i ⟨[], 0⟩).inn ∧ ∀ b, (f i).ownBlock = some b → b ≠ ga ∧ b < wr.heap.size ∧ vs.ownBlock ≠ some b
  bel : Below w.heap.size w wr
  ge : w.heap.size ≤ ga
  gs : ∀ b, vs.ownBlock = some b → w.heap.size ≤ b
def RmR (w : World) (W : List Int) (fan : Nat) (v8 v9 v10 v11 : Value) (wr : World) : Prop := ∃ (s ga cap : Nat) (vs : Value) (f : Nat → Value), v8 = .slice (some ⟨ga, 0, none⟩) (W.length + s) cap ∧ vs = v9 ∧ v10 = .int .i64 (left W.length fan s : Int) ∧ v11 = .int .i64 (tkn W.length fan s : Int) ∧ s ≤ need W.length fan ∧ RmAt w wr ga cap vs f W fan s
def RefR (w : World) (ss : List Stp) (e : Ending) (w' : World) : Prop := ∃ v, e = .returned (.tuple #[v, .int .i64 0]) ∧ StAt w' v ss ∧ Below w.heap.size w w'
theorem RmAt.done {w wr : World} {ga cap : Nat} {vs : Value} {f : Nat → Value} {W : List Int} {fan s : Nat} (h : RmAt w wr ga cap vs f W fan s) : RefR w (mkS W fan s) (.returned (.tuple #[vs, .int .i64 0])) wr := by
  refine ⟨vs, rfl, ⟨f, ?_, fun i hi => ?_⟩, h.bel⟩
  · rw [mkS_len]; exact h.steps.sl
  · have hi2 : i < s := by rw [mkS_len] at hi; exact hi
    have := (h.ins i hi2).1
    rw [List.getD_eq_getElem?_getD, List.getElem?_eq_getElem hi] at this
    exact this
/-- A step is laid to the others; what it makes is laid to all. -/
theorem RmAt.next {w wo wi w1 w2 : World} {ga cap g c g2 c2 : Nat} {vs vi : Value} {f : Nat → Value} {W : List Int} {fan s : Nat} (h : RmAt w wo ga cap vs f W fan s)
    (r : RiAt wo wi ga (W.length + s) cap (mkA W fan s) (tkn W.length fan s) vi)
    (b1 : OwnS w1 (.slice (some ⟨g, 0, none⟩) (s + 1) c) (updF f s vi) (updF (outs (mkS W fan s)) s ((W.length + s : Nat) : Int)) (s + 1)) (k1 : Kp wi w1 (fun k => vs.ownBlock = some k)) (q1 : vs.ownBlock = some g ∨ wi.heap.size ≤ g)
    (b2 : OwnI w2 (.slice (some ⟨g2, 0, none⟩) (W.length + s + 1) c2) (mkA W fan (s + 1))) (k2 : Kp w1 w2 (fun k => k = ga)) (q2 : g2 = ga ∨ w1.heap.size ≤ g2) : RmAt w w2 g2 c2 (.slice (some ⟨g, 0, none⟩) (s + 1) c) (updF f s vi) W fan (s + 1) := by
  have e1 : updF (outs (mkS W fan s)) s ((W.length + s : Nat) : Int) = outs (mkS W fan (s + 1)) := by
    have := outs_snoc (mkS W fan s) ⟨srt (pkL (mkA W fan s) (tkn W.length fan s)), ((W.length + s : Nat) : Int)⟩
    rw [mkS_len] at this
    exact this
  rw [e1] at b1
  have hs0 : wo.heap.size ≤ wi.heap.size := r.kp.size
  have hs1 := k1.size
  have hs2 := k2.size
  have hw := h.bel.size
  have S1 := h.steps.kp r.kp (fun b hb e => own_ne h.steps h.all hb rfl e)
  have vsga : ∀ b, vs.ownBlock = some b → b ≠ ga := fun b hb e => own_ne h.steps h.all hb rfl e
  have vsvi : ∀ b, vi.ownBlock = some b → vs.ownBlock ≠ some b := fun b hb e => own_ne S1 r.inn e hb rfl
  have gga : g ≠ ga := by
    rcases q1 with e | e
    · exact vsga g e
    · have := r.lt; omega
  refine ⟨by rw [show W.length + (s + 1) = W.length + s + 1 by omega]; exact b2, b1.kp k2 (fun b hb e => ?_), fun i hi => ?_, ?_, ?_, fun b hb => ?_⟩
  · injection hb with hb
    subst hb
    exact gga e
  · have ga1 : ga < w1.heap.size := by have := r.lt; omega
    by_cases ei : i = s
    · subst ei
      rw [updF_same]
      have hg : (mkS W fan (i + 1)).getD i ⟨[], 0⟩ = ⟨srt (pkL (mkA W fan i) (tkn W.length fan i)), ((W.length + i : Nat) : Int)⟩ := by
        rw [mkS, List.getD_eq_getElem?_getD, List.getElem?_append_right (by rw [mkS_len]; exact Nat.le_refl _), mkS_len, Nat.sub_self]; rfl
      rw [hg]
      have gb : ∀ b, vi.ownBlock = some b → b ≠ g := fun b hb e => by
        rcases q1 with e2 | e2
        · exact vsvi b hb (by rw [e]; exact e2)
        · have := r.inn.lt hb; omega
      have nb : ∀ b, vi.ownBlock = some b → b ≠ ga ∧ b < wi.heap.size := fun b hb => by
        have := r.blk b hb
        have := r.lt
        exact ⟨by omega, r.inn.lt hb⟩
      refine ⟨(r.inn.sl.kp k1 (fun b hb => vsvi b hb)).kp k2 (fun b hb e => (nb b hb).1 e), fun b hb => ?_⟩
      have := nb b hb
      refine ⟨?_, by omega, fun e => ?_⟩
      · rcases q2 with e | e <;> omega
      · injection e with e
        simp only at e
        exact gb b hb e.symm
    · rw [updF_other _ _ _ _ ei]
      have hi2 : i < s := by omega
      have hg : (mkS W fan (s + 1)).getD i ⟨[], 0⟩ = (mkS W fan s).getD i ⟨[], 0⟩ := by
        rw [mkS, List.getD_eq_getElem?_getD, List.getElem?_append_left (by rw [mkS_len]; exact hi2), List.getD_eq_getElem?_getD]
      rw [hg]
      obtain ⟨p1, p2⟩ := h.ins i hi2
      have p3 := p1.kp r.kp (fun b hb e => (p2 b hb).1 e)
      refine ⟨SlAt.kp (SlAt.kp p3 k1 (fun b hb e => ?_)) k2 (fun b hb e => (p2 b hb).1 e), fun b hb => ?_⟩
      · exact (p2 b hb).2.2 e
      · have := p2 b hb
        refine ⟨?_, by omega, fun e => ?_⟩
        · rcases q2 with e | e <;> omega
        · injection e with e
          simp only at e
          subst e
          rcases q1 with e2 | e2
          · exact this.2.2 e2
          · omega
  · refine ((h.bel.trans (r.kp.below hw (fun x e => ?_))).trans (k1.below (by omega) (fun x e => ?_))).trans (k2.below (by omega) (fun x e => ?_))
    · rw [e]; exact h.ge
    · exact h.gs x e
    · rw [e]; exact h.ge
  · rcases q2 with e | e
    · rw [e]; exact h.ge
    · omega
  · injection hb with hb
    subst hb
    rcases q1 with e | e
    · exact h.gs _ e
    · simp only; omega
end Go.Proofs.Ythajgfldjjgkiaa
