/- What has been grown. No walk. -/
import Derived.Test.YthajgfldjjgkiaaAm
import Derived.Test.YthajgfldjjgkiaaAv
import Derived.Test.YthajgfldjjgkiaaPm
namespace Go.Proofs.Ythajgfldjjgkiaa
open Go.RowKit
set_option maxRecDepth 100000

def tlI (i s k : Nat) : List Int := (List.range k).map fun j : Nat => (-100000 * (i : Int) - 100 * (s : Int) - (j : Int) - 1)
theorem tlI_len (i s k : Nat) : (tlI i s k).length = k := by simp [tlI]
theorem tlI_next (i s k : Nat) : tlI i s (k + 1) = tlI i s k ++ [-100000 * (i : Int) - 100 * (s : Int) - (k : Int) - 1] := by simp [tlI, List.range_succ]
theorem tlI_at {i s n k : Nat} (h : k < n) : (tlI i s n)[k]? = some (-100000 * (i : Int) - 100 * (s : Int) - (k : Int) - 1) := by simp [tlI, h]
def bse (ss : Nat → List Stp) (i : Nat) : Nat := sumN (fun a => (ss a).length) i
theorem OwnV.neI {w : World} {e : TypeId} {v u : Value} {l : List Value} {m : List Int} (he : e ≠ 3) (h : OwnV w e v l) (k : OwnI w u m) : ∀ b, u.ownBlock = some b → ¬ v.ownBlock = some b := by
  intro b hb hv
  rcases h.2 with ⟨hv', _⟩ | ⟨g, cap, cur, hv', _, hg, _⟩
  · rw [hv'] at hv; cases hv
  · rcases k.2 with ⟨hu, _⟩ | ⟨g', cap', cur', hu, _, hg', _⟩
    · rw [hu] at hb; cases hb
    · rw [hv'] at hv; rw [hu] at hb
      injection hv with hv; injection hb with hb
      simp only at hv hb
      subst hv hb
      rw [hg] at hg'
      injection hg' with q
      injection q with _ q
      exact he q
theorem OwnV.neS {w : World} {e : TypeId} {v u : Value} {l : List Value} {f : Nat → Value} {o : Nat → Int} {n : Nat} (he : e ≠ 46) (h : OwnV w e v l) (k : OwnS w u f o n) : ∀ b, u.ownBlock = some b → ¬ v.ownBlock = some b := by
  intro b hb hv
  rcases h.2 with ⟨hv', _⟩ | ⟨g, cap, cur, hv', _, hg, _⟩
  · rw [hv'] at hv; cases hv
  · rcases k.2 with ⟨hu, _⟩ | ⟨g', cap', cur', hu, _, hg', _⟩
    · rw [hu] at hb; cases hb
    · rw [hv'] at hv; rw [hu] at hb
      injection hv with hv; injection hb with hb
      simp only at hv hb
      subst hv hb
      rw [hg] at hg'
      injection hg' with q
      injection q with _ q
      exact he q
theorem OwnV.neV {w : World} {e e' : TypeId} {v u : Value} {l m : List Value} (he : e ≠ e') (h : OwnV w e v l) (k : OwnV w e' u m) : ∀ b, u.ownBlock = some b → ¬ v.ownBlock = some b := by
  intro b hb hv
  rcases h.2 with ⟨hv', _⟩ | ⟨g, cap, cur, hv', _, hg, _⟩
  · rw [hv'] at hv; cases hv
  · rcases k.2 with ⟨hu, _⟩ | ⟨g', cap', cur', hu, _, hg', _⟩
    · rw [hu] at hb; cases hb
    · rw [hv'] at hv; rw [hu] at hb
      injection hv with hv; injection hb with hb
      simp only at hv hb
      subst hv hb
      rw [hg] at hg'
      injection hg' with q
      injection q with _ q
      exact he q
theorem OwnV.cell {w : World} {e : TypeId} {g n c : Nat} {l : List Value} (h : OwnV w e (.slice (some ⟨g, 0, none⟩) n c) l) (j : Nat) (u : Value) (hj : l[j]? = some u) : w.cell? ⟨g, j, none⟩ = some u := by
  have := World.ownsRow.cells h (g := g) rfl j u hj
  rw [add_plain, Nat.zero_add] at this
  exact this
theorem OwnV.form {w : World} {e : TypeId} {v : Value} {l : List Value} (h : OwnV w e v l) (h0 : 0 < l.length) : ∃ g c, v = .slice (some ⟨g, 0, none⟩) l.length c ∧ g < w.heap.size := by
  rcases h.2 with ⟨_, hn⟩ | ⟨g, cap, cur, hv, _, hg, _⟩
  · omega
  · exact ⟨g, cap, hv, lt_of_heap hg⟩
/-- The lists that were grown, those of answers ahead of i and of i's steps ahead of s; the answers ahead of t. -/
structure Gro (ss : Nat → List Stp) (w1 wr : World) (v6 v7 : Value) (li la : List Value) (i s t : Nat) : Prop where
  bel : Below w1.heap.size w1 wr
  ins : OwnV wr 22 v6 li
  insN : ∀ b, v6.ownBlock = some b → w1.heap.size ≤ b
  out : OwnV wr 23 v7 la
  outN : ∀ b, v7.ownBlock = some b → w1.heap.size ≤ b
  lenI : li.length = bse ss i + s
  lenO : la.length = t
  eachI : ∀ a b, (a < i ∧ b < (ss a).length) ∨ (a = i ∧ b < s) → ∃ v, li[bse ss a + b]? = some v ∧ OwnI wr v (mkX a b (nL6 ss a b) ++ tlI a b 70)
  eachO : ∀ a, a < t → ∃ v f o, la[a]? = some v ∧ OwnS wr v f o ((ss a).length + 20) ∧ ∀ k, k < 20 → o ((ss a).length + k) = 1000 * (a : Int) + (k : Int)
theorem Gro.below {ss : Nat → List Stp} {w1 wr w' : World} {v6 v7 : Value} {li la : List Value} {i s t : Nat} (h : Gro ss w1 wr v6 v7 li la i s t) (k : Below wr.heap.size wr w') : Gro ss w1 w' v6 v7 li la i s t :=
  ⟨h.bel.trans (k.mono h.bel.size), h.ins.below k, h.insN, h.out.below k, h.outN, h.lenI, h.lenO, fun a b q => by
    obtain ⟨v, e1, e2⟩ := h.eachI a b q
    exact ⟨v, e1, e2.below k⟩, fun a q => by
    obtain ⟨v, f, o, e1, e2, e3⟩ := h.eachO a q
    exact ⟨v, f, o, e1, e2.below k, e3⟩⟩
theorem Gro.start (ss : Nat → List Stp) (w : World) : Gro ss w w (.slice none 0 0) (.slice none 0 0) [] [] 0 0 0 :=
  ⟨Below.refl _ _, OwnV.nil _ _, (fun b hb => by cases hb), OwnV.nil _ _, (fun b hb => by cases hb), rfl, rfl, fun a b q => absurd q (by omega), fun a q => absurd q (Nat.not_lt_zero _)⟩
/-- One more list. -/
theorem Gro.addI {ss : Nat → List Stp} {w1 wr w' : World} {v6 v7 u : Value} {li la : List Value} {i s t g cap : Nat} (h : Gro ss w1 wr v6 v7 li la i s t) (hu : OwnI wr u (mkX i s (nL6 ss i s) ++ tlI i s 70))
    (o : OwnV w' 22 (.slice (some ⟨g, 0, none⟩) (li.length + 1) cap) (li ++ [u])) (k : Kp wr w' (fun b => v6.ownBlock = some b)) (q : v6.ownBlock = some g ∨ g = wr.heap.size) : Gro ss w1 w' (.slice (some ⟨g, 0, none⟩) (li.length + 1) cap) v7 (li ++ [u]) la i (s + 1) t := by
  refine ⟨h.bel.trans (k.below h.bel.size h.insN), o, fun b hb => ?_, h.out.kp k (h.ins.neV (by decide) h.out), h.outN, by rw [List.length_append, h.lenI]; rfl, h.lenO, fun a b hab => ?_, fun a ha => ?_⟩
  · injection hb with hb
    subst hb
    rcases q with q | q
    · exact h.insN _ q
    · simp only; rw [q]; exact h.bel.size
  · by_cases c : a = i ∧ b = s
    · obtain ⟨rfl, rfl⟩ := c
      refine ⟨u, ?_, hu.kp k (h.ins.neI (by decide) hu)⟩
      rw [List.getElem?_append_right (by rw [h.lenI]; exact Nat.le_refl _), h.lenI, Nat.sub_self]
      rfl
    · obtain ⟨v, e1, e2⟩ := h.eachI a b (by omega)
      exact ⟨v, by rw [List.getElem?_append_left (List.getElem?_eq_some_iff.1 e1).1]; exact e1, e2.kp k (h.ins.neI (by decide) e2)⟩
  · obtain ⟨v, f, p, e1, e2, e3⟩ := h.eachO a ha
    exact ⟨v, f, p, e1, e2.kp k (h.ins.neS (by decide) e2), e3⟩
/-- One more answer. -/
theorem Gro.addO {ss : Nat → List Stp} {w1 wr w' : World} {v6 v7 u : Value} {li la : List Value} {i g cap : Nat} {f : Nat → Value} {p : Nat → Int} (h : Gro ss w1 wr v6 v7 li la i (ss i).length i) (hu : OwnS wr u f p ((ss i).length + 20)) (hp : ∀ k, k < 20 → p ((ss i).length + k) = 1000 * (i : Int) + (k : Int))
    (o : OwnV w' 23 (.slice (some ⟨g, 0, none⟩) (la.length + 1) cap) (la ++ [u])) (k : Kp wr w' (fun b => v7.ownBlock = some b)) (q : v7.ownBlock = some g ∨ g = wr.heap.size) : Gro ss w1 w' v6 (.slice (some ⟨g, 0, none⟩) (la.length + 1) cap) li (la ++ [u]) (i + 1) 0 (i + 1) := by
  refine ⟨h.bel.trans (k.below h.bel.size h.outN), h.ins.kp k (h.out.neV (by decide) h.ins), h.insN, o, fun b hb => ?_, by rw [h.lenI]; rfl, by rw [List.length_append, h.lenO]; rfl, fun a b hab => ?_, fun a ha => ?_⟩
  · injection hb with hb
    subst hb
    rcases q with q | q
    · exact h.outN _ q
    · simp only; rw [q]; exact h.bel.size
  · obtain ⟨v, e1, e2⟩ := h.eachI a b (by
      rcases hab with ⟨h1, h2⟩ | ⟨_, h2⟩
      · by_cases c : a = i
        · subst c; exact Or.inr ⟨rfl, h2⟩
        · exact Or.inl ⟨by omega, h2⟩
      · omega)
    exact ⟨v, e1, e2.kp k (h.out.neI (by decide) e2)⟩
  · by_cases c : a = i
    · subst c
      refine ⟨u, f, p, ?_, hu.kp k (h.out.neS (by decide) hu), hp⟩
      rw [List.getElem?_append_right (by rw [h.lenO]; exact Nat.le_refl _), h.lenO, Nat.sub_self]
      rfl
    · obtain ⟨v, f', p', e1, e2, e3⟩ := h.eachO a (by omega)
      exact ⟨v, f', p', by rw [List.getElem?_append_left (List.getElem?_eq_some_iff.1 e1).1]; exact e1, e2.kp k (h.out.neS (by decide) e2), e3⟩
end Go.Proofs.Ythajgfldjjgkiaa
