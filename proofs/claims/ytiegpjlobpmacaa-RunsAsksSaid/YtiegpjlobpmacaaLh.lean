/- RunsHeap: the list of what is there. -/
import Derived.Test.YtiegpjlobpmacaaPk
namespace Go.Proofs.Ytiegpjlobpmacaa
open Go.RowKit
set_option maxRecDepth 100000
def NumsUp (T : List It) : Prop := T.Pairwise fun a b => a.num < b.num
theorem nums_lt {T : List It} (h : NumsUp T) {i j : Nat} (hi : i < T.length) (hj : j < T.length) (hij : i < j) : (T[i]).num < (T[j]).num := List.pairwise_iff_getElem.1 h i j hi hj hij
theorem num_inj {T : List It} (h : NumsUp T) {a b : It} (ha : a ∈ T) (hb : b ∈ T) (e : a.num = b.num) : a = b := by
  obtain ⟨i, hi, rfl⟩ := List.getElem_of_mem ha
  obtain ⟨j, hj, rfl⟩ := List.getElem_of_mem hb
  rcases Nat.lt_trichotomy i j with c | c | c
  · have := nums_lt h hi hj c; omega
  · subst c; rfl
  · have := nums_lt h hj hi c; omega
theorem best_le {T : List It} (h : NumsUp T) {b : Nat} (hb : b < T.length) (h1 : ∀ j (hj : j < T.length), (T[b]).key ≤ (T[j]).key) (h2 : ∀ j (hj : j < T.length), j < b → (T[b]).key < (T[j]).key) : ∀ x, x ∈ T → leI T[b] x := by
  intro x hx
  obtain ⟨j, hj, rfl⟩ := List.getElem_of_mem hx
  rcases Nat.lt_trichotomy j b with c | c | c
  · exact Or.inl (h2 j hj c)
  · subst c; exact leI.refl _
  · have := nums_lt h hb hj c
    have := h1 j hj
    unfold leI
    omega
theorem leI_anti {a b : It} (h : leI a b) (k : leI b a) : a.num = b.num := by unfold leI at *; omega
/-- The first of the heap is the best of the list. -/
theorem first_best {T : List It} {F : Nat → It} {n b : Nat} (hu : NumsUp T) (hf : Heap F n) (hs : HeapSet F n (· ∈ T)) (hn : 0 < n) (hb : b < T.length) (h1 : ∀ j (hj : j < T.length), (T[b]).key ≤ (T[j]).key) (h2 : ∀ j (hj : j < T.length), j < b → (T[b]).key < (T[j]).key) : F 0 = T[b] := by
  have hb' : T[b] ∈ T := List.getElem_mem hb
  have f := first_all hf hs hn
  exact num_inj hu f.1 hb' (leI_anti (f.2 _ hb') (best_le hu hb h1 h2 _ f.1))
def less1 (T : List It) (b : Nat) : List It := T.take b ++ T.drop (b + 1)
theorem less1_len {T : List It} {b : Nat} (hb : b < T.length) : (less1 T b).length + 1 = T.length := by unfold less1; simp; omega
theorem less1_up {T : List It} {b : Nat} (hu : NumsUp T) : NumsUp (less1 T b) := by
  unfold less1
  refine List.pairwise_append.2 ⟨hu.sublist (List.take_sublist _ _), hu.sublist (List.drop_sublist _ _), fun x hx y hy => ?_⟩
  obtain ⟨i, hi, rfl⟩ := List.getElem_of_mem hx
  obtain ⟨j, hj, rfl⟩ := List.getElem_of_mem hy
  simp only [List.length_take, List.length_drop] at hi hj
  rw [List.getElem_take, List.getElem_drop]
  exact nums_lt hu (by omega) (by omega) (by omega)
theorem less1_mem {T : List It} {b : Nat} (hu : NumsUp T) (hb : b < T.length) (x : It) : x ∈ less1 T b ↔ x ∈ T ∧ x ≠ T[b] := by
  unfold less1
  rw [List.mem_append]
  constructor
  · rintro (h | h)
    · refine ⟨List.mem_of_mem_take h, ?_⟩
      obtain ⟨i, hi, rfl⟩ := List.getElem_of_mem h
      simp only [List.length_take] at hi
      rw [List.getElem_take]
      intro e
      have := nums_lt hu (i := i) (j := b) (by omega) hb (by omega)
      rw [e] at this
      omega
    · refine ⟨List.mem_of_mem_drop h, ?_⟩
      obtain ⟨i, hi, rfl⟩ := List.getElem_of_mem h
      simp only [List.length_drop] at hi
      rw [List.getElem_drop]
      intro e
      have := nums_lt hu (i := b) (j := b + 1 + i) hb (by omega) (by omega)
      rw [e] at this
      omega
  · rintro ⟨h, hne⟩
    obtain ⟨i, hi, rfl⟩ := List.getElem_of_mem h
    rcases Nat.lt_trichotomy i b with c | c | c
    · left
      refine List.mem_iff_getElem.2 ⟨i, by simp; omega, by rw [List.getElem_take]⟩
    · subst c; exact absurd rfl hne
    · right
      refine List.mem_iff_getElem.2 ⟨i - (b + 1), by simp; omega, ?_⟩
      rw [List.getElem_drop]
      congr 1; omega
/-- All of the loop's state that is no memory. -/
structure LhOk (T : List It) (F : Nat → It) (P : Nat) : Prop where
  up : NumsUp T
  lt : ∀ x, x ∈ T → x.num < P
  heap : Heap F T.length
  set : HeapSet F T.length (· ∈ T)
theorem LhOk.nil (F : Nat → It) : LhOk [] F 0 := ⟨List.Pairwise.nil, (fun x h => by cases h), (fun i _ h => by simp at h), ⟨(fun x => by simp), (fun i j h => by simp at h)⟩⟩
theorem upI_heap {F : Nat → It} {n : Nat} {x : It} (h : Heap F n) : Heap (upI F n x) n := fun i h1 h2 => by
  have := abv_lt h1
  rw [upI_other _ _ _ _ (by omega), upI_other _ _ _ _ (by omega)]
  exact h i h1 h2
theorem upI_set {F : Nat → It} {n : Nat} {x : It} {C : It → Prop} (h : HeapSet F n C) : HeapSet (upI F n x) n C := by
  refine ⟨fun y => (h.has y).trans ⟨fun ⟨i, hi, e⟩ => ⟨i, hi, by rw [upI_other _ _ _ _ (by omega)]; exact e⟩, fun ⟨i, hi, e⟩ => ⟨i, hi, by rw [upI_other _ _ _ _ (by omega)] at e; exact e⟩⟩, fun i j hi hj hij => ?_⟩
  rw [upI_other _ _ _ _ (by omega), upI_other _ _ _ _ (by omega)]
  exact h.apart i j hi hj hij
theorem LhOk.push {T : List It} {F : Nat → It} {P : Nat} (h : LhOk T F P) (key who : Int) : LhOk (T ++ [⟨key, who, P⟩]) (pushI F T.length ⟨key, who, P⟩) (P + 1) := by
  have hp := push_all (one := ⟨key, who, P⟩) (upI_heap (x := ⟨key, who, P⟩) h.heap) (upI_set (x := ⟨key, who, P⟩) h.set) (fun i hi => by
    have hm : F i ∈ T := (h.set.has _).2 ⟨i, hi, rfl⟩
    have := h.lt _ hm
    rw [upI_other _ _ _ _ (by omega)]
    show (F i).num ≠ P
    omega)
  refine ⟨?_, fun x hx => ?_, ?_, ?_⟩
  · refine List.pairwise_append.2 ⟨h.up, List.pairwise_singleton _ _, fun x hx y hy => ?_⟩
    simp only [List.mem_singleton] at hy
    subst hy
    exact h.lt x hx
  · rcases List.mem_append.1 hx with k | k
    · have := h.lt x k; omega
    · simp only [List.mem_singleton] at k
      subst k
      show P < P + 1
      omega
  · rw [List.length_append]; exact hp.1
  · rw [List.length_append]
    refine ⟨fun x => Iff.trans ?_ (hp.2.has x), hp.2.apart⟩
    simp
theorem LhOk.pop {T : List It} {F : Nat → It} {P b N : Nat} (h : LhOk T F P) (hN : T.length = N + 1) (hb : b < T.length) (hF : F 0 = T[b]) :
    (carryI F 0 (sinkI F N (F N) 0) (F N)).2 = T[b] ∧ LhOk (less1 T b) (carryI F 0 (sinkI F N (F N) 0) (F N)).1 P := by
  have hl := less1_len hb
  have hh := h.heap
  have hs := h.set
  rw [hN] at hh hs
  have key : (carryI F 0 (sinkI F N (F N) 0) (F N)).2 = F 0 ∧ Heap (carryI F 0 (sinkI F N (F N) 0) (F N)).1 N ∧ HeapSet (carryI F 0 (sinkI F N (F N) 0) (F N)).1 N (fun x => x ∈ T ∧ x ≠ F 0) := by
    by_cases h0 : 0 < N
    · have p := pop_all hh hs h0
      rw [p.1]
      exact ⟨rfl, p.2.1, p.2.2⟩
    · obtain rfl : N = 0 := by omega
      have p := pop_one hs
      rw [sinkI_end (by omega), p.1]
      exact ⟨rfl, (p.2 F).1, (p.2 F).2⟩
  have eN : (less1 T b).length = N := by omega
  refine ⟨key.1.trans hF, less1_up h.up, fun x hx => h.lt x ((less1_mem h.up hb x).1 hx).1, by rw [eN]; exact key.2.1, ?_⟩
  rw [eN]
  refine ⟨fun x => Iff.trans ?_ (key.2.2.has x), key.2.2.apart⟩
  rw [less1_mem h.up hb, ← hF]
end Go.Proofs.Ytiegpjlobpmacaa
