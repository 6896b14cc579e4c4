/- A line put together again out of its fields. No program is named. -/
import Derived.Test.YthdejcoaledklaaDoorSpans
namespace Go.Proofs.YthdejcoaledklaaDoor

/-- Ahead of field i: what is still to come begins at k, and all ahead of it has been put together. -/
structure Ahead (s : List UInt8) (t : UInt8) (i k f : Nat) (str : List UInt8) : Prop where
  drop : (fieldsS s (some t)).drop i = spans s (some t) f k
  fuel : 0 < f
  enough : s.length + 1 ≤ f + k
  le : k ≤ s.length
  first : i = 0 → k = 0 ∧ str = []
  later : 0 < i → 0 < k ∧ str ++ [t] = s.take k
theorem ahead_start (s : List UInt8) (t : UInt8) : Ahead s t 0 0 (s.length + 1) [] :=
  ⟨by simp [fieldsS], by omega, by omega, by omega, fun _ => ⟨rfl, rfl⟩, fun h => by omega⟩
theorem fieldsS_ne (s : List UInt8) (t : UInt8) : 0 < (fieldsS s (some t)).length := by
  simp [fieldsS, spans]
theorem Ahead.lt {s : List UInt8} {t : UInt8} {i k f : Nat} {str : List UInt8} (h : Ahead s t i k f str) : i < (fieldsS s (some t)).length := by
  rcases Nat.lt_or_ge i (fieldsS s (some t)).length with h1 | h1
  · exact h1
  · have h2 := h.drop
    rw [List.drop_eq_nil_of_le h1] at h2
    obtain ⟨g, rfl⟩ : ∃ g, f = g + 1 := ⟨f - 1, by have := h.fuel; omega⟩
    unfold spans at h2
    cases h2
theorem Ahead.at {s : List UInt8} {t : UInt8} {i k f : Nat} {str : List UInt8} (h : Ahead s t i k f str) : (fieldsS s (some t))[i]? = some (k, fend s (some t) k) := by
  have h2 := congrArg (fun l => l[0]?) h.drop
  simp only [List.getElem?_drop, Nat.add_zero] at h2
  rw [h2]
  obtain ⟨g, rfl⟩ : ∃ g, f = g + 1 := ⟨f - 1, by have := h.fuel; omega⟩
  rfl
theorem take_two (s : List UInt8) (a b : Nat) (h : a ≤ b) : s.take a ++ (s.drop a).take (b - a) = s.take b := by
  have e : b = a + (b - a) := by omega
  rw [e, List.take_add, Nat.add_sub_cancel_left]
/-- With field i put behind. -/
theorem Ahead.put {s : List UInt8} {t : UInt8} {i k f : Nat} {str : List UInt8} (h : Ahead s t i k f str) :
    (if 0 < i then str ++ [t] else str) ++ (s.drop k).take (fend s (some t) k - k) = s.take (fend s (some t) k) := by
  have h1 := fend_ge s (some t) k
  by_cases hi : 0 < i
  · rw [if_pos hi, (h.later hi).2]
    exact take_two s k _ h1
  · rw [if_neg hi]
    obtain ⟨rfl, rfl⟩ := h.first (by omega)
    simp
theorem Ahead.next {s : List UInt8} {t : UInt8} {i k f : Nat} {str : List UInt8} (h : Ahead s t i k f str) (h1 : fend s (some t) k ≠ s.length) :
    Ahead s t (i + 1) (fend s (some t) k + 1) (f - 1) (s.take (fend s (some t) k)) := by
  have h2 := fend_ge s (some t) k
  have h3 := fend_le s (some t) k h.le
  have h4 : fend s (some t) k < s.length := by omega
  have h5 := h.drop
  rw [spans_more _ _ _ _ h.fuel h1] at h5
  have hen := h.enough
  refine ⟨?_, by omega, by omega, by omega, fun e => by omega, fun _ => ⟨by omega, ?_⟩⟩
  · have := congrArg (fun l => l.drop 1) h5
    simp only [List.drop_drop, List.drop_succ_cons, List.drop_zero] at this
    exact this
  · rw [List.take_succ_eq_append_getElem h4]
    have := nxt_at (· == t) s k h4
    have e : s[fend s (some t) k] = t := beq_iff_eq.1 this
    rw [e]
theorem Ahead.last {s : List UInt8} {t : UInt8} {i k f : Nat} {str : List UInt8} (h : Ahead s t i k f str) (h1 : fend s (some t) k = s.length) : i + 1 = (fieldsS s (some t)).length := by
  have h5 := congrArg List.length h.drop
  rw [spans_last _ _ _ _ h.fuel h1, List.length_drop] at h5
  have := h.lt
  simp at h5
  omega
theorem Ahead.none_in {s : List UInt8} {t : UInt8} {k : Nat} (j : Nat) (h1 : k ≤ j) (h2 : j < fend s (some t) k) (h3 : j < s.length) : s[j] ≠ t := by
  have := nxt_ahead (· == t) s k j h1 h2 h3
  simpa using this

/-- Ahead of field i where there is no separator. -/
structure Blanks (s : List UInt8) (i k f : Nat) : Prop where
  drop : (fieldsS s none).drop i = spans s none f k
  fuel : 0 < f
  enough : s.length + 1 ≤ f + k
  lt : k < s.length
  later : 0 < i → isBl (s.getD k 0) = true
theorem blanks_start (s : List UInt8) (h : s ≠ []) : Blanks s 0 0 (s.length + 1) :=
  ⟨by rw [List.drop_zero, fieldsS, if_neg (fun x => h x.2)], by omega, by omega, by
    cases s with
    | nil => exact absurd rfl h
    | cons _ _ => simp, fun h => by omega⟩
theorem Blanks.at {s : List UInt8} {i k f : Nat} (h : Blanks s i k f) : (fieldsS s none)[i]? = some (k, fend s none k) := by
  have h2 := congrArg (fun l => l[0]?) h.drop
  simp only [List.getElem?_drop, Nat.add_zero] at h2
  rw [h2]
  obtain ⟨g, rfl⟩ : ∃ g, f = g + 1 := ⟨f - 1, by have := h.fuel; omega⟩
  rfl
theorem Blanks.ilt {s : List UInt8} {i k f : Nat} (h : Blanks s i k f) : i < (fieldsS s none).length := (List.getElem?_eq_some_iff.1 h.at).1
theorem Blanks.pos {s : List UInt8} {i k f : Nat} (h : Blanks s i k f) : k < fend s none k := by
  rcases Nat.lt_or_ge (fend s none k) s.length with h1 | h1
  · exact (fend_starts s k h.lt h1).1
  · exact Nat.lt_of_lt_of_le h.lt h1
theorem Blanks.last {s : List UInt8} {i k f : Nat} (h : Blanks s i k f) (h1 : fend s none k = s.length) : i + 1 = (fieldsS s none).length := by
  have h5 := congrArg List.length h.drop
  rw [spans_last _ _ _ _ h.fuel h1, List.length_drop] at h5
  have := h.ilt
  simp at h5
  omega
theorem Blanks.next {s : List UInt8} {i k f : Nat} (h : Blanks s i k f) (h1 : fend s none k ≠ s.length) : Blanks s (i + 1) (fend s none k) (f - 1) ∧ i + 1 < (fieldsS s none).length := by
  have h3 := fend_le s none k (Nat.le_of_lt h.lt)
  have h4 : fend s none k < s.length := by omega
  have h5 := h.drop
  have hp := h.pos
  rw [spans_more _ _ _ _ h.fuel h1] at h5
  have hen := h.enough
  have hb : Blanks s (i + 1) (fend s none k) (f - 1) := by
    refine ⟨?_, by omega, by omega, h4, fun _ => ?_⟩
    · have := congrArg (fun l => l.drop 1) h5
      simp only [List.drop_drop, List.drop_succ_cons, List.drop_zero] at this
      exact this
    · have := (fend_starts s k h.lt h4).2
      unfold starts at this
      simp only [Bool.and_eq_true] at this
      exact this.1.2
  exact ⟨hb, hb.ilt⟩
/-- What lies between a field's begin and its end: some blanks, then others. -/
theorem Blanks.parts {s : List UInt8} {i k f : Nat} (h : Blanks s i k f) : ∃ b, k + b ≤ fend s none k ∧ (∀ j (h : k + j < s.length), j < b → isBl s[k + j] = true) ∧ (∀ j (h : k + j < s.length), b ≤ j → k + j < fend s none k → isBl s[k + j] = false) ∧
    (0 < i → 0 < b) ∧ (i + 1 < (fieldsS s none).length → k + b < fend s none k) := by
  have h1 := nxt_ge (fun c => !isBl c) s k
  have h2 := nxt_ge isBl s (nxt (fun c => !isBl c) s k)
  have h3 : fend s none k = nxt isBl s (nxt (fun c => !isBl c) s k) := rfl
  refine ⟨nxt (fun c => !isBl c) s k - k, by omega, fun j hj hb => ?_, fun j hj hb he => ?_, fun hi => ?_, fun hi => ?_⟩
  · have := nxt_ahead (fun c => !isBl c) s k (k + j) (by omega) (by omega) hj
    simpa using this
  · exact nxt_ahead isBl s (nxt (fun c => !isBl c) s k) (k + j) (by omega) (by omega) hj
  · have h4 := h.later hi
    rw [getD_at s k h.lt] at h4
    have h5 := nxt_step (fun c => !isBl c) s k h.lt
    rw [h4] at h5
    simp only [Bool.not_true, Bool.false_eq_true, if_false] at h5
    have := nxt_ge (fun c => !isBl c) s (k + 1)
    omega
  · have h4 : fend s none k ≠ s.length := fun e => by have := h.last e; omega
    have h5 := fend_le s none k (Nat.le_of_lt h.lt)
    have h6 : isBl (s[fend s none k]'(by omega)) = true := nxt_at isBl s (nxt (fun c => !isBl c) s k) (by rw [← h3]; omega)
    rcases Nat.lt_or_ge (nxt (fun c => !isBl c) s k) (fend s none k) with h7 | h7
    · omega
    · have h8 : nxt (fun c => !isBl c) s k = fend s none k := by omega
      have h9 := nxt_at (fun c => !isBl c) s k (by omega)
      simp only [h8] at h9
      rw [h6] at h9
      cases h9
/-- Ahead of field i, or behind the last. -/
def BlAt (s : List UInt8) (i k : Nat) : Prop := (∃ f, Blanks s i k f) ∨ (i = (fieldsS s none).length ∧ k = s.length)
theorem Blanks.on {s : List UInt8} {i k f : Nat} (h : Blanks s i k f) : BlAt s (i + 1) (fend s none k) := by
  by_cases hend : fend s none k = s.length
  · exact Or.inr ⟨h.last hend, hend⟩
  · exact Or.inl ⟨_, (h.next hend).1⟩
end Go.Proofs.YthdejcoaledklaaDoor
