/- Fields of a line, as plain lists: where each ends, all of them, and what a look byte by byte finds. No program is named. -/
import Derived.Lib.Bytealg
import Derived.WalkKit
namespace Go.Proofs.YtgpcmlbmmcnkjaaGreatDoor

/-- The first place from k on at which p holds; the length, if there is none. -/
def nxt (p : UInt8 → Bool) (s : List UInt8) (k : Nat) : Nat := k + (s.drop k).findIdx p
theorem nxt_step (p : UInt8 → Bool) (s : List UInt8) (k : Nat) (h : k < s.length) : nxt p s k = if p s[k] then k else nxt p s (k + 1) := by
  unfold nxt
  rw [List.drop_eq_getElem_cons h, List.findIdx_cons]
  cases p s[k] <;> simp; omega
theorem nxt_end (p : UInt8 → Bool) (s : List UInt8) (k : Nat) (h : s.length ≤ k) : nxt p s k = k := by
  unfold nxt
  rw [List.drop_eq_nil_of_le h]; rfl
theorem nxt_ge (p : UInt8 → Bool) (s : List UInt8) (k : Nat) : k ≤ nxt p s k := Nat.le_add_right _ _
theorem nxt_le (p : UInt8 → Bool) (s : List UInt8) (k : Nat) (h : k ≤ s.length) : nxt p s k ≤ s.length := by
  unfold nxt
  have := List.findIdx_le_length (p := p) (xs := s.drop k)
  rw [List.length_drop] at this
  omega
theorem nxt_at (p : UInt8 → Bool) (s : List UInt8) (k : Nat) (h : nxt p s k < s.length) : p s[nxt p s k] = true := by
  have hk : (s.drop k).findIdx p < (s.drop k).length := by
    rw [List.length_drop]
    unfold nxt at h
    omega
  have := List.findIdx_getElem (w := hk)
  rw [List.getElem_drop] at this
  exact this
theorem nxt_ahead (p : UInt8 → Bool) (s : List UInt8) (k j : Nat) (h1 : k ≤ j) (h2 : j < nxt p s k) (h3 : j < s.length) : p s[j] = false := by
  have hk : j - k < (s.drop k).findIdx p := by unfold nxt at h2; omega
  have := List.not_of_lt_findIdx hk
  rw [List.getElem_drop] at this
  have e : k + (j - k) = j := by omega
  simpa [e] using this

def isBl (c : UInt8) : Bool := c == 9 || c == 32
/-- Where the field ends that begins at k: with a separator, without. -/
def fend (s : List UInt8) (tab : Option UInt8) (k : Nat) : Nat :=
  match tab with
  | some t => nxt (· == t) s k
  | none => nxt isBl s (nxt (fun c => !isBl c) s k)
def gapN (tab : Option UInt8) : Nat := if tab.isSome then 1 else 0
theorem fend_ge (s : List UInt8) (tab : Option UInt8) (k : Nat) : k ≤ fend s tab k := by
  cases tab with
  | some t => exact nxt_ge _ _ _
  | none => exact Nat.le_trans (nxt_ge _ _ _) (nxt_ge _ _ _)
theorem fend_le (s : List UInt8) (tab : Option UInt8) (k : Nat) (h : k ≤ s.length) : fend s tab k ≤ s.length := by
  cases tab with
  | some t => exact nxt_le _ _ _ h
  | none => exact nxt_le _ _ _ (nxt_le _ _ _ h)
/-- What begins a field where there is no separator. -/
def starts (s : List UInt8) (j : Nat) : Bool := decide (0 < j) && isBl (s.getD j 0) && !isBl (s.getD (j - 1) 0)
theorem getD_at (s : List UInt8) (j : Nat) (h : j < s.length) : s.getD j 0 = s[j] := by simp [List.getD, h]
theorem fend_starts (s : List UInt8) (k : Nat) (hk : k < s.length) (h : fend s none k < s.length) : k < fend s none k ∧ starts s (fend s none k) = true := by
  have h0 := nxt_ge (fun c => !isBl c) s k
  have h1 : fend s none k = nxt isBl s (nxt (fun c => !isBl c) s k) := rfl
  generalize hj : nxt (fun c => !isBl c) s k = j at *
  have h2 := nxt_ge isBl s j
  rw [← h1] at h2
  have hb : isBl s[fend s none k] = true := by
    have := nxt_at isBl s j (by rw [← h1]; exact h)
    simpa only [← h1] using this
  have hjl : j < s.length := by omega
  have hnb : (!isBl s[j]) = true := by
    have := nxt_at (fun c => !isBl c) s k (by rw [hj]; exact hjl)
    simpa [hj] using this
  have hne : j ≠ fend s none k := by
    intro e
    have : isBl s[j] = true := by simpa [← e] using hb
    rw [this] at hnb
    cases hnb
  have hpre : isBl s[fend s none k - 1] = false := nxt_ahead isBl s j _ (by omega) (by rw [← h1]; omega) (by omega)
  refine ⟨by omega, ?_⟩
  unfold starts
  rw [getD_at _ _ h, getD_at _ _ (by omega), hb, hpre]
  simp; omega
theorem fend_inside (s : List UInt8) (k j : Nat) (h1 : k < j) (h2 : j < fend s none k) (h3 : j < s.length) : starts s j = false := by
  have h0 : fend s none k = nxt isBl s (nxt (fun c => !isBl c) s k) := rfl
  generalize hm : nxt (fun c => !isBl c) s k = m at *
  unfold starts
  rw [getD_at _ _ h3, getD_at _ _ (by omega)]
  by_cases h : j - 1 < m
  · have := nxt_ahead (fun c => !isBl c) s k (j - 1) (by omega) (by rw [hm]; exact h) (by omega)
    have e : isBl s[j - 1] = true := by simpa using this
    rw [e]; simp
  · have := nxt_ahead isBl s m j (by omega) (by rw [← h0]; exact h2) h3
    rw [this]; simp

/-- The fields from k on. -/
def spans (s : List UInt8) (tab : Option UInt8) : Nat → Nat → List (Nat × Nat)
  | 0, _ => []
  | f + 1, k => (k, fend s tab k) :: if fend s tab k = s.length then [] else spans s tab f (fend s tab k + gapN tab)
def fieldsS (s : List UInt8) (tab : Option UInt8) : List (Nat × Nat) := if tab = none ∧ s = [] then [] else spans s tab (s.length + 1) 0
theorem spans_last (s : List UInt8) (tab : Option UInt8) (f k : Nat) (hf : 0 < f) (h : fend s tab k = s.length) : spans s tab f k = [(k, s.length)] := by
  obtain ⟨g, rfl⟩ : ∃ g, f = g + 1 := ⟨f - 1, by omega⟩
  unfold spans
  rw [if_pos h, h]
theorem spans_more (s : List UInt8) (tab : Option UInt8) (f k : Nat) (hf : 0 < f) (h : fend s tab k ≠ s.length) : spans s tab f k = (k, fend s tab k) :: spans s tab (f - 1) (fend s tab k + gapN tab) := by
  obtain ⟨g, rfl⟩ : ∃ g, f = g + 1 := ⟨f - 1, by omega⟩
  rw [spans, if_neg h]
  rfl
theorem spans_len (s : List UInt8) (tab : Option UInt8) : ∀ f k, (spans s tab f k).length ≤ f
  | 0, _ => by simp [spans]
  | f + 1, k => by
    unfold spans
    split
    · simp
    · have := spans_len s tab f (fend s tab k + gapN tab)
      simp only [List.length_cons]; omega

/-- What a look byte by byte finds. -/
theorem fend_hit (s : List UInt8) (t : UInt8) (p k : Nat) (h1 : p ≤ k) (h2 : k ≤ fend s (some t) p) (h3 : k < s.length) (h : s[k] = t) : fend s (some t) p = k := by
  rcases Nat.lt_or_ge k (fend s (some t) p) with h4 | h4
  · have := nxt_ahead (· == t) s p k h1 h4 h3
    rw [h] at this
    simp at this
  · omega
theorem fend_miss (s : List UInt8) (t : UInt8) (p k : Nat) (h2 : k ≤ fend s (some t) p) (h3 : k < s.length) (h : s[k] ≠ t) : k + 1 ≤ fend s (some t) p := by
  rcases Nat.lt_or_ge k (fend s (some t) p) with h4 | h4
  · exact h4
  · have e : fend s (some t) p = k := by omega
    have e' : nxt (· == t) s p = k := e
    have := nxt_at (· == t) s p (by rw [e']; exact h3)
    simp only [e'] at this
    exact absurd (by simpa using this) h
theorem fend_over (s : List UInt8) (o : Option UInt8) (p : Nat) (h1 : p ≤ s.length) (h2 : s.length ≤ fend s o p) : fend s o p = s.length := by
  have := fend_le s o p h1
  omega
theorem fend_begin (s : List UInt8) (p k : Nat) (h1 : p < k) (h2 : k ≤ fend s none p) (h3 : k < s.length) (h : starts s k = true) : fend s none p = k := by
  rcases Nat.lt_or_ge k (fend s none p) with h4 | h4
  · rw [fend_inside s p k h1 h4 h3] at h
    cases h
  · omega
theorem fend_on (s : List UInt8) (p k : Nat) (h0 : p < k ∨ (p = 0 ∧ k = 0)) (h2 : k ≤ fend s none p) (h3 : k < s.length) (h : starts s k = false) : k + 1 ≤ fend s none p := by
  rcases Nat.lt_or_ge k (fend s none p) with h4 | h4
  · exact h4
  · have e : fend s none p = k := by omega
    have h5 := fend_starts s p (by omega) (by omega)
    rw [e, h] at h5
    cases h5.2
theorem index_find (c : UInt8) : ∀ l : List UInt8, Lib.indexByte l c = if l.findIdx (· == c) < l.length then (l.findIdx (· == c) : Int) else -1
  | [] => rfl
  | x :: r => by
    have ih := index_find c r
    unfold Lib.indexByte
    rw [ih, List.findIdx_cons]
    cases hx : x == c with
    | true => simp
    | false =>
      by_cases hl : r.findIdx (· == c) < r.length
      · have h2 : ((r.findIdx (· == c) : Int) == -1) = false := by rw [beq_eq_false_iff_ne]; omega
        simp [hl, h2]
      · simp [hl]
/-- What IndexByte gives of what is left of the line. -/
theorem index_at (s : List UInt8) (t : UInt8) (k : Nat) (hk : k ≤ s.length) : Lib.indexByte (s.drop k) t = if fend s (some t) k < s.length then (fend s (some t) k : Int) - k else -1 := by
  rw [index_find]
  have e : fend s (some t) k = k + (s.drop k).findIdx (· == t) := rfl
  rw [e, List.length_drop]
  by_cases h : (s.drop k).findIdx (· == t) < s.length - k
  · rw [if_pos h, if_pos (by omega)]; omega
  · rw [if_neg h, if_neg (by omega)]
end Go.Proofs.YtgpcmlbmmcnkjaaGreatDoor
