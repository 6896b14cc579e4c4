/- Where a key begins and ends: as the program looks for it, as the document lists it. No program. -/
import Derived.Test.YtgpcmlbmmcnkjaaGreatDoorSpans
namespace Go.Proofs.YtgpcmlbmmcnkjaaGreatDoor

/-- Field m (from 0 on) behind k. -/
def fbeg (s : List UInt8) (tab : Option UInt8) : Nat → Nat → Nat
  | 0, k => k
  | m + 1, k => if fend s tab k = s.length then s.length else fbeg s tab m (fend s tab k + gapN tab)
theorem fend_len (s : List UInt8) (tab : Option UInt8) : fend s tab s.length = s.length := by
  cases tab with
  | some t => exact nxt_end _ _ _ (Nat.le_refl _)
  | none => unfold fend; simp only; rw [nxt_end _ _ s.length (Nat.le_refl _), nxt_end _ _ s.length (Nat.le_refl _)]
theorem fend_next (s : List UInt8) (tab : Option UInt8) (k : Nat) (hk : k ≤ s.length) (h : fend s tab k ≠ s.length) : k < fend s tab k + gapN tab ∧ fend s tab k + gapN tab ≤ s.length := by
  have h1 := fend_ge s tab k
  have h2 := fend_le s tab k hk
  cases tab with
  | some t => unfold gapN; simp only [Option.isSome_some, if_true]; omega
  | none =>
    have hk2 : k < s.length := by
      rcases Nat.lt_or_ge k s.length with h3 | h3
      · exact h3
      · exfalso
        obtain rfl : k = s.length := by omega
        exact h (fend_len s none)
    have := fend_starts s k hk2 (by omega)
    unfold gapN
    simp only [Option.isSome_none, Bool.false_eq_true, if_false]
    omega
theorem fbeg_le (s : List UInt8) (tab : Option UInt8) : ∀ m k, k ≤ s.length → fbeg s tab m k ≤ s.length
  | 0, _, h => h
  | m + 1, k, h => by
    rw [fbeg]
    split
    · exact Nat.le_refl _
    · rename_i hn
      exact fbeg_le s tab m _ (fend_next s tab k h hn).2
theorem fbeg_ge (s : List UInt8) (tab : Option UInt8) : ∀ m k, k ≤ s.length → k ≤ fbeg s tab m k
  | 0, _, _ => Nat.le_refl _
  | m + 1, k, h => by
    rw [fbeg]
    split
    · exact h
    · rename_i hn
      have h1 := fend_next s tab k h hn
      exact Nat.le_trans (Nat.le_of_lt h1.1) (fbeg_ge s tab m _ h1.2)
/-- The list of the fields tells where each begins. -/
theorem spans_at (s : List UInt8) (tab : Option UInt8) : ∀ f m k, k ≤ s.length → s.length - k < f → (m < (spans s tab f k).length → (spans s tab f k)[m]? = some (fbeg s tab m k, fend s tab (fbeg s tab m k))) ∧ (¬ m < (spans s tab f k).length → fbeg s tab m k = s.length)
  | 0, _, _, _, h => by omega
  | f + 1, m, k, hk, hf => by
    rw [spans]
    by_cases he : fend s tab k = s.length
    · rw [if_pos he]
      cases m with
      | zero => exact ⟨fun _ => rfl, fun h => absurd (Nat.zero_lt_one) h⟩
      | succ m => exact ⟨fun h => by simp at h, fun _ => by rw [fbeg, if_pos he]⟩
    · rw [if_neg he]
      have hn := fend_next s tab k hk he
      cases m with
      | zero => exact ⟨fun _ => rfl, fun h => absurd (by simp) h⟩
      | succ m =>
        have ih := spans_at s tab f m (fend s tab k + gapN tab) hn.2 (by omega)
        rw [fbeg, if_neg he]
        exact ⟨fun h => by rw [List.getElem?_cons_succ]; exact ih.1 (by simpa using h), fun h => ih.2 (by simpa using h)⟩
theorem fields_at (s : List UInt8) (tab : Option UInt8) (m : Nat) : (m < (fieldsS s tab).length → (fieldsS s tab)[m]? = some (fbeg s tab m 0, fend s tab (fbeg s tab m 0))) ∧ (¬ m < (fieldsS s tab).length → fbeg s tab m 0 = s.length) := by
  unfold fieldsS
  split
  · rename_i h
    obtain ⟨rfl, rfl⟩ := h
    refine ⟨fun h => by simp at h, fun _ => ?_⟩
    have := fbeg_le [] none m 0 (Nat.le_refl _)
    simpa using this
  · exact spans_at s tab _ m 0 (Nat.zero_le _) (by omega)
/-- Behind the blanks that stand at k. -/
def behB (s : List UInt8) (k : Nat) : Nat := nxt (fun c => !isBl c) s k
/-- From k on: behind the blanks, if these are passed over; then n bytes, as far as there are any. -/
def furS (s : List UInt8) (k : Nat) (bl : Bool) (n : Nat) : Nat := (if bl then behB s k else k) + min n (s.length - (if bl then behB s k else k))
theorem behB_le (s : List UInt8) (k : Nat) (h : k ≤ s.length) : behB s k ≤ s.length := nxt_le _ _ _ h
theorem furS_le (s : List UInt8) (k : Nat) (bl : Bool) (n : Nat) (h : k ≤ s.length) : furS s k bl n ≤ s.length := by
  unfold furS
  have := behB_le s k h
  split <;> omega
end Go.Proofs.YtgpcmlbmmcnkjaaGreatDoor
