/- What Make gives is a plan. No program. -/
import Derived.Test.YthajgfldjjgkiaaLm
import Derived.Test.YthajgfldjjgkiaaPm
namespace Go.Proofs.Ythajgfldjjgkiaa

theorem getD_set {A : List Int} {k j : Nat} : (A.set k (-1)).getD j (-1) = if k = j then -1 else A.getD j (-1) := by
  rw [List.getD_eq_getElem?_getD, List.getElem?_set, List.getD_eq_getElem?_getD]
  by_cases e : k = j
  · rw [if_pos e, if_pos e]; split <;> rfl
  · rw [if_neg e, if_neg e]
/-- What was picked is gone, all else is there. -/
theorem pk_left {A : List Int} : ∀ {i}, i ≤ cnt A → (∀ j : Nat, 0 ≤ (pkA A i).getD j (-1) ↔ 0 ≤ A.getD j (-1) ∧ (j : Int) ∉ pkL A i) ∧ (∀ x ∈ pkL A i, 0 ≤ x ∧ 0 ≤ A.getD x.toNat (-1)) ∧ (pkL A i).Nodup
  | 0, _ => ⟨fun j => by simp [pkA, pkL], (fun x hx => by cases hx), List.nodup_nil⟩
  | i + 1, h => by
    obtain ⟨h1, h2, h3⟩ := pk_left (A := A) (i := i) (by omega)
    have hl := (pk_isL (A := A) (i := i) (by omega)).1.1
    obtain ⟨l1, l2⟩ := (h1 _).1 hl
    refine ⟨fun j => ?_, fun x hx => ?_, ?_⟩
    · rw [pkA, getD_set, pkL, List.mem_append, List.mem_singleton]
      by_cases e : ls (pkA A i) = j
      · rw [if_pos e]
        exact ⟨fun q => by omega, fun q => absurd (Or.inr (by rw [e])) q.2⟩
      · rw [if_neg e, h1 j]
        have : ¬ (j : Int) = (ls (pkA A i) : Int) := by omega
        exact ⟨fun q => ⟨q.1, fun r => r.elim q.2 this⟩, fun q => ⟨q.1, fun r => q.2 (Or.inl r)⟩⟩
    · rw [pkL, List.mem_append, List.mem_singleton] at hx
      rcases hx with hx | hx
      · exact h2 x hx
      · subst hx
        exact ⟨by omega, by simpa using l1⟩
    · rw [pkL, List.nodup_append]
      refine ⟨h3, by simp, fun a ha b hb => ?_⟩
      rw [List.mem_singleton] at hb
      subst hb
      rintro rfl
      exact l2 ha
theorem srt_mem {l : List Int} {x : Int} : x ∈ srt l ↔ x ∈ l := (srt_perm l).mem_iff
theorem srt_lt {l : List Int} (h : l.Nodup) : (srt l).Pairwise (· < ·) := by
  have h1 : (srt l).Pairwise (fun x y => decide (x ≤ y) = true) := List.pairwise_mergeSort (fun a b c => by simp only [decide_eq_true_eq]; omega) (fun a b => by simp only [Bool.or_eq_true, decide_eq_true_eq]; omega) l
  have h2 : (srt l).Nodup := (srt_perm l).nodup_iff.2 h
  have h3 := h1.and h2
  exact h3.imp fun {a b} q => by have := q.1; simp only [decide_eq_true_eq] at this; have := q.2; omega
theorem mkS_at (W : List Int) (fan : Nat) : ∀ s i (h : i < (mkS W fan s).length), (mkS W fan s)[i] = ⟨srt (pkL (mkA W fan i) (tkn W.length fan i)), ((W.length + i : Nat) : Int)⟩
  | 0, i, h => by simp [mkS] at h
  | s + 1, i, h => by
    rw [mkS_len] at h
    have hl := mkS_len W fan s
    by_cases e : i = s
    · subst e
      simp only [mkS]
      rw [List.getElem_append_right (by omega)]
      simp [hl]
    · have hi : i < (mkS W fan s).length := by omega
      have : (mkS W fan (s + 1))[i]'(by rw [mkS_len]; exact h) = (mkS W fan s)[i] := by
        simp only [mkS]
        rw [List.getElem_append_left hi]
      rw [this]
      exact mkS_at W fan s i hi
/-- What is there behind s steps is what no step took. -/
theorem mk_left {W : List Int} {fan : Nat} (hW : Wts W) (hf : 2 ≤ fan) (hn : 2 ≤ W.length) : ∀ s, s ≤ need W.length fan → (∀ j : Nat, 0 ≤ (mkA W fan s).getD j (-1) ↔ j < W.length + s ∧ (j : Int) ∉ flat (mkS W fan s)) ∧ (∀ x ∈ flat (mkS W fan s), 0 ≤ x ∧ x < ((W.length + s : Nat) : Int)) ∧ (flat (mkS W fan s)).Nodup ∧ (flat (mkS W fan s)).length + left W.length fan s = W.length + s
  | 0, _ => by
    refine ⟨fun j => ?_, (fun x hx => by cases hx), List.nodup_nil, by simp [mkS, flat, left]⟩
    constructor
    · exact fun h => ⟨getD_out h, by simp [mkS, flat]⟩
    · rintro ⟨h, _⟩
      have := hW _ (List.getElem_mem (show j < W.length by omega))
      rw [mkA, List.getD_eq_getElem?_getD, List.getElem?_eq_getElem (by omega)]
      exact this.1
  | s + 1, h => by
    obtain ⟨h1, h2, h3, h4⟩ := mk_left hW hf hn s (by omega)
    have hc := (mk_ok hW hf hn s (by omega)).1
    obtain ⟨t1, t2⟩ := left_step (s := s) hf hn (by omega)
    obtain ⟨p1, p2, p3⟩ := pk_left (A := mkA W fan s) (i := tkn W.length fan s) (by omega)
    have hp := (pk_ok (A := mkA W fan s) (i := tkn W.length fan s) (by omega)).2.2
    have hl := mkA_len W fan s
    have hf' : flat (mkS W fan (s + 1)) = flat (mkS W fan s) ++ srt (pkL (mkA W fan s) (tkn W.length fan s)) := by rw [mkS, flat_snoc]
    have old : ∀ x ∈ pkL (mkA W fan s) (tkn W.length fan s), 0 ≤ x ∧ x < ((W.length + s : Nat) : Int) ∧ x ∉ flat (mkS W fan s) := fun x hx => by
      obtain ⟨a, b⟩ := p2 x hx
      obtain ⟨c, d⟩ := (h1 _).1 b
      have ex : ((x.toNat : Nat) : Int) = x := Int.toNat_of_nonneg a
      rw [ex] at d
      exact ⟨a, by omega, d⟩
    refine ⟨fun j => ?_, fun x hx => ?_, ?_, ?_⟩
    · rw [hf', List.mem_append, srt_mem, mkA]
      rcases Nat.lt_trichotomy j (W.length + s) with hj | hj | hj
      · rw [List.getD_eq_getElem?_getD, List.getElem?_append_left (by rw [pkA_len]; omega), ← List.getD_eq_getElem?_getD, p1 j, h1 j]
        constructor
        · rintro ⟨⟨a, b⟩, c⟩; exact ⟨by omega, fun r => r.elim b c⟩
        · rintro ⟨a, b⟩; exact ⟨⟨hj, fun r => b (Or.inl r)⟩, fun r => b (Or.inr r)⟩
      · rw [List.getD_eq_getElem?_getD, List.getElem?_append_right (by rw [pkA_len]; omega), pkA_len, show j - (mkA W fan s).length = 0 by omega]
        refine ⟨fun _ => ⟨by omega, ?_⟩, fun _ => hp⟩
        rintro (r | r)
        · have := (h2 _ r).2; omega
        · have := (old _ r).2.1; omega
      · rw [List.getD_eq_getElem?_getD, List.getElem?_eq_none (by rw [List.length_append, pkA_len]; simp; omega)]
        exact ⟨fun q => absurd q (by simp), fun q => by omega⟩
    · rw [hf', List.mem_append, srt_mem] at hx
      rcases hx with hx | hx
      · have := h2 x hx; omega
      · have := old x hx; omega
    · rw [hf', List.nodup_append]
      refine ⟨h3, (srt_perm _).nodup_iff.2 p3, fun a ha b hb => ?_⟩
      rintro rfl
      exact (old _ (srt_mem.1 hb)).2.2 ha
    · rw [hf', List.length_append, srt_len, pkL_len]
      omega
theorem nodup_cnt1 {l : List Int} (h : l.Nodup) (x : Int) : l.count x ≤ 1 := List.nodup_iff_count.1 h x
theorem mkS_take (W : List Int) (fan : Nat) : ∀ s k, k ≤ s → (mkS W fan s).take k = mkS W fan k
  | 0, k, h => by
    obtain rfl : k = 0 := by omega
    rfl
  | s + 1, k, h => by
    by_cases e : k = s + 1
    · subst e
      rw [List.take_of_length_le (by rw [mkS_len]; omega)]
    · simp only [mkS]
      rw [List.take_append_of_le_length (by rw [mkS_len]; omega)]
      exact mkS_take W fan s k (by omega)
/-- Make's steps are a plan. -/
theorem mk_plan {W : List Int} {fan : Int} (hE : givE W fan = 0) : PlanOk W.length fan.toNat (mkAll W fan.toNat) := by
  obtain ⟨e1, e2, e3, e4, hW⟩ := givE_ok hE
  unfold mkAll
  by_cases h1 : W.length = 1
  · rw [if_pos h1]
    refine ⟨by simp, by simp; omega, fun s hs => ?_, fun i hi => ?_⟩
    · have : s = 0 := by simp at hs; omega
      subst this
      refine ⟨by simp [h1], by simp [h1], by simp; omega, by simp, fun y hy => ?_⟩
      simp at hy
      subst hy
      simp [h1]
    · have : i = 0 := by simp at hi; omega
      subst this
      simp [flat]
  · rw [if_neg h1]
    have hn : 2 ≤ W.length := by omega
    have hf : 2 ≤ fan.toNat := by omega
    have nl := need_le hf hn
    obtain ⟨q, _, q2⟩ := need_spec hf hn
    obtain ⟨_, _, n3, n4⟩ := mk_left hW hf hn _ (Nat.le_refl _)
    have each : ∀ s (h : s < (mkS W fan.toNat (need W.length fan.toNat)).length), StepOk W.length fan.toNat s (mkS W fan.toNat (need W.length fan.toNat))[s] := fun s h => by
      rw [mkS_at]
      rw [mkS_len] at h
      have hc := (mk_ok hW hf hn s (by omega)).1
      obtain ⟨t1, t2⟩ := left_step (s := s) hf hn (by omega)
      obtain ⟨p1, p2, p3⟩ := pk_left (A := mkA W fan.toNat s) (i := tkn W.length fan.toNat s) (by omega)
      refine ⟨rfl, ?_, ?_, srt_lt p3, fun y hy => ?_⟩
      · simp only [srt_len, pkL_len]; have := tkn_ge W.length fan.toNat s hf; omega
      · simp only [srt_len, pkL_len]; exact tkn_le W.length fan.toNat s hf
      · obtain ⟨a, b⟩ := p2 y (srt_mem.1 hy)
        have := getD_out b
        rw [mkA_len] at this
        omega
    have pre : PreOk W.length fan.toNat (mkS W fan.toNat (need W.length fan.toNat)) (mkS W fan.toNat (need W.length fan.toNat)).length := ⟨fun s h _ => each s h, fun x => by rw [List.take_length]; exact nodup_cnt1 n3 x⟩
    refine (pre.done (by rw [mkS_len]; omega) (by rw [mkS_len]; omega)).2 ?_
    rw [mkS_len]
    have := left_end hf hn
    omega
end Go.Proofs.Ythajgfldjjgkiaa
