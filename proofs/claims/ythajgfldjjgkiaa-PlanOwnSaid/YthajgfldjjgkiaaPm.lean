/- What a plan is. No program. -/
import Derived.Test.YthajgfldjjgkiaaGv
namespace Go.Proofs.Ythajgfldjjgkiaa

/-- The sum of what a function gives below n. -/
def sumN (f : Nat → Nat) : Nat → Nat
  | 0 => 0
  | n + 1 => sumN f n + f n
theorem sumN_congr {f g : Nat → Nat} : ∀ n, (∀ i, i < n → f i = g i) → sumN f n = sumN g n
  | 0, _ => rfl
  | n + 1, h => by rw [sumN, sumN, sumN_congr n fun i hi => h i (by omega), h n (by omega)]
theorem sumN_zero : ∀ n, sumN (fun _ => 0) n = 0
  | 0 => rfl
  | n + 1 => by rw [sumN, sumN_zero n]
theorem sumN_add (f g : Nat → Nat) : ∀ n, sumN (fun i => f i + g i) n = sumN f n + sumN g n
  | 0 => rfl
  | n + 1 => by rw [sumN, sumN, sumN, sumN_add f g n]; omega
theorem sumN_one (k : Nat) : ∀ n, sumN (fun i => if i = k then 1 else 0) n = if k < n then 1 else 0
  | 0 => by simp [sumN]
  | n + 1 => by
    rw [sumN, sumN_one k n]
    by_cases h1 : k < n
    · rw [if_pos h1, if_neg (by omega), if_pos (by omega)]
    · rw [if_neg h1]
      by_cases h2 : n = k
      · rw [if_pos h2, if_pos (by omega)]
      · rw [if_neg h2, if_neg (by omega)]
theorem sumN_le_one {f : Nat → Nat} : ∀ n, (∀ i, i < n → f i ≤ 1) → sumN f n ≤ n
  | 0, _ => Nat.le_refl _
  | n + 1, h => by
    have := sumN_le_one n fun i hi => h i (by omega)
    have := h n (by omega)
    rw [sumN]; omega
theorem sumN_all_one {f : Nat → Nat} : ∀ n, (∀ i, i < n → f i ≤ 1) → sumN f n = n → ∀ i, i < n → f i = 1
  | 0, _, _, _, h => by omega
  | n + 1, h, e, i, hi => by
    have h1 := sumN_le_one n fun i hi => h i (by omega)
    have h2 := h n (by omega)
    rw [sumN] at e
    by_cases hin : i = n
    · subst hin; omega
    · exact sumN_all_one n (fun i hi => h i (by omega)) (by omega) i (by omega)
/-- Each of numbers below m stands in one place. -/
theorem count_sum {m : Nat} : ∀ l : List Int, (∀ x ∈ l, 0 ≤ x ∧ x < (m : Int)) → sumN (fun i => l.count (i : Int)) m = l.length
  | [], _ => by simp [sumN_zero]
  | x :: l, h => by
    have ih := count_sum l fun y hy => h y (List.mem_cons_of_mem _ hy)
    obtain ⟨h0, h1⟩ := h x (List.mem_cons_self)
    have e : sumN (fun i => (x :: l).count (i : Int)) m = sumN (fun i => l.count (i : Int) + if i = x.toNat then 1 else 0) m := sumN_congr m fun i _ => by
      rw [List.count_cons]
      by_cases hx : x = (i : Int)
      · have : i = x.toNat := by omega
        rw [if_pos this]; simp [hx]
      · have : ¬ i = x.toNat := by omega
        rw [if_neg this]; simp [hx]
    rw [e, sumN_add, ih, sumN_one, if_pos (by omega)]
    simp
def flat (ss : List Stp) : List Int := ss.flatMap Stp.inn
theorem flat_snoc (ss : List Stp) (x : Stp) : flat (ss ++ [x]) = flat ss ++ x.inn := by simp [flat]
/-- A step of this place. -/
structure StepOk (n fan s : Nat) (x : Stp) : Prop where
  out : x.out = ((n + s : Nat) : Int)
  lo : min n 2 ≤ x.inn.length
  hi : x.inn.length ≤ fan
  up : x.inn.Pairwise (· < ·)
  lt : ∀ y ∈ x.inn, 0 ≤ y ∧ y < ((n + s : Nat) : Int)
/-- A plan. -/
structure PlanOk (n fan : Nat) (ss : List Stp) : Prop where
  some : 0 < ss.length
  few : ss.length ≤ max 1 (n - 1)
  each : ∀ s (h : s < ss.length), StepOk n fan s ss[s]
  once : ∀ i : Nat, i < n + ss.length - 1 → (flat ss).count (i : Int) = 1
theorem mem_flat {ss : List Stp} {x : Int} : x ∈ flat ss ↔ ∃ s, ∃ h : s < ss.length, x ∈ ss[s].inn := by
  unfold flat
  rw [List.mem_flatMap]
  constructor
  · rintro ⟨t, ht, hx⟩
    obtain ⟨s, hs, rfl⟩ := List.mem_iff_getElem.1 ht
    exact ⟨s, hs, hx⟩
  · rintro ⟨s, hs, hx⟩
    exact ⟨_, List.getElem_mem hs, hx⟩
/-- All are there below the last one. -/
theorem flat_lt {n fan : Nat} {ss : List Stp} (h : ∀ s (h : s < ss.length), StepOk n fan s ss[s]) : ∀ x ∈ flat ss, 0 ≤ x ∧ x < ((n + ss.length - 1 : Nat) : Int) := by
  intro x hx
  obtain ⟨s, hs, hx⟩ := mem_flat.1 hx
  have := (h s hs).lt x hx
  omega
theorem PlanOk.len {n fan : Nat} {ss : List Stp} (h : PlanOk n fan ss) : (flat ss).length = n + ss.length - 1 := by
  rw [← count_sum (flat ss) (flat_lt h.each)]
  have : sumN (fun i => (flat ss).count (i : Int)) (n + ss.length - 1) = sumN (fun _ => 1) (n + ss.length - 1) := sumN_congr _ fun i hi => h.once i hi
  rw [this]
  have one : ∀ m, sumN (fun _ => 1) m = m := fun m => by
    induction m with
    | zero => rfl
    | succ m ih => rw [sumN, ih]
  exact one _
/-- What goes through so many steps without a fault. -/
structure PreOk (n fan : Nat) (ss : List Stp) (k : Nat) : Prop where
  each : ∀ s (h : s < ss.length), s < k → StepOk n fan s ss[s]
  once : ∀ x, (flat (ss.take k)).count x ≤ 1
theorem PreOk.zero (n fan : Nat) (ss : List Stp) : PreOk n fan ss 0 := ⟨fun _ _ h => absurd h (by omega), fun x => by simp [flat]⟩
theorem flat_take {ss : List Stp} {k : Nat} (h : k < ss.length) : flat (ss.take (k + 1)) = flat (ss.take k) ++ ss[k].inn := by
  rw [List.take_succ_eq_append_getElem h, flat_snoc]
theorem up_count {l : List Int} (h : l.Pairwise (· < ·)) (x : Int) : l.count x ≤ 1 := by
  induction l with
  | nil => simp
  | cons a l ih =>
    obtain ⟨h1, h2⟩ := List.pairwise_cons.1 h
    rw [List.count_cons]
    by_cases e : a = x
    · subst e
      have : l.count a = 0 := List.count_eq_zero.2 (fun hm => by have := h1 a hm; omega)
      simp [this]
    · have := ih h2
      simp [e]; omega
theorem PreOk.next {n fan : Nat} {ss : List Stp} {k : Nat} (h : PreOk n fan ss k) (hk : k < ss.length) (hs : StepOk n fan k ss[k]) (hn : ∀ x ∈ ss[k].inn, (flat (ss.take k)).count x = 0) : PreOk n fan ss (k + 1) := by
  refine ⟨fun s hl hlt => ?_, fun x => ?_⟩
  · by_cases e : s = k
    · subst e; exact hs
    · exact h.each s hl (by omega)
  · rw [flat_take hk, List.count_append]
    have h1 := h.once x
    have h2 := up_count hs.up x
    by_cases hm : x ∈ ss[k].inn
    · have := hn x hm; omega
    · have : ss[k].inn.count x = 0 := List.count_eq_zero.2 hm
      omega
/-- A fault is no plan's. -/
theorem PlanOk.pre {n fan : Nat} {ss : List Stp} (h : PlanOk n fan ss) (k : Nat) : ∀ x, (flat (ss.take k)).count x ≤ 1 := by
  intro x
  have hsub : (flat (ss.take k)).count x ≤ (flat ss).count x := by
    have : flat ss = flat (ss.take k) ++ flat (ss.drop k) := by
      unfold flat
      rw [← List.flatMap_append, List.take_append_drop]
    rw [this, List.count_append]; omega
  by_cases hx : x ∈ flat ss
  · obtain ⟨h0, h1⟩ := flat_lt h.each x hx
    have := h.once x.toNat (by omega)
    rw [Int.toNat_of_nonneg h0] at this
    omega
  · have : (flat ss).count x = 0 := List.count_eq_zero.2 hx
    omega
theorem PlanOk.fresh {n fan : Nat} {ss : List Stp} (h : PlanOk n fan ss) {k : Nat} (hk : k < ss.length) : ∀ x ∈ ss[k].inn, (flat (ss.take k)).count x = 0 := by
  intro x hx
  have h1 := h.pre (k + 1) x
  rw [flat_take hk, List.count_append] at h1
  have : 0 < ss[k].inn.count x := List.count_pos_iff.2 hx
  omega
theorem PreOk.done {n fan : Nat} {ss : List Stp} (h : PreOk n fan ss ss.length) (h0 : 0 < ss.length) (h1 : ss.length ≤ max 1 (n - 1)) : PlanOk n fan ss ↔ (flat ss).length = n + ss.length - 1 := by
  refine ⟨fun p => p.len, fun e => ⟨h0, h1, fun s hs => h.each s hs hs, fun i hi => ?_⟩⟩
  have o := h.once
  rw [List.take_length] at o
  have e2 := count_sum (m := n + ss.length - 1) (flat ss) (flat_lt fun s hs => h.each s hs hs)
  exact sumN_all_one _ (fun i _ => o (i : Int)) (by rw [e2]; exact e) i hi
/-- The document's way: numbers are counted. -/
theorem PlanOk.of_counts {n fan : Nat} {ss : List Stp} (hn : 1 ≤ n) (h0 : 0 < ss.length) (h1 : ss.length ≤ n) (h2 : ∀ s (h : s < ss.length), StepOk n fan s ss[s]) (h3 : ∀ i : Nat, i < n + ss.length - 1 → (flat ss).count (i : Int) = 1) : PlanOk n fan ss := by
  refine ⟨h0, ?_, h2, h3⟩
  by_cases e : n = 1
  · subst e; omega
  · have hl : (flat ss).length = n + ss.length - 1 := by
      rw [← count_sum (flat ss) (flat_lt h2)]
      have : sumN (fun i => (flat ss).count (i : Int)) (n + ss.length - 1) = sumN (fun _ => 1) (n + ss.length - 1) := sumN_congr _ fun i hi => h3 i hi
      rw [this]
      have one : ∀ m, sumN (fun _ => 1) m = m := fun m => by
        induction m with
        | zero => rfl
        | succ m ih => rw [sumN, ih]
      exact one _
    have two : ∀ k, k ≤ ss.length → 2 * k ≤ (flat (ss.take k)).length := fun k => by
      induction k with
      | zero => intro _; exact Nat.zero_le _
      | succ k ih =>
        intro hk
        have := ih (by omega)
        have hlo := (h2 k (by omega)).lo
        rw [flat_take (by omega), List.length_append]
        omega
    have := two ss.length (Nat.le_refl _)
    rw [List.take_length] at this
    omega
/-- The number of the error. -/
def ChkIs (W : List Int) (fan : Int) (ss : List Stp) (E : Int) : Prop := (givE W fan ≠ 0 ∧ E = givE W fan) ∨ (givE W fan = 0 ∧ PlanOk W.length fan.toNat ss ∧ E = 0) ∨ (givE W fan = 0 ∧ ¬ PlanOk W.length fan.toNat ss ∧ E = 101)
theorem ChkIs.unique {W : List Int} {fan : Int} {ss : List Stp} {E F : Int} (h : ChkIs W fan ss E) (k : ChkIs W fan ss F) : E = F := by
  rcases h with ⟨a, b⟩ | ⟨a, p, b⟩ | ⟨a, p, b⟩ <;> rcases k with ⟨c, d⟩ | ⟨c, q, d⟩ | ⟨c, q, d⟩ <;> first | exact absurd a c | exact absurd c a | exact absurd p q | exact absurd q p | omega
theorem ChkIs.range {W : List Int} {fan : Int} {ss : List Stp} {E : Int} (h : ChkIs W fan ss E) : 0 ≤ E ∧ E ≤ 101 := by
  have : 0 ≤ givE W fan ∧ givE W fan ≤ 100 := by unfold givE; split <;> (try split) <;> omega
  rcases h with ⟨a, b⟩ | ⟨a, p, b⟩ | ⟨a, p, b⟩ <;> omega
theorem ChkIs.ok {W : List Int} {fan : Int} {ss : List Stp} {E : Int} (h : ChkIs W fan ss E) (e : E = 0) : givE W fan = 0 ∧ PlanOk W.length fan.toNat ss := by
  rcases h with ⟨a, b⟩ | ⟨a, p, b⟩ | ⟨a, p, b⟩
  · omega
  · exact ⟨a, p⟩
  · omega
end Go.Proofs.Ythajgfldjjgkiaa
