/- How many inputs a run holds. No program. -/
import Derived.Test.YthajgfldjjgkiaaCw
namespace Go.Proofs.Ythajgfldjjgkiaa

/-- The first j hold one. -/
def fillF (j : Nat) : Nat → Int := fun x => if x < j then 1 else 0
theorem fillF_next (j : Nat) : updF (fillF j) j 1 = fillF (j + 1) := by
  funext x
  unfold updF fillF
  by_cases e : x = j
  · rw [if_pos e, if_pos (by omega)]
  · rw [if_neg e]
    by_cases h : x < j
    · rw [if_pos h, if_pos (by omega)]
    · rw [if_neg h, if_neg (by omega)]
def ones (n : Nat) : List Int := List.replicate n 1
theorem ones_len (n : Nat) : (ones n).length = n := List.length_replicate
theorem ones_wts (n : Nat) : Wts (ones n) := fun x hx => by have := List.eq_of_mem_replicate hx; omega
theorem ones_get (n x : Nat) : (ones n).getD x 0 = if x < n then 1 else 0 := by
  unfold ones
  rw [List.getD_eq_getElem?_getD, List.getElem?_replicate]
  by_cases h : x < n
  · rw [if_pos h, if_pos h]; rfl
  · rw [if_neg h, if_neg h]; rfl
/-- What each run holds, i runs into the k-th step: those that were taken hold none. -/
def hdF (n : Nat) (ss : List Stp) (k i : Nat) : Nat → Int := fun x => if (x : Int) ∈ flat (ss.take k) ∨ (x : Int) ∈ (inOf ss k).take i then 0 else part (wtF (ones n) ss k) (n + k) ((inOf ss k).take i) x
theorem hdF_start (n : Nat) (ss : List Stp) : fillF n = hdF n ss 0 0 := by
  funext x
  have e0 : hdF n ss 0 0 x = updF (wtF (ones n) ss 0) (n + 0) 0 x := if_neg (by simp [flat])
  rw [e0]
  unfold updF fillF wtF
  rw [ones_get]
  by_cases e : x = n + 0
  · rw [if_pos e, if_neg (by omega)]
  · rw [if_neg e]
/-- What a step finds. -/
structure HdAt (n : Nat) (ss : List Stp) (k i : Nat) (rn : Nat) : Prop where
  lt : rn < n + k
  cr : 0 < hdF n ss k i rn
  co : 0 ≤ hdF n ss k i (n + k)
  up : hdF n ss k i (n + k) + hdF n ss k i rn ≤ 70368744177664
  next : updF (updF (hdF n ss k i) (n + k) (hdF n ss k i (n + k) + hdF n ss k i rn)) rn 0 = hdF n ss k (i + 1)
theorem hd_at {n fan : Nat} {ss : List Stp} (p : PlanOk n fan ss) (hn : 1 ≤ n) (hn2 : n ≤ 65536) {k : Nat} (hk : k < ss.length) {i : Nat} (hi : i < (inOf ss k).length) {rn : Nat} (hr : (inOf ss k)[i] = (rn : Int)) : HdAt n ss k i rn := by
  have p' : PlanOk (ones n).length fan ss := by rw [ones_len]; exact p
  have inv := p'.inv (by rw [ones_len]; exact hn) k (by omega)
  have hin := inOf_get hk
  have sp := p.each k hk
  have mem : (rn : Int) ∈ inOf ss k := by rw [← hr]; exact List.getElem_mem hi
  have hlt : rn < n + k := by have := (sp.lt _ (by rw [← hin]; exact mem)).2; omega
  have fresh : (rn : Int) ∉ flat (ss.take k) := List.count_eq_zero.1 (p.fresh hk _ (by rw [← hin]; exact mem))
  have nd : (inOf ss k).Nodup := by rw [hin]; exact sp.up.imp (fun {a b} h => by omega)
  have ntake : (rn : Int) ∉ (inOf ss k).take i := by
    rw [← hr]
    intro hm
    obtain ⟨j, hj, e⟩ := List.mem_take_iff_getElem.1 hm
    have := (List.getElem_inj nd).1 e
    omega
  have out1 : ((n + k : Nat) : Int) ∉ flat (ss.take k) := fun m => by have := inv.low _ m; rw [ones_len] at this; omega
  have out2 : ∀ j, ((n + k : Nat) : Int) ∉ (inOf ss k).take j := fun j m => by
    have := (sp.lt _ (by rw [← hin]; exact List.mem_of_mem_take m)).2; omega
  have e1 : hdF n ss k i rn = wtF (ones n) ss k rn := by
    unfold hdF
    rw [if_neg (by rintro (h | h); exact fresh h; exact ntake h)]
    exact updF_other _ _ _ _ (by omega)
  have e2 : ∀ j, hdF n ss k j (n + k) = lsum (fun r => wtF (ones n) ss k r.toNat) ((inOf ss k).take j) := fun j => by
    unfold hdF
    rw [if_neg (by rintro (h | h); exact out1 h; exact out2 j h)]
    exact updF_same _ _ _
  obtain ⟨w1, w2, w3⟩ := p'.wt_le (by rw [ones_len]; exact hn) (ones_wts n) hk
  have nxt : lsum (fun r => wtF (ones n) ss k r.toNat) ((inOf ss k).take i) + wtF (ones n) ss k rn = lsum (fun r => wtF (ones n) ss k r.toNat) ((inOf ss k).take (i + 1)) := by
    rw [List.take_succ_eq_append_getElem hi, lsum_snoc, hr]; rfl
  refine ⟨hlt, ?_, ?_, ?_, ?_⟩
  · rw [e1, inv.wt rn (by rw [ones_len]; exact hlt) fresh]
    obtain ⟨q, hq, cq⟩ := inv.some rn (by rw [ones_len]; exact hlt) fresh
    have h1 := sumZ_one (fun _ => 1) q (ones n).length
    rw [if_pos hq] at h1
    have h2 := sumZ_le (f := fun i => if i = q then (1 : Int) else 0) (g := fun i => if curF (ones n).length ss i k = rn then (ones n).getD i 0 else 0) (ones n).length (fun i hi => by
      rw [ones_len] at hi
      by_cases e : i = q
      · subst e
        rw [if_pos rfl, if_pos cq, ones_get, if_pos hi]
        exact Int.le_refl _
      · rw [if_neg e]
        split
        · rw [ones_get]; split <;> omega
        · exact Int.le_refl _)
    omega
  · rw [e2]
    exact lsum_nonneg _ fun x hx => (w1 x (List.mem_of_mem_take hx)).1
  · rw [e1, e2, nxt]
    have := lsum_take_le (f := fun r => wtF (ones n) ss k r.toNat) (l := inOf ss k) (fun x hx => (w1 x hx).1) (i + 1)
    rw [ones_len] at w3
    omega
  · rw [e1, e2, nxt]
    funext x
    unfold updF
    by_cases ex : x = rn
    · rw [if_pos ex]
      subst ex
      unfold hdF
      rw [if_pos (Or.inr (by rw [List.take_succ_eq_append_getElem hi, List.mem_append, hr]; exact Or.inr (List.mem_singleton.2 rfl)))]
    · rw [if_neg ex]
      by_cases eo : x = n + k
      · rw [if_pos eo, eo, e2]
      · rw [if_neg eo]
        unfold hdF
        have : (x : Int) ∈ (inOf ss k).take (i + 1) ↔ (x : Int) ∈ (inOf ss k).take i := by
          rw [List.take_succ_eq_append_getElem hi, List.mem_append, hr, List.mem_singleton]
          exact ⟨fun h => h.elim id (fun h => absurd (by omega) ex), Or.inl⟩
        simp only [this]
        have c : part (wtF (ones n) ss k) (n + k) ((inOf ss k).take i) x = part (wtF (ones n) ss k) (n + k) ((inOf ss k).take (i + 1)) x := by
          unfold part
          rw [updF_other _ _ _ _ eo, updF_other _ _ _ _ eo]
        rw [c]
/-- Behind a step. -/
theorem hd_next {n : Nat} {ss : List Stp} {k : Nat} (hk : k < ss.length) : hdF n ss k (inOf ss k).length = hdF n ss (k + 1) 0 := by
  funext x
  unfold hdF
  rw [List.take_length, flat_take hk, inOf_get hk]
  simp only [List.take_zero, List.mem_append, List.not_mem_nil, or_false]
  have c : part (wtF (ones n) ss (k + 1)) (n + (k + 1)) [] x = part (wtF (ones n) ss k) (n + k) ss[k].inn x := by
    unfold part
    have hw : wtF (ones n) ss (k + 1) x = updF (wtF (ones n) ss k) (n + k) (lsum (fun r => wtF (ones n) ss k r.toNat) ss[k].inn) x := by
      rw [wtF, inOf_get hk, ones_len]
    by_cases e : x = n + (k + 1)
    · subst e
      rw [updF_same, updF_other _ _ _ _ (by omega), wtF_hi (by rw [ones_len]; omega)]
      rfl
    · rw [updF_other _ _ _ _ e, hw]
  rw [c]
/-- At the end the last one holds all. -/
theorem hd_last {n fan : Nat} {ss : List Stp} (p : PlanOk n fan ss) (hn : 1 ≤ n) : hdF n ss ss.length 0 (n + ss.length - 1) = (n : Int) := by
  have p' : PlanOk (ones n).length fan ss := by rw [ones_len]; exact p
  have hn' : 1 ≤ (ones n).length := by rw [ones_len]; exact hn
  have inv := p'.inv hn' ss.length (Nat.le_refl _)
  have hs := p.some
  have out : ((n + ss.length - 1 : Nat) : Int) ∉ flat (ss.take ss.length) := fun m => by
    rw [List.take_length] at m
    have := (flat_lt p.each _ m).2
    omega
  unfold hdF
  rw [if_neg (by rintro (h | h); exact out h; simp at h)]
  unfold part
  rw [updF_other _ _ _ _ (by omega), inv.wt _ (by rw [ones_len]; omega) out]
  have : sumZ (fun i => if curF (ones n).length ss i ss.length = n + ss.length - 1 then (ones n).getD i 0 else 0) (ones n).length = sumZ (fun _ => 1) (ones n).length := sumZ_congr _ fun i hi => by
    have := p'.last hn' i hi
    rw [ones_len] at this hi ⊢
    rw [if_pos this, ones_get, if_pos hi]
  rw [this, ones_len]
  have one : ∀ m : Nat, sumZ (fun _ => 1) m = (m : Int) := fun m => by
    induction m with
    | zero => rfl
    | succ m ih => rw [sumZ, ih]; omega
  exact one n
end Go.Proofs.Ythajgfldjjgkiaa
