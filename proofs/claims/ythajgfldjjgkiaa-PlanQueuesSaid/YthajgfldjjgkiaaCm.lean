/- What a plan costs, and how deep it is. No program. -/
import Derived.Test.YthajgfldjjgkiaaPm
namespace Go.Proofs.Ythajgfldjjgkiaa

def inOf (ss : List Stp) (k : Nat) : List Int := (ss.getD k ⟨[], 0⟩).inn
theorem inOf_get {ss : List Stp} {k : Nat} (h : k < ss.length) : inOf ss k = ss[k].inn := by unfold inOf; simp [h]
def sumZ (f : Nat → Int) : Nat → Int
  | 0 => 0
  | n + 1 => sumZ f n + f n
theorem sumZ_congr {f g : Nat → Int} : ∀ n, (∀ i, i < n → f i = g i) → sumZ f n = sumZ g n
  | 0, _ => rfl
  | n + 1, h => by rw [sumZ, sumZ, sumZ_congr n fun i hi => h i (by omega), h n (by omega)]
theorem sumZ_zero : ∀ n, sumZ (fun _ => 0) n = 0
  | 0 => rfl
  | n + 1 => by rw [sumZ, sumZ_zero n]; rfl
theorem sumZ_add (f g : Nat → Int) : ∀ n, sumZ (fun i => f i + g i) n = sumZ f n + sumZ g n
  | 0 => rfl
  | n + 1 => by rw [sumZ, sumZ, sumZ, sumZ_add f g n]; omega
theorem sumZ_le {f g : Nat → Int} : ∀ n, (∀ i, i < n → f i ≤ g i) → sumZ f n ≤ sumZ g n
  | 0, _ => Int.le_refl _
  | n + 1, h => by have := sumZ_le n fun i hi => h i (by omega); have := h n (by omega); rw [sumZ, sumZ]; omega
theorem sumZ_nonneg {f : Nat → Int} (n : Nat) (h : ∀ i, i < n → 0 ≤ f i) : 0 ≤ sumZ f n := by
  have := sumZ_le (f := fun _ => 0) (g := f) n h
  rwa [sumZ_zero] at this
theorem sumZ_one (w : Nat → Int) (r : Nat) : ∀ n, sumZ (fun i => if i = r then w i else 0) n = if r < n then w r else 0
  | 0 => by simp [sumZ]
  | n + 1 => by
    rw [sumZ, sumZ_one w r n]
    by_cases h1 : r < n
    · rw [if_pos h1, if_neg (by omega), if_pos (by omega)]; omega
    · rw [if_neg h1]
      by_cases h2 : n = r
      · rw [if_pos h2, if_pos (by omega), h2]; omega
      · rw [if_neg h2, if_neg (by omega)]; rfl
def lsum (f : Int → Int) : List Int → Int
  | [] => 0
  | x :: l => f x + lsum f l
theorem lsum_snoc (f : Int → Int) (x : Int) : ∀ l, lsum f (l ++ [x]) = lsum f l + f x
  | [] => by simp [lsum]
  | y :: l => by rw [List.cons_append, lsum, lsum, lsum_snoc f x l]; omega
theorem lsum_congr {f g : Int → Int} : ∀ l, (∀ x ∈ l, f x = g x) → lsum f l = lsum g l
  | [], _ => rfl
  | x :: l, h => by rw [lsum, lsum, h x (List.mem_cons_self), lsum_congr l fun y hy => h y (List.mem_cons_of_mem _ hy)]
theorem lsum_nonneg {f : Int → Int} : ∀ l, (∀ x ∈ l, 0 ≤ f x) → 0 ≤ lsum f l
  | [], _ => Int.le_refl _
  | x :: l, h => by have := lsum_nonneg l fun y hy => h y (List.mem_cons_of_mem _ hy); have := h x (List.mem_cons_self); rw [lsum]; omega
theorem lsum_take_le {f : Int → Int} {l : List Int} (h : ∀ x ∈ l, 0 ≤ f x) (i : Nat) : lsum f (l.take i) ≤ lsum f l := by
  induction l generalizing i with
  | nil => simp [lsum]
  | cons a l ih =>
    have h1 := h a (List.mem_cons_self)
    have h2 : ∀ x ∈ l, 0 ≤ f x := fun x hx => h x (List.mem_cons_of_mem _ hx)
    cases i with
    | zero => rw [List.take_zero]; exact lsum_nonneg _ h
    | succ i => rw [List.take_succ_cons, lsum, lsum]; have := ih h2 i; omega
/-- Sums by places. -/
theorem lsum_sumZ (c : Nat → Nat) (w : Nat → Int) (n : Nat) : ∀ l : List Int, l.Nodup → lsum (fun x => sumZ (fun i => if (c i : Int) = x then w i else 0) n) l = sumZ (fun i => if (c i : Int) ∈ l then w i else 0) n
  | [], _ => by
    rw [lsum]
    symm
    rw [sumZ_congr (g := fun _ => 0) n fun i _ => by simp, sumZ_zero]
  | x :: l, h => by
    obtain ⟨h1, h2⟩ := List.nodup_cons.1 h
    rw [lsum, lsum_sumZ c w n l h2, ← sumZ_add]
    refine sumZ_congr n fun i _ => ?_
    by_cases e : (c i : Int) = x
    · rw [if_pos e, if_neg (by rw [e]; exact h1), if_pos (by rw [e]; exact List.mem_cons_self)]; omega
    · rw [if_neg e]
      by_cases m : (c i : Int) ∈ l
      · rw [if_pos m, if_pos (List.mem_cons_of_mem _ m)]; omega
      · rw [if_neg m, if_neg (by intro hm; rcases List.mem_cons.1 hm with hm | hm; exact e hm; exact m hm)]; rfl
/-- The greatest of what a function gives. -/
def mxN (f : Nat → Nat) : Nat → Nat
  | 0 => 0
  | n + 1 => max (mxN f n) (f n)
theorem mxN_congr {f g : Nat → Nat} : ∀ n, (∀ i, i < n → f i = g i) → mxN f n = mxN g n
  | 0, _ => rfl
  | n + 1, h => by rw [mxN, mxN, mxN_congr n fun i hi => h i (by omega), h n (by omega)]
theorem mxN_ge {f : Nat → Nat} : ∀ n i, i < n → f i ≤ mxN f n
  | 0, i, h => by omega
  | n + 1, i, h => by
    rw [mxN]
    by_cases e : i = n
    · subst e; omega
    · have := mxN_ge n i (show i < n by omega) (f := f); omega
theorem mxN_le {f : Nat → Nat} {d : Nat} : ∀ n, (∀ i, i < n → f i ≤ d) → mxN f n ≤ d
  | 0, _ => Nat.zero_le _
  | n + 1, h => by have := mxN_le n fun i hi => h i (show i < n + 1 by omega); have := h n (by omega); rw [mxN]; omega
theorem mxN_is {f : Nat → Nat} {d n : Nat} (h : ∀ i, i < n → f i ≤ d) (k : d = 0 ∨ ∃ i, i < n ∧ f i = d) : mxN f n = d := by
  have h1 := mxN_le n h
  rcases k with k | ⟨i, hi, e⟩
  · omega
  · have := mxN_ge n i hi (f := f); omega
theorem mxN_mem {f : Nat → Nat} : ∀ n, mxN f n = 0 ∨ ∃ i, i < n ∧ f i = mxN f n
  | 0 => Or.inl rfl
  | n + 1 => by
    rw [mxN]
    rcases Nat.le_total (mxN f n) (f n) with h | h
    · right; exact ⟨n, by omega, by omega⟩
    · rcases mxN_mem n (f := f) with e | ⟨i, hi, e⟩
      · left; omega
      · right; exact ⟨i, by omega, by omega⟩
def lmx (f : Int → Nat) : List Int → Nat
  | [] => 0
  | x :: l => max (f x) (lmx f l)
theorem lmx_snoc (f : Int → Nat) (x : Int) : ∀ l, lmx f (l ++ [x]) = max (lmx f l) (f x)
  | [] => by simp [lmx]
  | y :: l => by rw [List.cons_append, lmx, lmx, lmx_snoc f x l]; omega
theorem lmx_congr {f g : Int → Nat} : ∀ l, (∀ x ∈ l, f x = g x) → lmx f l = lmx g l
  | [], _ => rfl
  | x :: l, h => by rw [lmx, lmx, h x (List.mem_cons_self), lmx_congr l fun y hy => h y (List.mem_cons_of_mem _ hy)]
theorem lmx_le {f : Int → Nat} {d : Nat} : ∀ l, (∀ x ∈ l, f x ≤ d) → lmx f l ≤ d
  | [], _ => Nat.zero_le _
  | x :: l, h => by have := lmx_le l fun y hy => h y (List.mem_cons_of_mem _ hy); have := h x (List.mem_cons_self); rw [lmx]; omega
theorem lmx_ge {f : Int → Nat} : ∀ {l x}, x ∈ l → f x ≤ lmx f l
  | [], _, h => by cases h
  | y :: l, x, h => by
    rw [lmx]
    rcases List.mem_cons.1 h with rfl | h
    · omega
    · have := lmx_ge h (f := f); omega
/-- Where a run is behind so many steps, and how often it was merged. -/
def curF (n : Nat) (ss : List Stp) (i : Nat) : Nat → Nat
  | 0 => i
  | k + 1 => if (curF n ss i k : Int) ∈ inOf ss k then n + k else curF n ss i k
def cntF (n : Nat) (ss : List Stp) (i : Nat) : Nat → Nat
  | 0 => 0
  | k + 1 => if (curF n ss i k : Int) ∈ inOf ss k then cntF n ss i k + 1 else cntF n ss i k
theorem cntF_le (n : Nat) (ss : List Stp) (i : Nat) : ∀ k, cntF n ss i k ≤ k
  | 0 => Nat.le_refl _
  | k + 1 => by rw [cntF]; have := cntF_le n ss i k; split <;> omega
def wtF (W : List Int) (ss : List Stp) : Nat → Nat → Int
  | 0 => fun x => W.getD x 0
  | k + 1 => updF (wtF W ss k) (W.length + k) (lsum (fun r => wtF W ss k r.toNat) (inOf ss k))
def costF (W : List Int) (ss : List Stp) : Nat → Int
  | 0 => 0
  | k + 1 => costF W ss k + lsum (fun r => wtF W ss k r.toNat) (inOf ss k)
def goF (n : Nat) (ss : List Stp) : Nat → Nat → Nat
  | 0 => fun _ => 0
  | k + 1 => updF (goF n ss k) (n + k) (lmx (fun r => goF n ss k r.toNat + 1) (inOf ss k))
structure Inv (W : List Int) (ss : List Stp) (k : Nat) : Prop where
  lt : ∀ i, i < W.length → curF W.length ss i k < W.length + k ∧ (curF W.length ss i k : Int) ∉ flat (ss.take k)
  wt : ∀ r, r < W.length + k → (r : Int) ∉ flat (ss.take k) → wtF W ss k r = sumZ (fun i => if curF W.length ss i k = r then W.getD i 0 else 0) W.length
  cost : costF W ss k = sumZ (fun i => (cntF W.length ss i k : Int) * W.getD i 0) W.length
  go : ∀ r, r < W.length + k → (r : Int) ∉ flat (ss.take k) → goF W.length ss k r = mxN (fun i => if curF W.length ss i k = r then cntF W.length ss i k else 0) W.length
  some : ∀ r, r < W.length + k → (r : Int) ∉ flat (ss.take k) → ∃ i, i < W.length ∧ curF W.length ss i k = r
  low : ∀ x ∈ flat (ss.take k), x < ((W.length + k : Nat) : Int)
theorem Inv.zero (W : List Int) (ss : List Stp) : Inv W ss 0 := by
  refine ⟨fun i hi => ⟨hi, by simp [flat]⟩, fun r hr _ => ?_, ?_, fun r hr _ => ?_, fun r hr _ => ⟨r, hr, rfl⟩, fun x hx => by simp [flat] at hx⟩
  · have := sumZ_one (fun i => W.getD i 0) r W.length
    rw [if_pos (show r < W.length from hr)] at this
    rw [wtF]
    exact this.symm
  · rw [costF, ← sumZ_zero W.length]
    exact sumZ_congr _ fun i _ => by simp [cntF]
  · rw [goF]
    symm
    refine mxN_is (fun i _ => ?_) (Or.inl rfl)
    simp [cntF]
theorem Inv.next {W : List Int} {ss : List Stp} {k fan : Nat} (h : Inv W ss k) (hk : k < ss.length) (hs : StepOk W.length fan k ss[k]) (hf : ∀ x ∈ ss[k].inn, (flat (ss.take k)).count x = 0) (hn : 1 ≤ W.length) : Inv W ss (k + 1) := by
  have hin := inOf_get hk
  have hft := flat_take hk
  have nd : (inOf ss k).Nodup := by rw [hin]; exact hs.up.imp (fun h => by omega)
  have inlt : ∀ x ∈ inOf ss k, 0 ≤ x ∧ x < ((W.length + k : Nat) : Int) := by rw [hin]; exact hs.lt
  have infr : ∀ x ∈ inOf ss k, x ∉ flat (ss.take k) := fun x hx => by
    rw [hin] at hx
    exact List.count_eq_zero.1 (hf x hx)
  have mflat : ∀ x, x ∈ flat (ss.take (k + 1)) ↔ x ∈ flat (ss.take k) ∨ x ∈ inOf ss k := fun x => by rw [hft, hin]; exact List.mem_append
  have sumIn : lsum (fun r => wtF W ss k r.toNat) (inOf ss k) = sumZ (fun i => if (curF W.length ss i k : Int) ∈ inOf ss k then W.getD i 0 else 0) W.length := by
    rw [← lsum_sumZ (fun i => curF W.length ss i k) (fun i => W.getD i 0) W.length _ nd]
    refine lsum_congr _ fun x hx => ?_
    obtain ⟨x0, x1⟩ := inlt x hx
    have e : ((x.toNat : Nat) : Int) = x := Int.toNat_of_nonneg x0
    rw [h.wt x.toNat (by omega) (by rw [e]; exact infr x hx)]
    refine sumZ_congr _ fun i _ => ?_
    by_cases q : curF W.length ss i k = x.toNat
    · rw [if_pos q, if_pos (by omega)]
    · rw [if_neg q, if_neg (by omega)]
  have mxIn : lmx (fun r => goF W.length ss k r.toNat + 1) (inOf ss k) = mxN (fun i => if (curF W.length ss i k : Int) ∈ inOf ss k then cntF W.length ss i k + 1 else 0) W.length := by
    symm
    refine mxN_is (fun i hi => ?_) ?_
    · by_cases m : (curF W.length ss i k : Int) ∈ inOf ss k
      · rw [if_pos m]
        refine Nat.le_trans ?_ (lmx_ge m)
        rw [Int.toNat_natCast]
        obtain ⟨x0, x1⟩ := inlt _ m
        rw [h.go (curF W.length ss i k) (by omega) (infr _ m)]
        have := mxN_ge W.length i hi (f := fun j => if curF W.length ss j k = curF W.length ss i k then cntF W.length ss j k else 0)
        simp only [if_true] at this
        omega
      · rw [if_neg m]; exact Nat.zero_le _
    · by_cases hnil : inOf ss k = []
      · left; rw [hnil]; rfl
      · right
        -- the greatest stands somewhere
        have key : ∀ l : List Int, l ≠ [] → (∀ x ∈ l, x ∈ inOf ss k) → ∃ x ∈ l, lmx (fun r => goF W.length ss k r.toNat + 1) l = goF W.length ss k x.toNat + 1 := by
          intro l
          induction l with
          | nil => intro h; exact absurd rfl h
          | cons a l ih =>
            intro _ hm
            by_cases hl : l = []
            · subst hl; exact ⟨a, List.mem_cons_self, by simp [lmx]⟩
            · obtain ⟨x, hx, e⟩ := ih hl fun x hx => hm x (List.mem_cons_of_mem _ hx)
              rw [lmx, e]
              rcases Nat.le_total (goF W.length ss k a.toNat + 1) (goF W.length ss k x.toNat + 1) with q | q
              · exact ⟨x, List.mem_cons_of_mem _ hx, by omega⟩
              · exact ⟨a, List.mem_cons_self, by omega⟩
        obtain ⟨x, hx, e⟩ := key _ hnil fun x hx => hx
        obtain ⟨x0, x1⟩ := inlt x hx
        have ex : ((x.toNat : Nat) : Int) = x := Int.toNat_of_nonneg x0
        have g := h.go x.toNat (by omega) (by rw [ex]; exact infr x hx)
        rw [e, g]
        rcases mxN_mem W.length (f := fun i => if curF W.length ss i k = x.toNat then cntF W.length ss i k else 0) with z | ⟨i, hi, q⟩
        · obtain ⟨i, hi, c⟩ := h.some x.toNat (by omega) (by rw [ex]; exact infr x hx)
          refine ⟨i, hi, ?_⟩
          rw [c, ex, if_pos hx, z]
          have := mxN_ge W.length i hi (f := fun i => if curF W.length ss i k = x.toNat then cntF W.length ss i k else 0)
          simp only [c, if_true] at this
          omega
        · by_cases c : curF W.length ss i k = x.toNat
          · refine ⟨i, hi, ?_⟩
            simp only [c, if_true] at q
            rw [c, ex, if_pos hx, ← q]
          · simp only [c, if_false] at q
            obtain ⟨i, hi, c⟩ := h.some x.toNat (by omega) (by rw [ex]; exact infr x hx)
            refine ⟨i, hi, ?_⟩
            rw [c, ex, if_pos hx, ← q]
            have := mxN_ge W.length i hi (f := fun i => if curF W.length ss i k = x.toNat then cntF W.length ss i k else 0)
            simp only [c, if_true] at this
            omega
  have cstep : ∀ i, curF W.length ss i (k + 1) = if (curF W.length ss i k : Int) ∈ inOf ss k then W.length + k else curF W.length ss i k := fun i => rfl
  have kstep : ∀ i, cntF W.length ss i (k + 1) = if (curF W.length ss i k : Int) ∈ inOf ss k then cntF W.length ss i k + 1 else cntF W.length ss i k := fun i => rfl
  have newcur : ∀ i, i < W.length → (curF W.length ss i (k + 1) = W.length + k ↔ (curF W.length ss i k : Int) ∈ inOf ss k) := fun i hi => by
    rw [cstep]
    by_cases m : (curF W.length ss i k : Int) ∈ inOf ss k
    · rw [if_pos m]; exact ⟨fun _ => m, fun _ => rfl⟩
    · rw [if_neg m]
      have := (h.lt i hi).1
      exact ⟨fun e => by omega, fun e => absurd e m⟩
  have oldcur : ∀ i r, r < W.length + k → (r : Int) ∉ inOf ss k → (curF W.length ss i (k + 1) = r ↔ curF W.length ss i k = r) := fun i r hr hm => by
    rw [cstep]
    by_cases m : (curF W.length ss i k : Int) ∈ inOf ss k
    · rw [if_pos m]
      exact ⟨fun e => by omega, fun e => by rw [e] at m; exact absurd m hm⟩
    · rw [if_neg m]
  have nnew : (((W.length + k : Nat)) : Int) ∉ flat (ss.take (k + 1)) := by
    rw [mflat]
    rintro (m | m)
    · have := h.low _ m; omega
    · have := (inlt _ m).2; omega
  refine ⟨fun i hi => ?_, fun r hr hm => ?_, ?_, fun r hr hm => ?_, fun r hr hm => ?_, fun x hx => ?_⟩
  · obtain ⟨h1, h2⟩ := h.lt i hi
    rw [cstep]
    by_cases m : (curF W.length ss i k : Int) ∈ inOf ss k
    · rw [if_pos m]; exact ⟨by omega, nnew⟩
    · rw [if_neg m]
      refine ⟨by omega, ?_⟩
      rw [mflat]
      rintro (q | q)
      · exact h2 q
      · exact m q
  · rw [mflat] at hm
    by_cases e : r = W.length + k
    · subst e
      rw [wtF, updF_same, sumIn]
      refine sumZ_congr _ fun i hi => ?_
      by_cases m : (curF W.length ss i k : Int) ∈ inOf ss k
      · rw [if_pos m, if_pos ((newcur i hi).2 m)]
      · rw [if_neg m, if_neg (fun q => m ((newcur i hi).1 q))]
    · rw [wtF, updF_other _ _ _ _ e, h.wt r (by omega) (fun q => hm (Or.inl q))]
      refine sumZ_congr _ fun i _ => ?_
      have := oldcur i r (by omega) (fun q => hm (Or.inr q))
      by_cases c : curF W.length ss i k = r
      · rw [if_pos c, if_pos (this.2 c)]
      · rw [if_neg c, if_neg (fun q => c (this.1 q))]
  · rw [costF, h.cost, sumIn, ← sumZ_add]
    refine sumZ_congr _ fun i _ => ?_
    rw [kstep]
    by_cases m : (curF W.length ss i k : Int) ∈ inOf ss k
    · rw [if_pos m, if_pos m]
      rw [show ((cntF W.length ss i k + 1 : Nat) : Int) = (cntF W.length ss i k : Int) + 1 by omega, Int.add_mul, Int.one_mul]
    · rw [if_neg m, if_neg m]; omega
  · rw [mflat] at hm
    by_cases e : r = W.length + k
    · subst e
      rw [goF, updF_same, mxIn]
      refine mxN_congr _ fun i hi => ?_
      by_cases m : (curF W.length ss i k : Int) ∈ inOf ss k
      · rw [if_pos m, if_pos ((newcur i hi).2 m), kstep, if_pos m]
      · rw [if_neg m, if_neg (fun q => m ((newcur i hi).1 q))]
    · rw [goF, updF_other _ _ _ _ e, h.go r (by omega) (fun q => hm (Or.inl q))]
      refine mxN_congr _ fun i _ => ?_
      have := oldcur i r (by omega) (fun q => hm (Or.inr q))
      by_cases c : curF W.length ss i k = r
      · rw [if_pos c, if_pos (this.2 c), kstep, if_neg (by rw [c]; exact fun q => hm (Or.inr q))]
      · rw [if_neg c, if_neg (fun q => c (this.1 q))]
  · rw [mflat] at hm
    by_cases e : r = W.length + k
    · subst e
      have hne : 0 < (inOf ss k).length := by
        rw [hin]
        have := hs.lo
        omega
      obtain ⟨x, hx⟩ := List.exists_mem_of_length_pos hne
      obtain ⟨x0, x1⟩ := inlt x hx
      have ex : ((x.toNat : Nat) : Int) = x := Int.toNat_of_nonneg x0
      obtain ⟨i, hi, c⟩ := h.some x.toNat (by omega) (by rw [ex]; exact infr x hx)
      exact ⟨i, hi, (newcur i hi).2 (by rw [c, ex]; exact hx)⟩
    · obtain ⟨i, hi, c⟩ := h.some r (by omega) (fun q => hm (Or.inl q))
      exact ⟨i, hi, (oldcur i r (by omega) (fun q => hm (Or.inr q))).2 c⟩
  · rcases (mflat x).1 hx with m | m
    · have := h.low _ m; omega
    · have := (inlt _ m).2; omega
theorem PlanOk.inv {W : List Int} {fan : Nat} {ss : List Stp} (p : PlanOk W.length fan ss) (hn : 1 ≤ W.length) : ∀ k, k ≤ ss.length → Inv W ss k
  | 0, _ => Inv.zero W ss
  | k + 1, h => (PlanOk.inv p hn k (by omega)).next (by omega) (p.each k (by omega)) (p.fresh (by omega)) hn
/-- At the end all are in the last one. -/
theorem PlanOk.last {W : List Int} {fan : Nat} {ss : List Stp} (p : PlanOk W.length fan ss) (hn : 1 ≤ W.length) (i : Nat) (hi : i < W.length) : curF W.length ss i ss.length = W.length + ss.length - 1 := by
  obtain ⟨h1, h2⟩ := (p.inv hn ss.length (Nat.le_refl _)).lt i hi
  rw [List.take_length] at h2
  rcases Nat.lt_or_ge (curF W.length ss i ss.length) (W.length + ss.length - 1) with h3 | h3
  · have := p.once _ h3
    rw [List.count_eq_zero.2 h2] at this
    cases this
  · omega
theorem PlanOk.depth {W : List Int} {fan : Nat} {ss : List Stp} (p : PlanOk W.length fan ss) (hn : 1 ≤ W.length) : goF W.length ss ss.length (W.length + ss.length - 1) = mxN (fun i => cntF W.length ss i ss.length) W.length := by
  have inv := p.inv hn ss.length (Nat.le_refl _)
  have hs := p.some
  rw [inv.go _ (by omega) (fun m => by
    rw [List.take_length] at m
    have := (flat_lt p.each _ m).2
    omega)]
  exact mxN_congr _ fun i hi => by rw [if_pos (p.last hn i hi)]
/-- No run that is left is heavier than all. -/
theorem PlanOk.wt_le {W : List Int} {fan : Nat} {ss : List Stp} (p : PlanOk W.length fan ss) (hn : 1 ≤ W.length) (hW : Wts W) {k : Nat} (hk : k < ss.length) : (∀ x ∈ inOf ss k, 0 ≤ wtF W ss k x.toNat ∧ wtF W ss k x.toNat ≤ 1073741824 * W.length) ∧ 0 ≤ lsum (fun r => wtF W ss k r.toNat) (inOf ss k) ∧ lsum (fun r => wtF W ss k r.toNat) (inOf ss k) ≤ 1073741824 * W.length := by
  have inv := p.inv hn k (by omega)
  have inv2 := p.inv hn (k + 1) (by omega)
  have w0 : ∀ i, i < W.length → 0 ≤ W.getD i 0 ∧ W.getD i 0 ≤ 1073741824 := fun i hi => by
    have := hW _ (List.getElem_mem hi)
    simpa [hi] using this
  have top : ∀ m, m ≤ W.length → sumZ (fun i => W.getD i 0) m ≤ 1073741824 * m := fun m => by
    induction m with
    | zero => intro _; simp [sumZ]
    | succ m ih => intro h; have := ih (by omega); have := (w0 m (by omega)).2; rw [sumZ]; omega
  have part : ∀ c : Nat → Prop, ∀ [DecidablePred c], 0 ≤ sumZ (fun i => if c i then W.getD i 0 else 0) W.length ∧ sumZ (fun i => if c i then W.getD i 0 else 0) W.length ≤ 1073741824 * W.length := fun c _ => by
    refine ⟨sumZ_nonneg _ fun i hi => ?_, Int.le_trans (sumZ_le (g := fun i => W.getD i 0) _ fun i hi => ?_) (top _ (Nat.le_refl _))⟩
    · split
      · exact (w0 i hi).1
      · exact Int.le_refl _
    · split
      · exact Int.le_refl _
      · exact (w0 i hi).1
  refine ⟨fun x hx => ?_, ?_⟩
  · rw [inOf_get hk] at hx
    obtain ⟨x0, x1⟩ := (p.each k hk).lt x hx
    have ex : ((x.toNat : Nat) : Int) = x := Int.toNat_of_nonneg x0
    rw [inv.wt x.toNat (by omega) (by rw [ex]; exact List.count_eq_zero.1 (p.fresh hk x hx))]
    exact part _
  · have e : lsum (fun r => wtF W ss k r.toNat) (inOf ss k) = wtF W ss (k + 1) (W.length + k) := by rw [wtF, updF_same]
    rw [e, inv2.wt (W.length + k) (by omega) (fun m => by
      rw [flat_take hk] at m
      rcases List.mem_append.1 m with m | m
      · have := inv.low _ m; omega
      · have := ((p.each k hk).lt _ m).2; omega)]
    exact part _
theorem wtF_hi {W : List Int} {ss : List Stp} : ∀ {k x}, W.length + k ≤ x → wtF W ss k x = 0
  | 0, x, h => by rw [wtF]; simp [show W.length ≤ x by omega]
  | k + 1, x, h => by rw [wtF, updF_other _ _ _ _ (by omega)]; exact wtF_hi (by omega)
theorem goF_hi {n : Nat} {ss : List Stp} : ∀ {k x}, n + k ≤ x → goF n ss k x = 0
  | 0, x, h => rfl
  | k + 1, x, h => by rw [goF, updF_other _ _ _ _ (by omega)]; exact goF_hi (by omega)
theorem goF_le {n : Nat} {ss : List Stp} : ∀ k x, goF n ss k x ≤ k
  | 0, x => Nat.le_refl _
  | k + 1, x => by
    rw [goF]
    unfold updF
    split
    · exact lmx_le _ fun y _ => by have := goF_le k y.toNat (n := n) (ss := ss); omega
    · have := goF_le k x (n := n) (ss := ss); omega
theorem PlanOk.cost_le {W : List Int} {fan : Nat} {ss : List Stp} (p : PlanOk W.length fan ss) (hn : 1 ≤ W.length) (hn2 : W.length ≤ 65536) (hW : Wts W) : ∀ k, k ≤ ss.length → 0 ≤ costF W ss k ∧ costF W ss k ≤ 70368744177664 * (k : Int)
  | 0, _ => by simp [costF]
  | k + 1, h => by
    obtain ⟨h1, h2⟩ := PlanOk.cost_le p hn hn2 hW k (by omega)
    obtain ⟨_, h3, h4⟩ := p.wt_le hn hW (k := k) (by omega)
    rw [costF]
    omega
/-- A list out of a function. -/
def nL (f : Nat → Int) (n : Nat) : List Int := (List.range n).map f
theorem nL_len (f : Nat → Int) (n : Nat) : (nL f n).length = n := by simp [nL]
theorem nL_at (f : Nat → Int) (n i : Nat) (h : i < n) : (nL f n)[i]? = some (f i) := by simp [nL, h]
theorem nL_congr {f g : Nat → Int} {n : Nat} (h : ∀ i, i < n → f i = g i) : nL f n = nL g n := by
  unfold nL
  exact List.map_congr_left fun i hi => h i (List.mem_range.1 hi)
theorem nL_set (f : Nat → Int) (n k : Nat) (x : Int) : (nL f n).set k x = nL (updF f k x) n := by
  apply List.ext_getElem?
  intro j
  rw [List.getElem?_set]
  by_cases hj : j < n
  · rw [nL_at _ _ _ hj]
    by_cases e : k = j
    · subst e; rw [if_pos rfl, if_pos (by rw [nL_len]; exact hj), nL_at _ _ _ hj, updF_same]
    · rw [if_neg e, nL_at _ _ _ hj, updF_other _ _ _ _ (fun e' => e e'.symm)]
  · have e1 : (nL f n)[j]? = none := List.getElem?_eq_none (by rw [nL_len]; omega)
    have e2 : (nL (updF f k x) n)[j]? = none := List.getElem?_eq_none (by rw [nL_len]; omega)
    rw [e2, e1]
    by_cases e : k = j
    · rw [if_pos e, if_neg (by rw [nL_len]; omega)]
    · rw [if_neg e]
theorem nL_join (W : List Int) (m : Nat) : W ++ List.replicate m 0 = nL (fun x => W.getD x 0) (W.length + m) := by
  apply List.ext_getElem?
  intro j
  by_cases hj : j < W.length + m
  · rw [nL_at _ _ _ hj]
    by_cases h : j < W.length
    · rw [List.getElem?_append_left h]; simp [h]
    · rw [List.getElem?_append_right (by omega), List.getElem?_replicate, if_pos (by omega)]; simp [show W.length ≤ j by omega]
  · rw [List.getElem?_eq_none (by simp; omega), List.getElem?_eq_none (by rw [nL_len]; omega)]
theorem nL_zero (n : Nat) : nL (fun _ => 0) n = List.replicate n 0 := by
  apply List.ext_getElem?
  intro j
  by_cases hj : j < n
  · rw [nL_at _ _ _ hj, List.getElem?_replicate, if_pos hj]
  · rw [List.getElem?_eq_none (by rw [nL_len]; omega), List.getElem?_eq_none (by simp; omega)]
end Go.Proofs.Ythajgfldjjgkiaa
