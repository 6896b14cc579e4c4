/- Two queues. No program. -/
import Derived.Test.YthajgfldjjgkiaaHq
import Derived.Test.YthajgfldjjgkiaaFw
namespace Go.Proofs.Ythajgfldjjgkiaa

/-- The weights that are left. -/
def av (A : List Int) : List Int := A.filter fun x => decide (0 ≤ x)
theorem av_set : ∀ (A : List Int) (k : Nat), 0 ≤ List.getD A k (-1) → (av A).Perm (A.getD k (-1) :: av (A.set k (-1)))
  | [], k, h => by simp at h
  | x :: A, 0, h => by
    have hx : 0 ≤ x := by simpa using h
    have e1 : av (x :: A) = x :: av A := by unfold av; rw [List.filter_cons, if_pos (by simpa using hx)]
    have e2 : av ((x :: A).set 0 (-1)) = av A := by unfold av; rw [List.set_cons_zero, List.filter_cons, if_neg (by simp)]
    rw [e1, e2]
    exact List.Perm.refl _
  | x :: A, k + 1, h => by
    have h' : 0 ≤ List.getD A k (-1) := by simpa using h
    have ih := av_set A k h'
    rw [List.set_cons_succ, List.getD_cons_succ]
    by_cases hx : 0 ≤ x
    · have e1 : ∀ B, av (x :: B) = x :: av B := fun B => by unfold av; rw [List.filter_cons, if_pos (by simpa using hx)]
      rw [e1, e1]
      exact (ih.cons x).trans (List.Perm.swap _ _ _)
    · have e1 : ∀ B, av (x :: B) = av B := fun B => by unfold av; rw [List.filter_cons, if_neg (by simpa using hx)]
      rw [e1, e1]
      exact ih
theorem av_app {A : List Int} {x : Int} (h : 0 ≤ x) : av (A ++ [x]) = av A ++ [x] := by
  unfold av
  rw [List.filter_append, List.filter_cons, if_pos (by simpa using h)]
  rfl
theorem av_mem {A : List Int} {x : Int} : x ∈ av A ↔ ∃ j, A.getD j (-1) = x ∧ 0 ≤ x := by
  unfold av
  rw [List.mem_filter]
  constructor
  · rintro ⟨h1, h2⟩
    obtain ⟨j, hj, rfl⟩ := List.mem_iff_getElem.1 h1
    exact ⟨j, by rw [List.getD_eq_getElem?_getD, List.getElem?_eq_getElem hj]; rfl, by simpa using h2⟩
  · rintro ⟨j, rfl, h2⟩
    have hj := getD_out h2
    refine ⟨?_, by simpa using h2⟩
    rw [List.getD_eq_getElem?_getD, List.getElem?_eq_getElem hj]
    exact List.getElem_mem hj
theorem av_len : ∀ A : List Int, (av A).length = cnt A
  | [] => rfl
  | x :: A => by
    have ih := av_len A
    unfold av at *
    rw [List.filter_cons, cnt]
    by_cases hx : 0 ≤ x
    · rw [if_pos (by simpa using hx), if_pos hx, List.length_cons, ih]; omega
    · rw [if_neg (by simpa using hx), if_neg hx, ih]; omega
theorem av_all {W : List Int} (h : Wts W) : av W = W := List.filter_eq_self.2 fun x hx => by simpa using (h x hx).1
/-- What the lightest weighs is what is least of all, wherever they stand. -/
theorem least {B : List Int} {p : Nat} {Q : List Int} {v : Int} (hp : IsL B p) (h : (av B).Perm Q) (hv : v ∈ Q) (hmin : ∀ x ∈ Q, v ≤ x) : B.getD p (-1) = v := by
  have h1 := hmin _ (h.mem_iff.1 (av_mem.2 ⟨p, rfl, hp.1⟩))
  obtain ⟨j, hj, h0⟩ := av_mem.1 (h.mem_iff.2 hv)
  have := hp.2 j (by omega)
  omega
/-- What is made rises. -/
theorem picks_le {A B : List Int} {t u : Nat} (ht : t ≤ u) (hA : t ≤ cnt A) (hB : u ≤ cnt B) (hab : ∀ i, i < t → ∀ j, 0 ≤ B.getD j (-1) → (pkA A i).getD (ls (pkA A i)) (-1) ≤ B.getD j (-1)) : pkS A t ≤ pkS B u := by
  have h1 : ∀ i, i ≤ t → pkS A i ≤ pkS B i := fun i => by
    induction i with
    | zero => intro _; exact Int.le_refl _
    | succ i ih =>
      intro hi
      have := ih (by omega)
      have hl := (pk_isL (A := B) (i := i) (by omega)).1.1
      have h2 := hab i (by omega) (ls (pkA B i)) (by rw [pk_same hl] at hl; exact hl)
      rw [pkS, pkS, pk_same hl]
      omega
  have h2 : ∀ d, t + d ≤ u → pkS B t ≤ pkS B (t + d) := fun d => by
    induction d with
    | zero => intro _; exact Int.le_refl _
    | succ d ih =>
      intro hd
      have := ih (by omega)
      have hl := (pk_isL (A := B) (i := t + d) (by omega)).1.1
      rw [← Nat.add_assoc, pkS]
      omega
  have h3 := h2 (u - t) (by omega)
  rw [show t + (u - t) = u by omega] at h3
  have := h1 t (Nat.le_refl _)
  omega
theorem pk_le {A : List Int} {i j : Nat} (h : i < cnt A) (k : Nat) (hij : i ≤ j) (hk : 0 ≤ (pkA A j).getD k (-1)) : (pkA A i).getD (ls (pkA A i)) (-1) ≤ (pkA A j).getD k (-1) := by
  have back : ∀ d, 0 ≤ (pkA A (i + d)).getD k (-1) → 0 ≤ (pkA A i).getD k (-1) ∧ (pkA A i).getD k (-1) = (pkA A (i + d)).getD k (-1) := fun d => by
    induction d with
    | zero => exact fun h => ⟨h, rfl⟩
    | succ d ih =>
      intro h
      rw [← Nat.add_assoc, pkA, getD_set] at h ⊢
      by_cases e : ls (pkA A (i + d)) = k
      · rw [if_pos e] at h; omega
      · rw [if_neg e] at h ⊢; exact ih h
  have := back (j - i)
  rw [show i + (j - i) = j by omega] at this
  obtain ⟨a, b⟩ := this hk
  have := (pk_isL (A := A) (i := i) h).1.2 k a
  omega
theorem step_up {W : List Int} {fan : Nat} (hW : Wts W) (hf : 2 ≤ fan) (hn : 2 ≤ W.length) {s : Nat} (hs : s + 1 < need W.length fan) : stepC W fan s ≤ stepC W fan (s + 1) := by
  have hc := (mk_ok hW hf hn s (by omega)).1
  have hc2 := (mk_ok hW hf hn (s + 1) (by omega)).1
  obtain ⟨t1, t2⟩ := left_step (s := s) hf hn (by omega)
  obtain ⟨t3, t4⟩ := left_step (s := s + 1) hf hn hs
  have tl : tkn W.length fan s ≤ tkn W.length fan (s + 1) := by
    have := tkn_le W.length fan s hf
    unfold tkn
    rw [if_neg (show ¬ s + 1 = 0 by omega)]
    exact this
  refine picks_le tl (by omega) (by omega) fun i hi j hj => ?_
  have hA : mkA W fan (s + 1) = pkA (mkA W fan s) (tkn W.length fan s) ++ [stepC W fan s] := rfl
  have hl := getD_out hj
  rw [hA] at hj hl ⊢
  rw [List.length_append, List.length_singleton] at hl
  by_cases e : j = (pkA (mkA W fan s) (tkn W.length fan s)).length
  · -- the new one
    have e1 : (pkA (mkA W fan s) (tkn W.length fan s) ++ [stepC W fan s]).getD j (-1) = stepC W fan s := by
      rw [e, List.getD_eq_getElem?_getD, List.getElem?_append_right (Nat.le_refl _), Nat.sub_self]; rfl
    rw [e1]
    have h2 : ∀ m, i < m → m ≤ tkn W.length fan s → (pkA (mkA W fan s) i).getD (ls (pkA (mkA W fan s) i)) (-1) ≤ pkS (mkA W fan s) m := fun m => by
      induction m with
      | zero => intro h _; omega
      | succ m ih =>
        intro h1 h2
        have h0 := (pk_isL (A := mkA W fan s) (i := m) (by omega)).1.1
        have hp := (pk_ok (A := mkA W fan s) (i := m) (by omega)).2.2
        rw [pkS]
        by_cases c : i = m
        · subst c; omega
        · have := ih (by omega) (by omega); omega
    exact h2 _ hi (Nat.le_refl _)
  · have e2 : (pkA (mkA W fan s) (tkn W.length fan s) ++ [stepC W fan s]).getD j (-1) = (pkA (mkA W fan s) (tkn W.length fan s)).getD j (-1) := by
      rw [List.getD_eq_getElem?_getD, List.getElem?_append_left (by omega), ← List.getD_eq_getElem?_getD]
    rw [e2] at hj ⊢
    exact pk_le (by omega) j (by omega) hj
/-- What is made. -/
def madeL (W : List Int) (fan s : Nat) : List Int := (List.range s).map (stepC W fan)
theorem madeL_len (W : List Int) (fan s : Nat) : (madeL W fan s).length = s := by simp [madeL]
theorem madeL_at {W : List Int} {fan s k : Nat} (h : k < s) : (madeL W fan s)[k]? = some (stepC W fan k) := by simp [madeL, h]
theorem madeL_next (W : List Int) (fan s : Nat) : madeL W fan (s + 1) = madeL W fan s ++ [stepC W fan s] := by simp [madeL, List.range_succ]
theorem made_up {W : List Int} {fan : Nat} (hW : Wts W) (hf : 2 ≤ fan) (hn : 2 ≤ W.length) {s : Nat} (hs : s ≤ need W.length fan) : ∀ d k, k + d < s → stepC W fan k ≤ stepC W fan (k + d)
  | 0, _, _ => Int.le_refl _
  | d + 1, k, h => by
    have := made_up hW hf hn hs d k (by omega)
    have := step_up hW hf hn (s := k + d) (by omega)
    rw [← Nat.add_assoc]
    omega
def Rise (l : List Int) : Prop := ∀ a b, a < b → b < l.length → l.getD a 0 ≤ l.getD b 0
/-- The state of the queues: s steps are done, and j picks of the next one. -/
structure Que (W S : List Int) (fan s j i k : Nat) : Prop where
  bag : (av (pkA (mkA W fan s) j)).Perm (S.drop i ++ (madeL W fan s).drop k)
  hi : i ≤ S.length
  hk : k ≤ s
theorem Que.start {W S : List Int} {fan : Nat} (hW : Wts W) (h : S.Perm W) : Que W S fan 0 0 0 0 := ⟨by
  show (av W).Perm _
  rw [av_all hW]
  simp [madeL]
  exact h.symm, Nat.zero_le _, Nat.le_refl _⟩
theorem Que.len {W S : List Int} {fan s j i k : Nat} (q : Que W S fan s j i k) : cnt (pkA (mkA W fan s) j) + i + k = S.length + s := by
  have := q.bag.length_eq
  rw [av_len, List.length_append, List.length_drop, List.length_drop, madeL_len] at this
  have := q.hi
  have := q.hk
  omega
theorem drop_cons {l : List Int} {i : Nat} (h : i < l.length) : l.drop i = l.getD i 0 :: l.drop (i + 1) := by
  rw [List.drop_eq_getElem_cons h]
  simp [h]
theorem drop_ge {l : List Int} (hr : Rise l) {i : Nat} (h : i < l.length) : ∀ x ∈ l.drop i, l.getD i 0 ≤ x := fun x hx => by
  obtain ⟨m, hm, rfl⟩ := List.mem_iff_getElem.1 hx
  rw [List.length_drop] at hm
  rw [List.getElem_drop]
  by_cases e : m = 0
  · subst e; simp [h]
  · have := hr i (i + m) (by omega) (by omega)
    have e2 : l.getD (i + m) 0 = l[i + m] := by simp [show i + m < l.length by omega]
    omega
/-- The head of one of them is picked. -/
theorem Que.pick {W S : List Int} {fan s j i k : Nat} (hW : Wts W) (hf : 2 ≤ fan) (hn : 2 ≤ W.length) (hs : s < need W.length fan) (hj : j < tkn W.length fan s) (hS : Rise S) (q : Que W S fan s j i k) :
    (i < S.length → (k < s → S.getD i 0 ≤ stepC W fan k) → pkS (mkA W fan s) (j + 1) = pkS (mkA W fan s) j + S.getD i 0 ∧ Que W S fan s (j + 1) (i + 1) k) ∧
    ((i < S.length → k < s ∧ stepC W fan k < S.getD i 0) → k < s ∧ pkS (mkA W fan s) (j + 1) = pkS (mkA W fan s) j + stepC W fan k ∧ Que W S fan s (j + 1) i (k + 1)) := by
  have hc := (mk_ok hW hf hn s (by omega)).1
  obtain ⟨t1, t2⟩ := left_step (s := s) hf hn hs
  have hL := (pk_isL (A := mkA W fan s) (i := j) (by omega)).1
  have hset := av_set _ _ hL.1
  have hM : Rise (madeL W fan s) := fun a b hab hb => by
    rw [madeL_len] at hb
    rw [List.getD_eq_getElem?_getD, List.getD_eq_getElem?_getD, madeL_at (by omega), madeL_at hb]
    have := made_up hW hf hn (s := s) (by omega) (b - a) a (by omega)
    rw [show a + (b - a) = b by omega] at this
    exact this
  have hMk : k < s → (madeL W fan s).getD k 0 = stepC W fan k := fun h => by rw [List.getD_eq_getElem?_getD, madeL_at h]; rfl
  have hlen := q.len
  have hcn := (pk_ok (A := mkA W fan s) (i := j) (by omega)).1
  refine ⟨fun hi hle => ?_, fun hgt => ?_⟩
  · have hv := least hL q.bag (v := S.getD i 0) (by rw [drop_cons hi]; simp) (fun x hx => by
      rcases List.mem_append.1 hx with h | h
      · exact drop_ge hS hi x h
      · by_cases hk : k < s
        · have := drop_ge hM (i := k) (by rw [madeL_len]; exact hk) x h
          rw [hMk hk] at this
          have := hle hk
          omega
        · rw [List.drop_of_length_le (by rw [madeL_len]; omega)] at h; cases h)
    refine ⟨by rw [pkS, hv], ⟨?_, hi, q.hk⟩⟩
    have := hset.symm.trans q.bag
    rw [drop_cons hi, List.cons_append, hv] at this
    exact this.cons_inv
  · have hk : k < s := by
      by_cases hi : i < S.length
      · exact (hgt hi).1
      · have := q.hi; omega
    have hkl : k < (madeL W fan s).length := by rw [madeL_len]; exact hk
    have hv := least hL q.bag (v := stepC W fan k) (by rw [drop_cons hkl, hMk hk]; simp) (fun x hx => by
      rcases List.mem_append.1 hx with h | h
      · by_cases hi : i < S.length
        · have := drop_ge hS hi x h
          have := (hgt hi).2
          omega
        · rw [List.drop_of_length_le (by omega)] at h; cases h
      · have := drop_ge hM hkl x h
        rw [hMk hk] at this
        exact this)
    refine ⟨hk, by rw [pkS, hv], ⟨?_, q.hi, hk⟩⟩
    have := hset.symm.trans q.bag
    rw [drop_cons hkl, hMk hk, hv] at this
    exact (this.trans List.perm_middle).cons_inv
theorem Que.next {W S : List Int} {fan s i k : Nat} (hW : Wts W) (hf : 2 ≤ fan) (hn : 2 ≤ W.length) (hs : s < need W.length fan) (q : Que W S fan s (tkn W.length fan s) i k) : Que W S fan (s + 1) 0 i k := by
  have hc := (mk_ok hW hf hn s (by omega)).1
  obtain ⟨t1, t2⟩ := left_step (s := s) hf hn hs
  have hp := (pk_ok (A := mkA W fan s) (i := tkn W.length fan s) (by omega)).2.2
  refine ⟨?_, q.hi, by have := q.hk; omega⟩
  have e : av (pkA (mkA W fan (s + 1)) 0) = av (pkA (mkA W fan s) (tkn W.length fan s)) ++ [stepC W fan s] := av_app hp
  rw [e, madeL_next, List.drop_append_of_le_length (by rw [madeL_len]; exact q.hk), ← List.append_assoc]
  exact q.bag.append_right _
/-- More is to be done. -/
theorem Que.more {W S : List Int} {fan s i k : Nat} (hW : Wts W) (hf : 2 ≤ fan) (hn : 2 ≤ W.length) (hs : s ≤ need W.length fan) (q : Que W S fan s 0 i k) : i + k ≤ S.length + s ∧ (1 < S.length + s - i - k ↔ s < need W.length fan) := by
  have hc := (mk_ok hW hf hn s hs).1
  have := q.len
  have e : cnt (pkA (mkA W fan s) 0) = left W.length fan s := hc
  rw [e] at this
  refine ⟨by omega, ?_⟩
  obtain ⟨x, _, x2⟩ := need_spec hf hn
  constructor
  · intro h
    rcases Nat.lt_or_ge s (need W.length fan) with c | c
    · exact c
    · have : s = need W.length fan := by omega
      subst this
      have := left_end hf hn
      omega
  · intro h
    obtain ⟨t1, t2⟩ := left_step (s := s) hf hn h
    have := tkn_ge W.length fan s hf
    omega
theorem cnt_one {n : Nat} {ss : List Stp} {i : Nat} : ∀ k, cntF n ss i k = 0 → curF n ss i k = i
  | 0, _ => rfl
  | k + 1, h => by
    have cstep : curF n ss i (k + 1) = if (curF n ss i k : Int) ∈ inOf ss k then n + k else curF n ss i k := rfl
    have kstep : cntF n ss i (k + 1) = if (curF n ss i k : Int) ∈ inOf ss k then cntF n ss i k + 1 else cntF n ss i k := rfl
    rw [kstep] at h
    by_cases m : (curF n ss i k : Int) ∈ inOf ss k
    · rw [if_pos m] at h; omega
    · rw [if_neg m] at h; rw [cstep, if_neg m]; exact cnt_one k h
/-- A plan never costs less than all weigh, and just that with one step. -/
theorem cost_sum {W : List Int} {fan : Nat} {ss : List Stp} (hW : Wts W) (p : PlanOk W.length fan ss) (hn : 1 ≤ W.length) : sumZ (fun i => W.getD i 0) W.length ≤ costF W ss ss.length ∧ (ss.length = 1 → costF W ss ss.length = sumZ (fun i => W.getD i 0) W.length) := by
  have hc := (p.inv hn ss.length (Nat.le_refl _)).cost
  have hs := p.some
  have w0 : ∀ i, i < W.length → 0 ≤ W.getD i 0 := fun i hi => by
    have := hW _ (List.getElem_mem hi)
    rw [List.getD_eq_getElem?_getD, List.getElem?_eq_getElem hi]
    exact this.1
  have one : ∀ i, i < W.length → 1 ≤ cntF W.length ss i ss.length := fun i hi => by
    refine Nat.one_le_iff_ne_zero.2 fun h => ?_
    have h1 := cnt_one _ h
    have h2 := p.last hn i hi
    omega
  rw [hc]
  refine ⟨sumZ_le _ fun i hi => ?_, fun h1 => sumZ_congr _ fun i hi => ?_⟩
  · have h1 := one i hi
    have h2 := Int.mul_le_mul_of_nonneg_right (show (1 : Int) ≤ (cntF W.length ss i ss.length : Int) by omega) (w0 i hi)
    rw [Int.one_mul] at h2
    exact h2
  · have h2 := one i hi
    have h3 := cntF_le W.length ss i ss.length
    have : cntF W.length ss i ss.length = 1 := by omega
    rw [this]
    simp
theorem PlanOk.wider {n f g : Nat} {ss : List Stp} (p : PlanOk n f ss) (h : f ≤ g) : PlanOk n g ss := ⟨p.some, p.few, fun s hs => by
  have := p.each s hs
  exact ⟨this.out, this.lo, by have := this.hi; omega, this.up, this.lt⟩, p.once⟩
theorem mk_one {W : List Int} {fan : Int} (hE : givE W fan = 0) (h : (W.length : Int) ≤ fan) : (mkAll W fan.toNat).length = 1 := by
  by_cases h1 : W.length = 1
  · unfold mkAll; rw [if_pos h1]; rfl
  · have h3 := (givE_ok hE).2.2.1
    obtain ⟨f, r, q, hf, f2, f64, n1, r1, l1, _⟩ := mk_nums hE (by omega)
    have efn : fan.toNat = f := by omega
    rw [efn, l1]
    have : q = 0 := by
      rcases Nat.lt_or_ge 0 q with c | c
      · have := Nat.le_mul_of_pos_right (f - 1) c
        omega
      · omega
    omega
theorem give_wider {W : List Int} {fan wider : Int} (hE : givE W fan = 0) (h : fan ≤ wider) (h2 : wider ≤ 64) : givE W wider = 0 := by
  unfold givE at *
  split at hE
  · cases hE
  · rw [if_neg (by omega)]; exact hE
end Go.Proofs.Ythajgfldjjgkiaa
