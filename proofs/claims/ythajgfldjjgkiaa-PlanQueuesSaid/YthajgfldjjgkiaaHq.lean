/- Make's plan is the cheapest. No program. -/
import Derived.Test.YthajgfldjjgkiaaHo
import Derived.Test.YthajgfldjjgkiaaHm
namespace Go.Proofs.Ythajgfldjjgkiaa

theorem al_pk1 {A : List Int} : ∀ {i}, i ≤ cnt A → al (fun _ _ => 1) (pkA A i) + (i : Int) = al (fun _ _ => 1) A
  | 0, _ => by simp [pkA]
  | i + 1, h => by
    have := al_pk1 (A := A) (i := i) (by omega)
    have := al_set (fun _ _ => 1) (pk_isL (A := A) (i := i) (by omega)).1.1
    rw [pkA]
    omega
theorem al_all : ∀ {W : List Int}, Wts W → al (fun _ _ => 1) W = (W.length : Int) := fun {W} h => by
  have one : ∀ m : Nat, sumZ (fun _ => 1) m = (m : Int) := fun m => by
    induction m with
    | zero => rfl
    | succ m ih => rw [sumZ, ih]; omega
  rw [← one W.length]
  exact sumZ_congr _ fun j hj => by
    have := (h _ (List.getElem_mem hj)).1
    rw [if_pos (by rw [List.getD_eq_getElem?_getD, List.getElem?_eq_getElem hj]; exact this)]
theorem al_left {W : List Int} {fan : Nat} (hW : Wts W) (hf : 2 ≤ fan) (hn : 2 ≤ W.length) : ∀ s, s ≤ need W.length fan → al (fun _ _ => 1) (mkA W fan s) = (left W.length fan s : Int)
  | 0, _ => by rw [mkA, al_all hW]; rfl
  | s + 1, h => by
    have ih := al_left hW hf hn s (by omega)
    have hc := (mk_ok hW hf hn s (by omega)).1
    obtain ⟨t1, t2⟩ := left_step (s := s) hf hn (by omega)
    have hp := (pk_ok (A := mkA W fan s) (i := tkn W.length fan s) (by omega)).2.2
    have := al_pk1 (A := mkA W fan s) (i := tkn W.length fan s) (by omega)
    rw [mkA, al_app _ hp]
    omega
def stepC (W : List Int) (fan j : Nat) : Int := pkS (mkA W fan j) (tkn W.length fan j)
theorem cs_nonneg (d : Nat → Nat) (A : List Int) : 0 ≤ cs d A := by
  have := al_le (A := A) (g := fun _ _ => 0) (h := fun j x => x * (d j : Int)) (fun j hj => Int.mul_nonneg hj (by omega))
  rwa [al_zero] at this
theorem opt {W : List Int} {fan : Nat} (hW : Wts W) (hf : 2 ≤ fan) (hn : 2 ≤ W.length) : ∀ r s, s + r = need W.length fan → ∀ (d : Nat → Nat) (D : Nat), DLe d D (mkA W fan s) → kr fan d D (mkA W fan s) ≤ ((fan ^ D : Nat) : Int) → sumZ (stepC W fan) (need W.length fan) ≤ sumZ (stepC W fan) s + cs d (mkA W fan s)
  | 0, s, h, d, D, _, _ => by
    have := cs_nonneg d (mkA W fan s)
    rw [← h, Nat.add_zero]
    omega
  | r + 1, s, h, d, D, hle, hk => by
    have hc := (mk_ok hW hf hn s (by omega)).1
    obtain ⟨t1, t2⟩ := left_step (s := s) hf hn (by omega)
    have hl : left W.length fan (s + 1) = 1 + (fan - 1) * (need W.length fan - (s + 1)) := if_neg (by omega)
    rw [show need W.length fan - (s + 1) = r by omega] at hl
    have ha : al (fun _ _ => 1) (mkA W fan s) = (tkn W.length fan s : Int) + ((fan : Int) - 1) * (r : Int) := by
      rw [al_left hW hf hn s (by omega), show left W.length fan s = tkn W.length fan s + (fan - 1) * r by omega, Int.natCast_add, Int.natCast_mul, show ((fan - 1 : Nat) : Int) = (fan : Int) - 1 by omega]
    have hp := (pk_ok (A := mkA W fan s) (i := tkn W.length fan s) (by omega)).2.2
    have dpos : 0 ≤ al (fun j _ => (d j : Int)) (mkA W fan s) := by
      have := al_le (A := mkA W fan s) (g := fun _ _ => 0) (h := fun j _ => (d j : Int)) (fun j _ => by show (0 : Int) ≤ (d j : Int); omega)
      rwa [al_zero] at this
    obtain ⟨d1, D1, a1, a2, a3, a4⟩ := norm hf (tkn_ge W.length fan s hf) (tkn_le W.length fan s hf) ha ((D : Int) + al (fun j _ => (d j : Int)) (mkA W fan s)).toNat d D (by omega) hle hk
    obtain ⟨d2, b1, b2, b3, _⟩ := pick_all (f := fan) (t := tkn W.length fan s) (by omega) a1 a4 (tkn W.length fan s) (Nat.le_refl _)
    have hA : mkA W fan (s + 1) = pkA (mkA W fan s) (tkn W.length fan s) ++ [stepC W fan s] := rfl
    have hpC : 0 ≤ stepC W fan s := hp
    have hb3 : stepC W fan s * ((D1 + 1 : Nat) : Int) + cs d2 (pkA (mkA W fan s) (tkn W.length fan s)) ≤ cs d1 (mkA W fan s) := b3
    generalize pkA (mkA W fan s) (tkn W.length fan s) = B at *
    have same : ∀ j, 0 ≤ B.getD j (-1) → (fun j => if j = B.length then D1 else d2 j) j = d2 j := fun j hj => by
      have := getD_out hj
      simp only
      rw [if_neg (by omega)]
    have top : (fun j => if j = B.length then D1 else d2 j) B.length = D1 := if_pos rfl
    generalize (fun j => if j = B.length then D1 else d2 j) = d3 at *
    have ih := opt hW hf hn r (s + 1) (by omega) d3 (D1 + 1) (by
      intro j hj
      by_cases c : j = B.length
      · rw [c, top]; omega
      · have hj2 : 0 ≤ B.getD j (-1) := by
          have hlt := getD_out hj
          rw [hA, List.length_append] at hlt
          simp only [List.length_singleton] at hlt
          rw [hA, List.getD_eq_getElem?_getD, List.getElem?_append_left (by omega), ← List.getD_eq_getElem?_getD] at hj
          exact hj
        rw [same j hj2]
        exact b1 j hj2) (by
      rw [hA]
      unfold kr
      rw [al_app _ hpC]
      have e : al (fun j _ => ((fan ^ (D1 + 1 - d3 j) : Nat) : Int)) B = kr fan d2 (D1 + 1) B := al_congr fun j hj => by simp only [same j hj]
      rw [e, top, show D1 + 1 - D1 = 1 by omega, Nat.pow_one]
      omega)
    have e : cs d3 (mkA W fan (s + 1)) = cs d2 B + stepC W fan s * (D1 : Int) := by
      rw [hA]
      unfold cs
      rw [al_app _ hpC, top]
      have e : al (fun j x => x * (d3 j : Int)) B = al (fun j x => x * (d2 j : Int)) B := al_congr fun j hj => by simp only [same j hj]
      rw [e]
    rw [e, sumZ] at ih
    rw [Int.natCast_add, Int.mul_add] at hb3
    have : stepC W fan s * ((1 : Nat) : Int) = stepC W fan s := by simp
    omega
/-- What Make's steps cost. -/
theorem lsum_perm {f : Int → Int} {l m : List Int} (h : l.Perm m) : lsum f l = lsum f m := by
  induction h with
  | nil => rfl
  | cons x _ ih => rw [lsum, lsum, ih]
  | swap x y l => rw [lsum, lsum, lsum, lsum]; omega
  | trans _ _ h1 h2 => rw [h1, h2]
theorem pk_same {A : List Int} : ∀ {i j}, 0 ≤ (pkA A i).getD j (-1) → (pkA A i).getD j (-1) = A.getD j (-1)
  | 0, _, _ => rfl
  | i + 1, j, h => by
    rw [pkA, getD_set] at h ⊢
    by_cases e : ls (pkA A i) = j
    · rw [if_pos e] at h; omega
    · rw [if_neg e] at h ⊢; exact pk_same h
theorem lsum_pk {A : List Int} {h : Int → Int} (hh : ∀ j : Nat, 0 ≤ A.getD j (-1) → h (j : Int) = A.getD j (-1)) : ∀ {i}, i ≤ cnt A → lsum h (pkL A i) = pkS A i
  | 0, _ => rfl
  | i + 1, hi => by
    have hl := (pk_isL (A := A) (i := i) (by omega)).1.1
    rw [pkL, lsum_snoc, lsum_pk hh (by omega), pkS, pk_same hl]
    rw [pk_same hl] at hl
    rw [hh _ hl]
theorem mk_cost {W : List Int} {fan : Nat} (hW : Wts W) (hf : 2 ≤ fan) (hn : 2 ≤ W.length) : ∀ k, k ≤ need W.length fan → (∀ x : Nat, 0 ≤ (mkA W fan k).getD x (-1) → wtF W (mkS W fan (need W.length fan)) k x = (mkA W fan k).getD x (-1)) ∧ costF W (mkS W fan (need W.length fan)) k = sumZ (stepC W fan) k
  | 0, _ => ⟨fun x hx => by
      have := getD_out hx
      rw [mkA] at *
      rw [wtF]
      show W.getD x 0 = W.getD x (-1)
      rw [List.getD_eq_getElem?_getD, List.getD_eq_getElem?_getD, List.getElem?_eq_getElem this]; rfl, rfl⟩
  | k + 1, h => by
    obtain ⟨h1, h2⟩ := mk_cost hW hf hn k (by omega)
    have hc := (mk_ok hW hf hn k (by omega)).1
    obtain ⟨t1, t2⟩ := left_step (s := k) hf hn (by omega)
    have hl : k < (mkS W fan (need W.length fan)).length := by rw [mkS_len]; exact h
    have sum : lsum (fun r => wtF W (mkS W fan (need W.length fan)) k r.toNat) (inOf (mkS W fan (need W.length fan)) k) = stepC W fan k := by
      rw [inOf_get hl, mkS_at]
      simp only
      rw [lsum_perm (srt_perm _)]
      exact lsum_pk (fun j hj => by simp only [Int.toNat_natCast]; exact h1 j hj) (by omega)
    have hp := (pk_ok (A := mkA W fan k) (i := tkn W.length fan k) (by omega)).2.2
    refine ⟨fun x hx => ?_, by rw [costF, sum, h2]; rfl⟩
    rw [wtF, sum]
    have hA : mkA W fan (k + 1) = pkA (mkA W fan k) (tkn W.length fan k) ++ [stepC W fan k] := rfl
    have hlen : (pkA (mkA W fan k) (tkn W.length fan k)).length = W.length + k := by rw [pkA_len, mkA_len]
    have hlt := getD_out hx
    rw [mkA_len] at hlt
    by_cases e : x = W.length + k
    · rw [e, updF_same, hA, List.getD_eq_getElem?_getD, List.getElem?_append_right (by omega), hlen, Nat.sub_self]
      rfl
    · rw [updF_other _ _ _ _ e]
      rw [hA, List.getD_eq_getElem?_getD, List.getElem?_append_left (by omega), ← List.getD_eq_getElem?_getD] at hx ⊢
      rw [pk_same hx]
      rw [pk_same hx] at hx
      exact h1 x hx
/-- No plan is too shallow. -/
theorem kraft {n fan : Nat} {ss : List Stp} (p : PlanOk n fan ss) (hn : 1 ≤ n) (hf : 1 ≤ fan) : ∀ k, k ≤ ss.length → ∀ x : Nat, x < n + k → (x : Int) ∉ flat (ss.take k) → sumZ (fun i => if curF n ss i k = x then ((fan ^ (ss.length - cntF n ss i k) : Nat) : Int) else 0) n ≤ ((fan ^ ss.length : Nat) : Int)
  | 0, _, x, hx, _ => by
    have o := sumZ_one (fun _ => ((fan ^ ss.length : Nat) : Int)) x n
    rw [if_pos (show x < n from hx)] at o
    exact Int.le_of_eq o
  | k + 1, h, x, hx, hm => by
    have ih := kraft p hn hf k (by omega)
    have hk : k < ss.length := by omega
    have hin := inOf_get hk
    have sp := p.each k hk
    rw [flat_take hk, ← hin, List.mem_append] at hm
    have cstep : ∀ i, curF n ss i (k + 1) = if (curF n ss i k : Int) ∈ inOf ss k then n + k else curF n ss i k := fun i => rfl
    have kstep : ∀ i, cntF n ss i (k + 1) = if (curF n ss i k : Int) ∈ inOf ss k then cntF n ss i k + 1 else cntF n ss i k := fun i => rfl
    have lt : ∀ x ∈ inOf ss k, 0 ≤ x ∧ x < ((n + k : Nat) : Int) := fun x hx => sp.lt x (by rw [← hin]; exact hx)
    have clt : ∀ i, i < n → curF n ss i k < n + k := fun i hi => by
      have p' : PlanOk (ones n).length fan ss := by rw [ones_len]; exact p
      have := (p'.inv (by rw [ones_len]; exact hn) k (by omega)).lt i (by rw [ones_len]; exact hi)
      rw [ones_len] at this
      exact this.1
    by_cases e : x = n + k
    · have nd : (inOf ss k).Nodup := by rw [hin]; exact sp.up.imp (fun {a b} h => by omega)
      have s1 := lsum_sumZ (fun i => curF n ss i k) (fun i => ((fan ^ (ss.length - cntF n ss i k) : Nat) : Int)) n (inOf ss k) nd
      have s2 : ∀ l : List Int, (∀ y ∈ l, y ∈ inOf ss k) → lsum (fun y => sumZ (fun i => if (curF n ss i k : Int) = y then ((fan ^ (ss.length - cntF n ss i k) : Nat) : Int) else 0) n) l ≤ (l.length : Int) * ((fan ^ ss.length : Nat) : Int) := fun l => by
        induction l with
        | nil => intro _; simp [lsum]
        | cons y l ihl =>
          intro hy
          have h1 := ihl fun z hz => hy z (List.mem_cons_of_mem _ hz)
          have hyk := hy y (List.mem_cons_self)
          obtain ⟨y0, y1⟩ := lt y hyk
          have ey : ((y.toNat : Nat) : Int) = y := Int.toNat_of_nonneg y0
          have h2 := ih y.toNat (by omega) (by rw [ey]; exact List.count_eq_zero.1 (p.fresh hk y (by rw [← hin]; exact hyk)))
          have h3 : sumZ (fun i => if (curF n ss i k : Int) = y then ((fan ^ (ss.length - cntF n ss i k) : Nat) : Int) else 0) n = sumZ (fun i => if curF n ss i k = y.toNat then ((fan ^ (ss.length - cntF n ss i k) : Nat) : Int) else 0) n := sumZ_congr _ fun i _ => by
            by_cases c : curF n ss i k = y.toNat
            · rw [if_pos c, if_pos (by omega)]
            · rw [if_neg c, if_neg (by omega)]
          rw [lsum, h3, List.length_cons, Int.natCast_add, Int.add_mul]
          have : ((1 : Nat) : Int) * ((fan ^ ss.length : Nat) : Int) = ((fan ^ ss.length : Nat) : Int) := by simp
          omega
      have s3 := s2 (inOf ss k) fun y hy => hy
      rw [s1] at s3
      have s4 : ((inOf ss k).length : Int) * ((fan ^ ss.length : Nat) : Int) ≤ (fan : Int) * ((fan ^ ss.length : Nat) : Int) := Int.mul_le_mul_of_nonneg_right (by have := sp.hi; rw [← hin] at this; omega) (by omega)
      have s5 : (fan : Int) * sumZ (fun i => if curF n ss i (k + 1) = x then ((fan ^ (ss.length - cntF n ss i (k + 1)) : Nat) : Int) else 0) n = sumZ (fun i => if (curF n ss i k : Int) ∈ inOf ss k then ((fan ^ (ss.length - cntF n ss i k) : Nat) : Int) else 0) n := by
        rw [← sumZ_mul]
        refine sumZ_congr _ fun i hi => ?_
        have c0 := clt i hi
        have c1 := cntF_le n ss i k
        rw [cstep, kstep]
        by_cases m : (curF n ss i k : Int) ∈ inOf ss k
        · rw [if_pos m, if_pos m, if_pos m, if_pos e.symm, show ss.length - cntF n ss i k = ss.length - (cntF n ss i k + 1) + 1 by omega, Nat.pow_succ, Nat.mul_comm (fan ^ _) fan, Int.natCast_mul]
        · rw [if_neg m, if_neg m, if_neg m, if_neg (by omega)]; omega
      refine Int.le_of_mul_le_mul_left (a := (fan : Int)) ?_ (by omega)
      rw [s5]
      omega
    · have hx2 := ih x (by omega) (fun q => hm (Or.inl q))
      have : sumZ (fun i => if curF n ss i (k + 1) = x then ((fan ^ (ss.length - cntF n ss i (k + 1)) : Nat) : Int) else 0) n = sumZ (fun i => if curF n ss i k = x then ((fan ^ (ss.length - cntF n ss i k) : Nat) : Int) else 0) n := sumZ_congr _ fun i _ => by
        rw [cstep, kstep]
        by_cases m : (curF n ss i k : Int) ∈ inOf ss k
        · rw [if_pos m, if_pos m, if_neg (fun q => e q.symm), if_neg (fun q => hm (Or.inr (by rw [← q]; exact m)))]
        · rw [if_neg m, if_neg m]
      rw [this]
      exact hx2
/-- No plan has fewer steps, none costs less. -/
theorem cheapest {W : List Int} {fan : Int} {ss : List Stp} (hE : givE W fan = 0) (p : PlanOk W.length fan.toNat ss) : costF W (mkAll W fan.toNat) (mkAll W fan.toNat).length ≤ costF W ss ss.length ∧ (mkAll W fan.toNat).length ≤ ss.length := by
  obtain ⟨e1, e2, e3, e4, hW⟩ := givE_ok hE
  have hf : 2 ≤ fan.toNat := by omega
  generalize fan.toNat = f at *
  by_cases h1 : W.length = 1
  · have ha : mkAll W f = [⟨[0], 1⟩] := if_pos h1
    have hl : ss.length = 1 := by have := p.few; have := p.some; omega
    obtain ⟨x, rfl⟩ := List.length_eq_one_iff.1 hl
    have sp := p.each 0 (by simp)
    have hx : ([x] : List Stp)[0] = x := rfl
    rw [hx] at sp
    have hi : x.inn.length = 1 := by
      have := p.len
      simp [flat] at this
      omega
    obtain ⟨z, hz⟩ := List.length_eq_one_iff.1 hi
    have z0 : z = 0 := by
      have := sp.lt z (by rw [hz]; exact List.mem_singleton.2 rfl)
      omega
    have ex : x = ⟨[0], 1⟩ := by
      have ho := sp.out
      cases x with
      | mk inn out =>
        simp only at hz ho
        rw [hz, z0, ho, h1]
        rfl
    rw [ha, ex]
    exact ⟨Int.le_refl _, Nat.le_refl _⟩
  · have hn : 2 ≤ W.length := by omega
    have ha : mkAll W f = mkS W f (need W.length f) := if_neg h1
    rw [ha, mkS_len]
    refine ⟨?_, ?_⟩
    · rw [(mk_cost hW hf hn _ (Nat.le_refl _)).2]
      have hk := kraft p e3 (by omega) ss.length (Nat.le_refl _) (W.length + ss.length - 1) (by have := p.some; omega) (fun m => by
        rw [List.take_length] at m
        have := (flat_lt p.each _ m).2
        omega)
      have hk2 : kr f (fun i => cntF W.length ss i ss.length) ss.length (mkA W f 0) ≤ ((f ^ ss.length : Nat) : Int) := by
        refine Int.le_trans (Int.le_of_eq ?_) hk
        unfold kr al
        refine sumZ_congr _ fun i hi => ?_
        have hi : i < W.length := hi
        have := (hW _ (List.getElem_mem hi)).1
        rw [if_pos (p.last e3 i hi), if_pos (by rw [mkA, List.getD_eq_getElem?_getD, List.getElem?_eq_getElem hi]; exact this)]
      have o := opt hW hf hn (need W.length f) 0 (by omega) (fun i => cntF W.length ss i ss.length) ss.length (fun j _ => cntF_le W.length ss j ss.length) hk2
      have c0 : cs (fun i => cntF W.length ss i ss.length) (mkA W f 0) = costF W ss ss.length := by
        rw [(p.inv e3 ss.length (Nat.le_refl _)).cost]
        unfold cs al
        refine sumZ_congr _ fun i hi => ?_
        have hi : i < W.length := hi
        have := (hW _ (List.getElem_mem hi)).1
        have g1 : (mkA W f 0).getD i (-1) = W.getD i 0 := by rw [mkA, List.getD_eq_getElem?_getD, List.getD_eq_getElem?_getD, List.getElem?_eq_getElem hi]; rfl
        have g2 : 0 ≤ W.getD i 0 := by rw [List.getD_eq_getElem?_getD, List.getElem?_eq_getElem hi]; exact this
        rw [g1, if_pos g2, Int.mul_comm]
      rw [c0, sumZ] at o
      omega
    · have hl := p.len
      have hfl : ∀ k, k ≤ ss.length → (flat (ss.take k)).length ≤ f * k := fun k => by
        induction k with
        | zero => intro _; simp [flat]
        | succ k ih =>
          intro hk
          have := ih (by omega)
          have hh := (p.each k (by omega)).hi
          rw [flat_take (by omega), List.length_append, Nat.mul_succ]
          omega
      have hfl := hfl ss.length (Nat.le_refl _)
      rw [List.take_length, hl] at hfl
      have hs := p.some
      obtain ⟨q, q1, q2⟩ := need_spec hf hn
      rw [q2]
      obtain ⟨g, rfl⟩ : ∃ g, f = g + 1 := ⟨f - 1, by omega⟩
      rw [Nat.add_sub_cancel] at q1
      rcases Nat.lt_or_ge q ss.length with c | c
      · exact c
      · have h1 := Nat.mul_le_mul_left g c
        have h2 : (g + 1) * ss.length = g * ss.length + ss.length := Nat.succ_mul g _
        omega
end Go.Proofs.Ythajgfldjjgkiaa
