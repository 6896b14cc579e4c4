/- No plan costs less. No program. -/
import Derived.Test.YthajgfldjjgkiaaLv
namespace Go.Proofs.Ythajgfldjjgkiaa

theorem sumZ_upd {F G : Nat → Int} {n k : Nat} (hk : k < n) (h : ∀ i, i < n → i ≠ k → F i = G i) : sumZ F n + G k = sumZ G n + F k := by
  have e : sumZ F n = sumZ (fun i => G i + if i = k then F k - G k else 0) n := sumZ_congr n fun i hi => by
    by_cases c : i = k
    · subst c; rw [if_pos rfl]; omega
    · rw [if_neg c, h i hi c]; omega
  have o := sumZ_one (fun _ => F k - G k) k n
  rw [if_pos hk] at o
  rw [e, sumZ_add, o]
  omega
theorem sumZ_mul (c : Int) (f : Nat → Int) : ∀ n, sumZ (fun i => c * f i) n = c * sumZ f n
  | 0 => by rw [sumZ, sumZ]; omega
  | n + 1 => by rw [sumZ, sumZ, sumZ_mul c f n, Int.mul_add]
/-- A sum over what is left. -/
def al (g : Nat → Int → Int) (A : List Int) : Int := sumZ (fun j => if 0 ≤ A.getD j (-1) then g j (A.getD j (-1)) else 0) A.length
theorem al_congr {g h : Nat → Int → Int} {A : List Int} (e : ∀ j, 0 ≤ A.getD j (-1) → g j (A.getD j (-1)) = h j (A.getD j (-1))) : al g A = al h A := sumZ_congr _ fun j _ => by
  by_cases c : 0 ≤ A.getD j (-1)
  · rw [if_pos c, if_pos c, e j c]
  · rw [if_neg c, if_neg c]
theorem al_le {g h : Nat → Int → Int} {A : List Int} (e : ∀ j, 0 ≤ A.getD j (-1) → g j (A.getD j (-1)) ≤ h j (A.getD j (-1))) : al g A ≤ al h A := sumZ_le _ fun j _ => by
  by_cases c : 0 ≤ A.getD j (-1)
  · rw [if_pos c, if_pos c]; exact e j c
  · rw [if_neg c, if_neg c]; exact Int.le_refl _
theorem al_zero (A : List Int) : al (fun _ _ => 0) A = 0 := by
  have : al (fun _ _ => 0) A = sumZ (fun _ => 0) A.length := sumZ_congr _ fun j _ => by split <;> rfl
  rw [this, sumZ_zero]
theorem al_add (g h : Nat → Int → Int) (A : List Int) : al (fun j x => g j x + h j x) A = al g A + al h A := by
  unfold al
  rw [← sumZ_add]
  exact sumZ_congr _ fun j _ => by
    split
    · rfl
    · omega
theorem al_mul (c : Int) (g : Nat → Int → Int) (A : List Int) : al (fun j x => c * g j x) A = c * al g A := by
  unfold al
  rw [← sumZ_mul]
  exact sumZ_congr _ fun j _ => by
    split
    · rfl
    · omega
theorem al_set (g : Nat → Int → Int) {A : List Int} {k : Nat} (h : 0 ≤ A.getD k (-1)) : al g (A.set k (-1)) + g k (A.getD k (-1)) = al g A := by
  have hk := getD_out h
  have := sumZ_upd (F := fun j => if 0 ≤ (A.set k (-1)).getD j (-1) then g j ((A.set k (-1)).getD j (-1)) else 0) (G := fun j => if 0 ≤ A.getD j (-1) then g j (A.getD j (-1)) else 0) hk (fun i _ hn => by
    have : (A.set k (-1)).getD i (-1) = A.getD i (-1) := by rw [getD_set, if_neg (fun e => hn e.symm)]
    simp only [this])
  have e1 : (A.set k (-1)).getD k (-1) = -1 := by rw [getD_set, if_pos rfl]
  simp only [e1, if_pos h] at this
  unfold al
  rw [List.length_set]
  have e2 : (if (0 : Int) ≤ -1 then g k (-1) else 0) = 0 := if_neg (by omega)
  rw [e2] at this
  omega
theorem al_app (g : Nat → Int → Int) {A : List Int} {x : Int} (h : 0 ≤ x) : al g (A ++ [x]) = al g A + g A.length x := by
  unfold al
  rw [List.length_append]
  show sumZ _ (A.length + 1) = _
  rw [sumZ]
  have e1 : (A ++ [x]).getD A.length (-1) = x := by rw [List.getD_eq_getElem?_getD, List.getElem?_append_right (Nat.le_refl _), Nat.sub_self]; rfl
  rw [e1, if_pos h]
  congr 1
  exact sumZ_congr _ fun j hj => by
    have : (A ++ [x]).getD j (-1) = A.getD j (-1) := by rw [List.getD_eq_getElem?_getD, List.getElem?_append_left hj, ← List.getD_eq_getElem?_getD]
    simp only [this]
theorem al_some {P : Nat → Bool} {A : List Int} (h : 1 ≤ al (fun j _ => if P j = true then 1 else 0) A) : ∃ q, 0 ≤ A.getD q (-1) ∧ P q = true := by
  refine Classical.byContradiction fun hn => ?_
  have : al (fun j _ => if P j = true then 1 else 0) A = al (fun _ _ => 0) A := al_congr fun j hj => by
    show (if P j = true then (1 : Int) else 0) = 0
    rw [if_neg (fun hp => hn ⟨j, hj, hp⟩)]
  rw [this, al_zero] at h
  omega
def kr (f : Nat) (d : Nat → Nat) (D : Nat) (A : List Int) : Int := al (fun j _ => ((f ^ (D - d j) : Nat) : Int)) A
def cs (d : Nat → Nat) (A : List Int) : Int := al (fun j x => x * (d j : Int)) A
def ms (d : Nat → Nat) (D : Nat) (A : List Int) : Int := al (fun j _ => if decide (d j = D) = true then 1 else 0) A
def DLe (d : Nat → Nat) (D : Nat) (A : List Int) : Prop := ∀ j, 0 ≤ A.getD j (-1) → d j ≤ D
/-- One of the lightest is made a deepest one, and taken out. -/
theorem pick_one {f D p : Nat} {A : List Int} {d : Nat → Nat} (hp : IsL A p) (hle : DLe d D A) (hm : 1 ≤ ms d D A) : ∃ d' : Nat → Nat, DLe d' D (A.set p (-1)) ∧ kr f d' D (A.set p (-1)) + 1 = kr f d D A ∧ A.getD p (-1) * (D : Int) + cs d' (A.set p (-1)) ≤ cs d A ∧ ms d' D (A.set p (-1)) + 1 = ms d D A := by
  have hg : ∀ j, (A.set p (-1)).getD j (-1) = if p = j then -1 else A.getD j (-1) := fun j => getD_set
  have k0 := al_set (fun j _ => ((f ^ (D - d j) : Nat) : Int)) hp.1
  have c0 := al_set (fun j x => x * (d j : Int)) hp.1
  have m0 := al_set (fun j _ => if decide (d j = D) = true then (1 : Int) else 0) hp.1
  by_cases e : d p = D
  · refine ⟨d, fun j hj => ?_, ?_, ?_, ?_⟩
    · rw [hg] at hj
      split at hj
      · omega
      · exact hle j hj
    · unfold kr
      simp only [e, Nat.sub_self, Nat.pow_zero] at k0
      exact k0
    · unfold cs
      simp only [e] at c0
      omega
    · unfold ms
      simp only [e] at m0
      exact m0
  · obtain ⟨q, hq, hqD⟩ := al_some (P := fun j => decide (d j = D)) hm
    have hqD : d q = D := of_decide_eq_true hqD
    have hpq : p ≠ q := by rintro rfl; exact e hqD
    have hqB : 0 ≤ (A.set p (-1)).getD q (-1) := by rw [hg, if_neg hpq]; exact hq
    have hBq : (A.set p (-1)).getD q (-1) = A.getD q (-1) := by rw [hg, if_neg hpq]
    have lep := hle p hp.1
    have wle : A.getD p (-1) ≤ A.getD q (-1) := by have := hp.2 q hq; omega
    have same : ∀ j, 0 ≤ ((A.set p (-1)).set q (-1)).getD j (-1) → updF d q (d p) j = d j := fun j hj => by
      rw [getD_set] at hj
      by_cases c : q = j
      · rw [if_pos c] at hj; omega
      · exact updF_other _ _ _ _ (fun e => c e.symm)
    have k1 := al_set (fun j _ => ((f ^ (D - d j) : Nat) : Int)) hqB
    have c1 := al_set (fun j x => x * (d j : Int)) hqB
    have m1 := al_set (fun j _ => if decide (d j = D) = true then (1 : Int) else 0) hqB
    have k2 := al_set (fun j _ => ((f ^ (D - updF d q (d p) j) : Nat) : Int)) hqB
    have c2 := al_set (fun j x => x * ((updF d q (d p) j : Nat) : Int)) hqB
    have m2 := al_set (fun j _ => if decide (updF d q (d p) j = D) = true then (1 : Int) else 0) hqB
    have k3 : al (fun j _ => ((f ^ (D - updF d q (d p) j) : Nat) : Int)) ((A.set p (-1)).set q (-1)) = al (fun j _ => ((f ^ (D - d j) : Nat) : Int)) ((A.set p (-1)).set q (-1)) := al_congr fun j hj => by simp only [same j hj]
    have c3 : al (fun j x => x * ((updF d q (d p) j : Nat) : Int)) ((A.set p (-1)).set q (-1)) = al (fun j x => x * (d j : Int)) ((A.set p (-1)).set q (-1)) := al_congr fun j hj => by simp only [same j hj]
    have m3 : al (fun j _ => if decide (updF d q (d p) j = D) = true then (1 : Int) else 0) ((A.set p (-1)).set q (-1)) = al (fun j _ => if decide (d j = D) = true then (1 : Int) else 0) ((A.set p (-1)).set q (-1)) := al_congr fun j hj => by simp only [same j hj]
    have uq : updF d q (d p) q = d p := updF_same _ _ _
    rw [k3] at k2
    rw [c3] at c2
    rw [m3] at m2
    simp only [uq, hqD, hBq, Nat.sub_self, Nat.pow_zero] at k1 k2 c1 c2 m1 m2
    have de : decide (d p = D) = false := decide_eq_false e
    simp only [de] at m0 m2
    refine ⟨updF d q (d p), fun j hj => ?_, ?_, ?_, ?_⟩
    · by_cases c : j = q
      · subst c; rw [uq]; exact lep
      · rw [updF_other _ _ _ _ c]
        rw [hg] at hj
        split at hj
        · omega
        · exact hle j hj
    · unfold kr; omega
    · unfold cs
      have hx : 0 ≤ (A.getD q (-1) - A.getD p (-1)) * ((D : Int) - (d p : Int)) := Int.mul_nonneg (by omega) (by omega)
      rw [Int.sub_mul, Int.mul_sub, Int.mul_sub] at hx
      omega
    · unfold ms
      simp only [decide_true, if_true, Bool.false_eq_true, if_false] at m0 m1 m2
      omega
theorem pick_all {f D t : Nat} {A : List Int} {d : Nat → Nat} (ht : t ≤ cnt A) (hle : DLe d D A) (hm : (t : Int) ≤ ms d D A) : ∀ i, i ≤ t → ∃ d' : Nat → Nat, DLe d' D (pkA A i) ∧ kr f d' D (pkA A i) + (i : Int) = kr f d D A ∧ pkS A i * (D : Int) + cs d' (pkA A i) ≤ cs d A ∧ ms d' D (pkA A i) + (i : Int) = ms d D A
  | 0, _ => ⟨d, hle, by simp [pkA], by simp [pkA, pkS], by simp [pkA]⟩
  | i + 1, h => by
    obtain ⟨d1, a1, a2, a3, a4⟩ := pick_all (f := f) ht hle hm i (by omega)
    obtain ⟨d2, b1, b2, b3, b4⟩ := pick_one (f := f) (pk_isL (A := A) (i := i) (by omega)).1 a1 (by omega)
    refine ⟨d2, b1, ?_, ?_, ?_⟩
    · rw [pkA]; omega
    · rw [pkA, pkS, Int.add_mul]; omega
    · rw [pkA]; omega
/-- As deep as it must be. -/
theorem norm {f t y : Nat} {A : List Int} (hf : 2 ≤ f) (h2 : 2 ≤ t) (htf : t ≤ f) (hc : al (fun _ _ => 1) A = (t : Int) + ((f : Int) - 1) * (y : Int)) : ∀ (N : Nat) (d : Nat → Nat) (D : Nat), (D : Int) + al (fun j _ => (d j : Int)) A ≤ (N : Int) → DLe d D A → kr f d D A ≤ ((f ^ D : Nat) : Int) → ∃ (d' : Nat → Nat) (D' : Nat), DLe d' (D' + 1) A ∧ kr f d' (D' + 1) A = ((f ^ (D' + 1) : Nat) : Int) - (f : Int) + (t : Int) ∧ cs d' A ≤ cs d A ∧ (t : Int) ≤ ms d' (D' + 1) A
  | N, d, D, hN, hle, hk => by
    have c2 : 2 ≤ al (fun _ _ => 1) A := by
      have : 0 ≤ ((f : Int) - 1) * (y : Int) := Int.mul_nonneg (by omega) (by omega)
      omega
    have fpos : ∀ k, 1 ≤ f ^ k := fun k => Nat.pow_pos (by omega)
    have kge : al (fun _ _ => 1) A ≤ kr f d D A := al_le fun j _ => by
      show (1 : Int) ≤ ((f ^ (D - d j) : Nat) : Int)
      have := fpos (D - d j)
      omega
    have dpos : 0 ≤ al (fun j _ => (d j : Int)) A := by
      have := al_le (A := A) (g := fun _ _ => 0) (h := fun j _ => (d j : Int)) (fun j _ => by show (0 : Int) ≤ (d j : Int); omega)
      rwa [al_zero] at this
    cases D with
    | zero => rw [Nat.pow_zero] at hk; omega
    | succ D =>
      cases N with
      | zero => omega
      | succ N =>
        by_cases hm : 1 ≤ ms d (D + 1) A
        · by_cases hs : kr f d (D + 1) A + ((f : Int) - 1) ≤ ((f ^ (D + 1) : Nat) : Int)
          · -- room to lift one
            obtain ⟨q, hq, hqD⟩ := al_some (P := fun j => decide (d j = D + 1)) hm
            have hqD : d q = D + 1 := of_decide_eq_true hqD
            have same : ∀ j, 0 ≤ (A.set q (-1)).getD j (-1) → updF d q D j = d j := fun j hj => by
              rw [getD_set] at hj
              by_cases c : q = j
              · rw [if_pos c] at hj; omega
              · exact updF_other _ _ _ _ (fun e => c e.symm)
            have uq : updF d q D q = D := updF_same _ _ _
            have k1 := al_set (fun j _ => ((f ^ (D + 1 - d j) : Nat) : Int)) hq
            have k2 := al_set (fun j _ => ((f ^ (D + 1 - updF d q D j) : Nat) : Int)) hq
            have k3 : al (fun j _ => ((f ^ (D + 1 - updF d q D j) : Nat) : Int)) (A.set q (-1)) = al (fun j _ => ((f ^ (D + 1 - d j) : Nat) : Int)) (A.set q (-1)) := al_congr fun j hj => by simp only [same j hj]
            have c1 := al_set (fun j x => x * (d j : Int)) hq
            have c2 := al_set (fun j x => x * ((updF d q D j : Nat) : Int)) hq
            have c3 : al (fun j x => x * ((updF d q D j : Nat) : Int)) (A.set q (-1)) = al (fun j x => x * (d j : Int)) (A.set q (-1)) := al_congr fun j hj => by simp only [same j hj]
            have d1 := al_set (fun j _ => (d j : Int)) hq
            have d2 := al_set (fun j _ => ((updF d q D j : Nat) : Int)) hq
            have d3 : al (fun j _ => ((updF d q D j : Nat) : Int)) (A.set q (-1)) = al (fun j _ => (d j : Int)) (A.set q (-1)) := al_congr fun j hj => by simp only [same j hj]
            rw [k3] at k2
            rw [c3] at c2
            rw [d3] at d2
            simp only [uq, hqD, Nat.sub_self, Nat.pow_zero, show D + 1 - D = 1 by omega, Nat.pow_one] at k1 k2 c1 c2 d1 d2
            have cle : cs (updF d q D) A ≤ cs d A := by
              unfold cs
              have : A.getD q (-1) * ((D + 1 : Nat) : Int) = A.getD q (-1) * (D : Int) + A.getD q (-1) := by
                rw [Int.natCast_add, Int.mul_add]; simp
              omega
            obtain ⟨d', D', r1, r2, r3, r4⟩ := norm hf h2 htf hc N (updF d q D) (D + 1) (by omega) (fun j hj => by
              by_cases c : j = q
              · subst c; rw [uq]; omega
              · rw [updF_other _ _ _ _ c]; exact hle j hj) (by unfold kr at hs ⊢; omega)
            exact ⟨d', D', r1, r2, by omega, r4⟩
          · -- no room
            have z := al_add (fun _ _ => 1) (fun j _ => ((f : Int) - 1) * (uu f (D + 1 - d j) : Int)) A
            rw [al_mul ((f : Int) - 1) (fun j _ => (uu f (D + 1 - d j) : Int)) A] at z
            have zk : al (fun j _ => (1 : Int) + ((f : Int) - 1) * (uu f (D + 1 - d j) : Int)) A = kr f d (D + 1) A := al_congr fun j _ => by
              show (1 : Int) + ((f : Int) - 1) * (uu f (D + 1 - d j) : Int) = ((f ^ (D + 1 - d j) : Nat) : Int)
              rw [uu_pow hf, Int.natCast_add, Int.natCast_mul, show ((f - 1 : Nat) : Int) = (f : Int) - 1 by omega]; rfl
            rw [zk, hc] at z
            have zD : ((f ^ (D + 1) : Nat) : Int) = 1 + ((f : Int) - 1) * (uu f (D + 1) : Int) := by
              rw [uu_pow hf, Int.natCast_add, Int.natCast_mul, show ((f - 1 : Nat) : Int) = (f : Int) - 1 by omega]; rfl
            have v := al_add (fun j _ => if decide (d j = D + 1) = true then 1 else 0) (fun j _ => (f : Int) * (if d j = D + 1 then 0 else ((f ^ (D - d j) : Nat) : Int))) A
            rw [al_mul (f : Int) (fun j _ => if d j = D + 1 then 0 else ((f ^ (D - d j) : Nat) : Int)) A] at v
            have vk : al (fun j _ => (if decide (d j = D + 1) = true then (1 : Int) else 0) + (f : Int) * (if d j = D + 1 then 0 else ((f ^ (D - d j) : Nat) : Int))) A = kr f d (D + 1) A := al_congr fun j hj => by
              show (if decide (d j = D + 1) = true then (1 : Int) else 0) + (f : Int) * (if d j = D + 1 then 0 else ((f ^ (D - d j) : Nat) : Int)) = ((f ^ (D + 1 - d j) : Nat) : Int)
              have hj := hle j hj
              by_cases c : d j = D + 1
              · rw [if_pos (decide_eq_true c), if_pos c, c, Nat.sub_self]; simp
              · rw [if_neg (by simpa using c), if_neg c, show D + 1 - d j = D - d j + 1 by omega, Nat.pow_succ, Nat.mul_comm, Int.natCast_mul]; omega
            rw [vk] at v
            have vD : ((f ^ (D + 1) : Nat) : Int) = (f : Int) * ((f ^ D : Nat) : Int) := by rw [Nat.pow_succ, Nat.mul_comm, Int.natCast_mul]
            unfold ms at hm
            have hms : ms d (D + 1) A = al (fun j _ => if decide (d j = D + 1) = true then 1 else 0) A := rfl
            have fin : kr f d (D + 1) A = ((f ^ (D + 1) : Nat) : Int) - (f : Int) + (t : Int) ∧ (t : Int) ≤ ms d (D + 1) A := by
              rw [hms]
              clear hms hN hc zk vk kge
              generalize al (fun j _ => (uu f (D + 1 - d j) : Int)) A = Z at *
              generalize al (fun j _ => if d j = D + 1 then 0 else ((f ^ (D - d j) : Nat) : Int)) A = V at *
              generalize al (fun j _ => if decide (d j = D + 1) = true then (1 : Int) else 0) A = M at *
              generalize kr f d (D + 1) A = K at *
              generalize ((f ^ D : Nat) : Int) = P at *
              generalize (uu f (D + 1) : Int) = U at *
              generalize ((f ^ (D + 1) : Nat) : Int) = Q at *
              -- the slack is f - t
              have e : Q - K = ((f : Int) - t) + ((f : Int) - 1) * (U - Z - y - 1) := by
                rw [Int.mul_sub, Int.mul_sub, Int.mul_sub]; omega
              have e0 : U - Z - y - 1 = 0 := by
                generalize U - Z - y - 1 = x at *
                rcases Int.lt_trichotomy x 0 with q | q | q
                · have := Int.mul_le_mul_of_nonneg_left (show x ≤ -1 by omega) (show 0 ≤ (f : Int) - 1 by omega)
                  omega
                · exact q
                · have := Int.mul_le_mul_of_nonneg_left (show 1 ≤ x by omega) (show 0 ≤ (f : Int) - 1 by omega)
                  omega
              rw [e0] at e
              have e1 : M = (t : Int) + (f : Int) * (P - V - 1) := by
                rw [Int.mul_sub, Int.mul_sub]; omega
              have e2 : (t : Int) ≤ M := by
                generalize P - V - 1 = x at *
                rcases (show x < 0 ∨ 0 ≤ x by omega) with q | q
                · have := Int.mul_le_mul_of_nonneg_left (show x ≤ -1 by omega) (show 0 ≤ (f : Int) by omega)
                  omega
                · have := Int.mul_nonneg (show 0 ≤ (f : Int) by omega) q
                  omega
              exact ⟨by omega, e2⟩
            exact ⟨d, D, hle, fin.1, Int.le_refl _, fin.2⟩
        · -- none is so deep
          have hlt : DLe d D A := fun j hj => by
            have h1 := hle j hj
            rcases Nat.lt_or_ge D (d j) with c | c
            · refine absurd ?_ hm
              have e : d j = D + 1 := by omega
              have := al_set (fun j _ => if decide (d j = D + 1) = true then (1 : Int) else 0) hj
              rw [if_pos (decide_eq_true e)] at this
              have pos := al_le (A := A.set j (-1)) (g := fun _ _ => 0) (h := fun j _ => if decide (d j = D + 1) = true then (1 : Int) else 0) (fun j _ => by show (0 : Int) ≤ if decide (d j = D + 1) = true then 1 else 0; split <;> omega)
              rw [al_zero] at pos
              unfold ms
              omega
            · exact c
          have hk2 : kr f d (D + 1) A = (f : Int) * kr f d D A := by
            unfold kr
            rw [← al_mul]
            exact al_congr fun j hj => by
              show ((f ^ (D + 1 - d j) : Nat) : Int) = (f : Int) * ((f ^ (D - d j) : Nat) : Int)
              have := hlt j hj
              rw [show D + 1 - d j = D - d j + 1 by omega, Nat.pow_succ, Nat.mul_comm, Int.natCast_mul]
          rw [hk2, Nat.pow_succ, Nat.mul_comm, Int.natCast_mul] at hk
          exact norm hf h2 htf hc N d D (by omega) hlt (Int.le_of_mul_le_mul_left hk (by omega))
end Go.Proofs.Ythajgfldjjgkiaa
