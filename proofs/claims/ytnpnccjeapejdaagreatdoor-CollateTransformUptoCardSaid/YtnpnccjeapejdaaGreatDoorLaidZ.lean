/- A flat datum (numbers, strings, bools, structs and arrays of these) that is read off cells tells these cells. No program is named. -/
import Derived.Lay
import Derived.OpenShut
import Derived.ChangeArms
import Derived.Lib.LaidU8
namespace Go.Proofs.YtnpnccjeapejdaaGreatDoor
open Go.Lay

mutual
def flatD : DataW Unit → Bool
  | .lit _ => true
  | .agg ds => flatDs ds
  | _ => false
def flatDs : List (DataW Unit) → Bool
  | [] => true
  | d :: r => flatD d && flatDs r
end

variable {P : Program} {w : World}

mutual
theorem lay_inv : ∀ (d : DataW Unit) (t : TypeId) (n : Nat) (x : List Value × List Obj) (fuel : Nat) (cs : List Value) (p : List MemPlace), flatD d = true → d.lay P t n = some x → rd P w fuel t cs = some (d, p) → cs = x.1
  | .lit l, t, n, x, fuel, cs, p, _, h, hr => by
    unfold DataW.lay at h
    cases fuel with
    | zero => simp [rd, DataW.trod] at hr
    | succ m =>
      have hr0 := hr
      unfold rd DataW.trod at hr
      split at h
      · rename_i hu
        cases h
        simp only at hr
        split at hr <;> simp_all
      · rename_i hu
        split at h
        · cases h
          rename_i hc
          obtain ⟨rfl, _⟩ := hc
          simp only at hr
          split at hr <;> simp_all
        · cases h
      · rename_i hu
        split at h
        · cases h
          rename_i hc
          obtain ⟨rfl, _⟩ := hc
          simp only at hr
          split at hr <;> simp_all
        · cases h
      · rename_i hu _
        split at h
        · cases h
          obtain ⟨s, rfl, hx, _⟩ := DataW.trod_string hu hr0
          simp only [Prod.mk.injEq, DataW.lit.injEq, Lit.string.injEq] at hx
          obtain ⟨rfl, _⟩ := hx
          simp
        · cases h
      · cases h
  | .agg ps, t, n, x, fuel, cs, p, hf, h, hr => by
    have hf' : flatDs ps = true := by simpa [flatD] using hf
    unfold DataW.lay at h
    split at h
    · rename_i fs hu
      split at h
      · rename_i y hy
        split at h
        · rename_i hl
          cases h
          obtain ⟨xs, m, rfl, hx, hcl, hxl, hall⟩ := DataW.trod_struct hu hr
          have hps : ps = xs.map (·.1) := by
            have := congrArg Prod.fst hx
            simpa using this
          have := layEach_inv ps (fs.toList.map fun f => (f.type, f.offset)) 0 n x m cs hf' hy (by omega) (fun i d f hd hfi => by
            simp only [List.getElem?_map, Option.map_eq_some_iff] at hfi
            obtain ⟨g, hg, rfl⟩ := hfi
            have h1 := hall i g (by simpa using hg)
            rw [hps, List.getElem?_map, Option.map_eq_some_iff] at hd
            obtain ⟨z, hz, rfl⟩ := hd
            exact ⟨z.2, by rw [hz] at h1; exact h1⟩)
          simpa using this
        · cases h
      · cases h
    · rename_i k e hu
      split at h
      · rename_i y hy
        split at h
        · rename_i hl
          cases h
          obtain ⟨xs, m, rfl, hx, hcl, hxl, hall⟩ := DataW.trod_array hu hr
          have hps : ps = xs.map (·.1) := by
            have := congrArg Prod.fst hx
            simpa using this
          refine layAll_inv ps e n x m cs hf' hy (by omega) (fun i d hd => ?_)
          rw [hps, List.getElem?_map, Option.map_eq_some_iff] at hd
          obtain ⟨z, hz, rfl⟩ := hd
          have hi : i < k := by have := (List.getElem?_eq_some_iff.1 hz).1; omega
          exact ⟨z.2, (hall i hi).trans hz⟩
        · cases h
      · cases h
    · cases h
  | .nil, _, _, _, _, _, _, hf, _, _ => by simp [flatD] at hf
  | .ptr _, _, _, _, _, _, _, hf, _, _ => by simp [flatD] at hf
  | .slice _ _, _, _, _, _, _, _, hf, _, _ => by simp [flatD] at hf
  | .iface _ _, _, _, _, _, _, _, hf, _, _ => by simp [flatD] at hf
  | .map _, _, _, _, _, _, _, hf, _, _ => by simp [flatD] at hf
  | .held _, _, _, _, _, _, _, hf, _, _ => by simp [flatD] at hf
theorem layAll_inv : ∀ (ds : List (DataW Unit)) (e : TypeId) (n : Nat) (x : List Value × List Obj) (fuel : Nat) (cs : List Value), flatDs ds = true → DataW.layAll P e n ds = some x → cs.length = x.1.length →
    (∀ (i : Nat) d, ds[i]? = some d → ∃ q, rd P w fuel e ((cs.drop (i * P.cellsOf e)).take (P.cellsOf e)) = some (d, q)) → cs = x.1
  | [], e, n, x, fuel, cs, _, h, hl, _ => by
    simp only [DataW.layAll, Option.some.injEq] at h
    subst h
    simpa using hl
  | d :: r, e, n, x, fuel, cs, hf, h, hl, hall => by
    simp only [flatDs, Bool.and_eq_true] at hf
    unfold DataW.layAll at h
    split at h
    · rename_i y hy
      split at h
      · rename_i hyl
        split at h
        · rename_i z hz
          cases h
          obtain ⟨q, h0⟩ := hall 0 d rfl
          have e0 := lay_inv d e n y fuel _ q hf.1 hy h0
          simp only [Nat.zero_mul, List.drop_zero] at e0
          simp only [List.length_append] at hl
          have e1 := layAll_inv r e _ z fuel (cs.drop (P.cellsOf e)) hf.2 hz (by simp; omega) (fun i d' hd' => by
            obtain ⟨q', h1⟩ := hall (i + 1) d' (by simpa using hd')
            refine ⟨q', ?_⟩
            rw [List.drop_drop]
            rw [Nat.add_mul, Nat.one_mul, Nat.add_comm] at h1
            exact h1)
          rw [← List.take_append_drop (P.cellsOf e) cs, e0, e1]
        · cases h
      · cases h
    · cases h
theorem layEach_inv : ∀ (ds : List (DataW Unit)) (fs : List (TypeId × Nat)) (o n : Nat) (x : List Value × List Obj) (fuel : Nat) (cs : List Value), flatDs ds = true → DataW.layEach P fs o n ds = some x → cs.length = o + x.1.length →
    (∀ (i : Nat) d f, ds[i]? = some d → fs[i]? = some f → ∃ q, rd P w fuel f.1 ((cs.drop f.2).take (P.cellsOf f.1)) = some (d, q)) → cs.drop o = x.1
  | [], [], o, n, x, fuel, cs, _, h, hl, _ => by
    simp only [DataW.layEach, Option.some.injEq] at h
    subst h
    simp at hl
    rw [List.drop_eq_nil_iff]; omega
  | [], f :: fs, o, n, x, fuel, cs, _, h, _, _ => by simp [DataW.layEach] at h
  | d :: r, [], o, n, x, fuel, cs, _, h, _, _ => by simp [DataW.layEach] at h
  | d :: r, f :: fs, o, n, x, fuel, cs, hf, h, hl, hall => by
    simp only [flatDs, Bool.and_eq_true] at hf
    unfold DataW.layEach at h
    split at h
    · rename_i y hy
      split at h
      · rename_i hyl
        obtain ⟨ho, hyl⟩ := hyl
        split at h
        · rename_i z hz
          cases h
          obtain ⟨q, h0⟩ := hall 0 d f rfl rfl
          have e0 := lay_inv d f.1 n y fuel _ q hf.1 hy h0
          rw [ho] at e0
          simp only [List.length_append] at hl
          have e1 := layEach_inv r fs _ _ z fuel cs hf.2 hz (by omega) (fun i d' f' hd' hf' => hall (i + 1) d' f' (by simpa using hd') (by simpa using hf'))
          rw [hyl] at e1
          rw [← List.take_append_drop (P.cellsOf f.1) (cs.drop o), e0, List.drop_drop, e1]
        · cases h
      · cases h
    · cases h
end

/-- A listed variable of flat data: its whole block. -/
theorem block_of_reads {n : String} {d : DataW Unit} {g t : Nat} {x : List Value × List Obj} (h : Lib.VarReads P w n d) (hg : P.globalNamed n = some g) (ht : (P.globals[g]?).map (·.type) = some t)
    (hf : flatD d = true) (hl : d.lay P t 0 = some x) : ∃ u fr, w.heap[g]? = some (.cells x.1.toArray u fr) := by
  obtain ⟨g', t', cs, fuel, p, h1, h2, h3, h4⟩ := h
  obtain rfl := Option.some.inj (hg.symm.trans h1)
  obtain rfl := Option.some.inj (ht.symm.trans h2)
  have e := lay_inv d t 0 x fuel cs.toList p hf hl h4
  simp only [World.var?, hg, Option.bind_some] at h3
  split at h3
  · rename_i c u fr hb
    cases h3
    exact ⟨u, fr, by rw [hb, ← e]⟩
  · cases h3
end Go.Proofs.YtnpnccjeapejdaaGreatDoor
