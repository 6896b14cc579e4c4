/- What came in, opened. -/
import Derived.Test.YthajgfldjjgkiaaRows
import Derived.Test.YthajgfldjjgkiaaBa
import Derived.OpenShut
import Derived.ChangeOld
import Derived.SizedLaws
import Derived.LaidMore
import Derived.Lay
import Derived.Stop.Joined
import Derived.Deep.Slices
import Derived.Deep.Fields
import Derived.ChangeSame
import Derived.Carry
namespace Go.Proofs.Ythajgfldjjgkiaa
open Go.ChangeShapes Go.WideShapes Go.RowKit Go.Deep

theorem planOwn : ownKnob Try.prog.godebug = none := by kernel_rfl
theorem planLaidOut : laidOutB Try.prog = true := by kernel_rfl
set_option maxRecDepth 100000
theorem add_zero' (a : Addr) : a.add 0 = a := by unfold Addr.add; split <;> simp_all
theorem plain_of {w : World} {a : Addr} {u : Value} (h : w.cell? (a.add 0) = some u) : ∃ b off, a = ⟨b, off, none⟩ ∧ b < w.heap.size := by
  rw [add_zero'] at h
  have h1 := World.cell?_spot h
  have h2 := World.block_lt_of_cell? w _ h
  obtain ⟨b, off, spot⟩ := a
  simp only at h1 h2
  subst h1
  exact ⟨b, off, rfl, h2⟩
theorem list_of {α : Type} {P : Nat → α → Prop} : ∀ n : Nat, (∀ i, i < n → ∃ x, P i x) → ∃ l : List α, l.length = n ∧ ∀ i (h : i < l.length), P i l[i]
  | 0, _ => ⟨[], rfl, fun i h => by simp at h⟩
  | n + 1, h => by
    obtain ⟨l, hl, hp⟩ := list_of n (fun i hi => h i (by omega))
    obtain ⟨x, hx⟩ := h n (by omega)
    refine ⟨l ++ [x], by simp [hl], fun i hi => ?_⟩
    by_cases hin : i < l.length
    · rw [List.getElem_append_left hin]; exact hp i hin
    · have e : i = l.length := by simp at hi; omega
      subst e
      rw [List.getElem_append_right (by omega)]
      simpa [hl] using hx
section
variable {H : Type} {enc : TypeId × Value → H} {w : World}
theorem cells3 : Try.prog.cellsOf 3 = 1 := by kernel_rfl
theorem cells22 : Try.prog.cellsOf 22 = 1 := by kernel_rfl
theorem cells46 : Try.prog.cellsOf 46 = 2 := by kernel_rfl
theorem int_of {fuel : Nat} {spare : Nat → Bool} {held : Bool} {cs : List Value} {y : DataW H × List MemPlace} (h : DataW.trod enc Try.prog w 0 spare held fuel 3 cs = some y) : ∃ z : Int, cs = [.int .i64 z] ∧ -9223372036854775808 ≤ z ∧ z ≤ 9223372036854775807 := by
  obtain ⟨z, e, _, w0⟩ := DataW.trod_int Try.underlying3 h
  refine ⟨z, e, ?_⟩
  simp [Lit.wf, IntKind.min, IntKind.max, IntKind.bits, IntKind.signed] at w0
  omega
theorem bytes3 : Try.prog.bytesOf 3 = 8 := by kernel_rfl
theorem weights_all {P : Program} {e : TypeId} : ∀ {ds : List (DataW H)} {j : Nat} {d : DataW H}, ds[j]? = some d → ∀ n ∈ d.weights P e, n ∈ DataW.weightsAll P e ds
  | [], _, _, h, _, _ => by simp at h
  | d0 :: ds, 0, d, h, n, hn => by
    simp only [List.getElem?_cons_zero, Option.some.injEq] at h
    subst h
    simp only [DataW.weightsAll, List.mem_append]
    exact Or.inl hn
  | d0 :: ds, j + 1, d, h, n, hn => by
    simp only [List.getElem?_cons_succ] at h
    simp only [DataW.weightsAll, List.mem_append]
    exact Or.inr (weights_all h n hn)
/-- Numbers that came in. -/
theorem open_ns {fuel : Nat} {spare : Nat → Bool} {held : Bool} {v : Value} {x : DataW H × List MemPlace} (h : DataW.trod enc Try.prog w 0 spare held fuel 22 [v] = some x) : ∃ l : List Int, SlI w v l ∧ (∀ z ∈ l, -9223372036854775808 ≤ z ∧ z ≤ 9223372036854775807) ∧ ((∀ n ∈ x.1.weights Try.prog 22, n ≤ reachBytes) → l.length * 8 ≤ reachBytes) := by
  rcases DataW.trod_slice Try.underlying22 h with ⟨hcs, hx⟩ | ⟨a, len, cap, elems, rest, n, _, hcs, hx, hb, hl, hm, hlen, hel, hsp, hns⟩
  · obtain rfl : v = .slice none 0 0 := by simpa using hcs
    exact ⟨[], SlAt.nil w, (fun z hz => by cases hz), fun _ => Nat.zero_le _⟩
  · obtain rfl : v = .slice (some a) len cap := by simpa using hcs
    have each : ∀ i, i < len → ∃ K : Int, w.cell? (a.add i) = some (.int .i64 K) ∧ -9223372036854775808 ≤ K ∧ K ≤ 9223372036854775807 := fun i hi => by
      have h1 := hel i hi
      rw [cells3, List.getElem?_eq_getElem (by omega)] at h1
      obtain ⟨cs', hc, ht⟩ := Option.bind_eq_some_iff.1 h1
      obtain ⟨K, rfl, hK⟩ := int_of ht
      obtain ⟨_, hcl, hat⟩ := World.cells?_some hc
      have := hat 0 (by omega)
      rw [Nat.mul_one, add_zero'] at this
      exact ⟨K, this, hK⟩
    obtain ⟨l, hk, hK⟩ := list_of len each
    subst hk
    refine ⟨l, ⟨some a, cap, rfl, hl, hm, (fun e => by cases e), ?_⟩, fun z hz => ?_, fun hw => ?_⟩
    · by_cases h0 : l = []
      · exact Or.inl (by rw [h0]; rfl)
      · right
        have hp : 0 < l.length := List.length_pos_iff.2 h0
        obtain ⟨b, off, rfl, hbl⟩ := plain_of (hK 0 hp).1
        refine ⟨b, off, rfl, hbl, fun j u hu => ?_⟩
        have hj : j < l.length := by have := (List.getElem?_eq_some_iff.1 hu).1; rw [iV_len] at this; exact this
        rw [iV_at l j hj] at hu
        injection hu with hu
        rw [← hu]
        have := (hK j hj).1
        rw [add_plain] at this
        exact this
    · obtain ⟨j, hj, rfl⟩ := List.mem_iff_getElem.1 hz
      exact (hK j hj).2
    · have := hw ((elems.length + rest.length) * 8) (by rw [hx]; simp [DataW.weights, Try.underlying22, bytes3])
      have h8 : l.length * 8 ≤ (elems.length + rest.length) * 8 := Nat.mul_le_mul_right _ (by omega)
      omega
/-- Steps that came in. -/
theorem open_ss {fuel : Nat} {spare : Nat → Bool} {held : Bool} {v : Value} {x : DataW H × List MemPlace} (h : DataW.trod enc Try.prog w 0 spare held fuel 23 [v] = some x) : ∃ ss : List Stp, StAt w v ss ∧ ∀ s ∈ ss, (-9223372036854775808 ≤ s.out ∧ s.out ≤ 9223372036854775807) ∧ (∀ z ∈ s.inn, -9223372036854775808 ≤ z ∧ z ≤ 9223372036854775807) ∧ ((∀ n ∈ x.1.weights Try.prog 23, n ≤ reachBytes) → s.inn.length * 8 ≤ reachBytes) := by
  rcases DataW.trod_slice Try.underlying23 h with ⟨hcs, hx⟩ | ⟨a, len, cap, elems, rest, n, _, hcs, hx, hb, hl, hm, hlen, hel, hsp, hns⟩
  · obtain rfl : v = .slice none 0 0 := by simpa using hcs
    exact ⟨[], ⟨fun _ => .slice none 0 0, SlAt.nil w, fun i hi => absurd hi (Nat.not_lt_zero _)⟩, fun s hs => by cases hs⟩
  · obtain rfl : v = .slice (some a) len cap := by simpa using hcs
    have each : ∀ i, i < len → ∃ K : Stp, ∃ vi, w.cell? ((a.add (i * 2)).add 0) = some vi ∧ w.cell? ((a.add (i * 2)).add 1) = some (.int .i64 K.out) ∧ SlI w vi K.inn ∧ ((-9223372036854775808 ≤ K.out ∧ K.out ≤ 9223372036854775807) ∧ (∀ z ∈ K.inn, -9223372036854775808 ≤ z ∧ z ≤ 9223372036854775807) ∧ ((∀ n ∈ x.1.weights Try.prog 23, n ≤ reachBytes) → K.inn.length * 8 ≤ reachBytes)) := fun i hi => by
      have h1 := hel i hi
      rw [cells46, List.getElem?_eq_getElem (by omega)] at h1
      obtain ⟨cs', hc, ht⟩ := Option.bind_eq_some_iff.1 h1
      obtain ⟨_, hcl, hat⟩ := World.cells?_some hc
      obtain ⟨xs, n, rfl, hx2, hl', hxl, hg⟩ := DataW.trod_struct Try.underlying46 ht
      match cs', hcl with
      | [c0, c1], _ =>
        have g0 : DataW.trod enc Try.prog w 0 _ _ n 22 (([c0, c1].drop 0).take (Try.prog.cellsOf 22)) = xs[0]? := hg 0 _ rfl
        rw [cells22, List.getElem?_eq_getElem (by rw [hxl]; decide)] at g0
        simp only [List.drop_zero, List.take_succ_cons, List.take_zero] at g0
        obtain ⟨l, hl1, hl2, hl3⟩ := open_ns g0
        have g1 : DataW.trod enc Try.prog w 0 _ _ n 3 (([c0, c1].drop 1).take (Try.prog.cellsOf 3)) = xs[1]? := hg 1 _ rfl
        rw [cells3, List.getElem?_eq_getElem (by rw [hxl]; decide)] at g1
        obtain ⟨z1, e1, hz1⟩ := int_of g1
        simp only [List.drop_zero, List.drop_succ_cons, List.take_succ_cons, List.take_zero, List.cons.injEq, and_true] at e1
        subst e1
        refine ⟨⟨l, z1⟩, c0, hat 0 (by omega), hat 1 (by omega), hl1, hz1, hl2, fun hw => hl3 fun m hm => hw m ?_⟩
        have he : (elems.map (·.1))[i]? = some (elems[i]'(by omega)).1 := by rw [List.getElem?_map, List.getElem?_eq_getElem (by omega)]; rfl
        have q := weights_all (P := Try.prog) (e := 46) he m (by
          have : (elems[i]'(by omega)).1 = .agg (xs.map (·.1)) := by rw [hx2]
          rw [this]
          simp only [DataW.weights, Try.underlying46]
          exact DataW.weights_mem_each (P := Try.prog) (ts := [22, 3]) (j := 0) rfl (by rw [List.getElem?_map, List.getElem?_eq_getElem (by rw [hxl]; decide)]; rfl) m hm)
        rw [hx]
        simp only [DataW.weights, Try.underlying23, List.mem_cons, List.mem_append]
        exact Or.inr (Or.inl q)
    obtain ⟨ss, hk, hK⟩ := list_of len each
    subst hk
    have pick : ∃ f : Nat → Value, ∀ i (hi : i < ss.length), w.cell? ((a.add (i * 2)).add 0) = some (f i) ∧ w.cell? ((a.add (i * 2)).add 1) = some (.int .i64 ss[i].out) ∧ SlI w (f i) ss[i].inn :=
      ⟨fun i => if hi : i < ss.length then (w.cell? ((a.add (i * 2)).add 0)).getD (.bool false) else .bool false, fun i hi => by
        obtain ⟨vi, h1, h2, h3, _⟩ := hK i hi
        simp only [dif_pos hi, h1, Option.getD_some]
        exact ⟨trivial, h2, h3⟩⟩
    obtain ⟨f, hf⟩ := pick
    refine ⟨ss, ⟨f, ⟨some a, cap, rfl, hl, hm, (fun e => by cases e), ?_⟩, fun i hi => (hf i hi).2.2⟩, fun s hs => ?_⟩
    · by_cases h0 : ss = []
      · exact Or.inl (by rw [h0]; rfl)
      · right
        have hp : 0 < ss.length := List.length_pos_iff.2 h0
        have c0 := (hf 0 hp).1
        rw [Nat.zero_mul, add_zero'] at c0
        obtain ⟨b, off, rfl, hbl⟩ := plain_of c0
        refine ⟨b, off, rfl, hbl, fun j u hu => ?_⟩
        have hj : j < (sV f (outs ss) ss.length).length := (List.getElem?_eq_some_iff.1 hu).1
        rw [sV_len] at hj
        obtain ⟨q, hq0⟩ : ∃ q, q = j / 2 := ⟨_, rfl⟩
        have hq : q < ss.length := by omega
        obtain ⟨a1, a2⟩ := sV_at f (outs ss) ss.length q hq
        obtain ⟨f1, f2, _⟩ := hf q hq
        rw [add_plain, add_plain] at f1 f2
        have hr : j = q * 2 ∨ j = q * 2 + 1 := by omega
        rcases hr with ej | ej
        · rw [ej, a1] at hu
          injection hu with hu
          rw [← hu, ej]
          rw [Nat.add_zero] at f1
          exact f1
        · rw [ej, a2] at hu
          injection hu with hu
          rw [← hu]
          have eo : outs ss q = ss[q].out := by simp [outs, hq]
          rw [eo, ej, ← Nat.add_assoc]
          exact f2
    · obtain ⟨j, hj, rfl⟩ := List.mem_iff_getElem.1 hs
      obtain ⟨vi, _, _, _, h4⟩ := hK j hj
      exact h4
end
end Go.Proofs.Ythajgfldjjgkiaa
