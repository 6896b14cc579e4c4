/- Lists of lists that came in, opened. -/
import Derived.Test.YtjlcbhblpofjhaaRows
import Derived.Test.YtjlcbhblpofjhaaBulk
import Derived.Test.YtjlcbhblpofjhaaCz
import Derived.OpenShut
import Derived.ChangeOld
import Derived.Deep.Slices
import Derived.Deep.Fields
import Derived.ChangeSame
import Derived.SliceStrings
import Derived.Carry
namespace Go.Proofs.Ytjlcbhblpofjhaa
open Go.ChangeShapes Go.WideShapes Go.ChangeAt Go.RowKit Go.Deep
set_option maxRecDepth 100000
theorem list_of {α : Type} {P : Nat → α → Prop} : ∀ n : Nat, (∀ i, i < n → ∃ x, P i x) → ∃ l : List α, l.length = n ∧ ∀ i (h : i < l.length), P i l[i]
  | 0, _ => ⟨[], rfl, fun i h => by simp at h⟩
  | n + 1, h => by
    obtain ⟨l, hl, hp⟩ := list_of n (fun i hi => h i (by omega))
    obtain ⟨x, hx⟩ := h n (by omega)
    refine ⟨l ++ [x], by simp [hl], fun i hi => ?_⟩
    by_cases hin : i < l.length
    · rw [List.getElem_append_left hin]; exact hp i hin
    · have e : i = l.length := by simp at hi; omega
      subst e
      rw [List.getElem_append_right (by omega)]
      simpa [hl] using hx
section
variable {H : Type} {enc : TypeId × Value → H} {w : World}
theorem cells3 : Try.prog.cellsOf 3 = 1 := by kernel_rfl
theorem cells28 : Try.prog.cellsOf 28 = 2 := by kernel_rfl
theorem cells29 : Try.prog.cellsOf 29 = 1 := by kernel_rfl
theorem item_of {fuel : Nat} {spare : Nat → Bool} {held : Bool} {cs : List Value} {y : DataW H × List MemPlace} (h : DataW.trod enc Try.prog w 0 spare held fuel 28 cs = some y) : ∃ x : It, cs = itC x := by
  obtain ⟨xs, n, rfl, hx, hl, hxl, hg⟩ := DataW.trod_struct Try.underlying28 h
  rw [cells28] at hl
  match cs, hl with
  | [c0, c1], _ =>
    have g0 : DataW.trod enc Try.prog w 0 spare held n 3 (([c0, c1].drop 0).take (Try.prog.cellsOf 3)) = xs[0]? := hg 0 _ rfl
    rw [cells3, List.getElem?_eq_getElem (by rw [hxl]; decide)] at g0
    obtain ⟨z0, e0, _, w0⟩ := DataW.trod_int Try.underlying3 g0
    simp only [List.drop_zero, List.take_succ_cons, List.take_zero, List.cons.injEq, and_true] at e0
    have g1 : DataW.trod enc Try.prog w 0 spare held n 3 (([c0, c1].drop 1).take (Try.prog.cellsOf 3)) = xs[1]? := hg 1 _ rfl
    rw [cells3, List.getElem?_eq_getElem (by rw [hxl]; decide)] at g1
    obtain ⟨z1, e1, _, w1⟩ := DataW.trod_int Try.underlying3 g1
    simp only [List.drop_zero, List.drop_succ_cons, List.take_succ_cons, List.take_zero, List.cons.injEq, and_true] at e1
    subst e0 e1
    exact ⟨⟨z0, z1⟩, rfl⟩
theorem add_zero' (a : Addr) : a.add 0 = a := by unfold Addr.add; split <;> simp_all
theorem plain_of {a : Addr} {u : Value} (h : w.cell? (a.add 0) = some u) : ∃ b off, a = ⟨b, off, none⟩ ∧ b < w.heap.size := by
  rw [add_zero'] at h
  have h1 := World.cell?_spot h
  have h2 := World.block_lt_of_cell? w _ h
  obtain ⟨b, off, spot⟩ := a
  simp only at h1 h2
  subst h1
  exact ⟨b, off, rfl, h2⟩
theorem open_its {fuel : Nat} {v : Value} {x : DataW H × List MemPlace} (h : DataW.trod enc Try.prog w 0 (fun _ => true) true fuel 29 [v] = some x) : ∃ l : List It, ItsAt w v l ∧ l.length ≤ Rows.uptoBulk x.1 := by
  rcases DataW.trod_slice Try.underlying29 h with ⟨hcs, hx⟩ | ⟨a, len, cap, elems, rest, n, _, hcs, hx, hb, hl, hm, hlen, hel, hsp, hns⟩
  · obtain rfl : v = .slice none 0 0 := by simpa using hcs
    exact ⟨[], ⟨⟨none, 0, rfl, Nat.le_refl _, fun _ => rfl⟩, fun _ _ _ e => by cases e⟩, Nat.zero_le _⟩
  · obtain rfl : v = .slice (some a) len cap := by simpa using hcs
    have each : ∀ i, i < len → ∃ K : It, ∀ j u, (itC K)[j]? = some u → w.cell? ((a.add (i * 2)).add j) = some u := fun i hi => by
      have h1 := hel i hi
      rw [cells28, List.getElem?_eq_getElem (by omega)] at h1
      obtain ⟨cs', hc, ht⟩ := Option.bind_eq_some_iff.1 h1
      obtain ⟨K, rfl⟩ := item_of ht
      obtain ⟨_, hcl, hat⟩ := World.cells?_some hc
      exact ⟨K, fun j u hu => by
        have hj : j < 2 := (List.getElem?_eq_some_iff.1 hu).1
        rw [hat j hj]; exact hu⟩
    obtain ⟨l, hk, hK⟩ := list_of len each
    have hbk := bulks.slice_le (elems.map (·.1)) (rest.map (·.1))
    subst hk
    refine ⟨l, ⟨⟨some a, cap, rfl, hl, fun e => by cases e⟩, fun ad n c e j u hu => ?_⟩, ?_⟩
    · injection e with e1 e2 e3
      injection e1 with e1
      subst e1
      have hj : j < (itV l).length := (List.getElem?_eq_some_iff.1 hu).1
      rw [itV_len] at hj
      have h0 : 0 < l.length := by omega
      obtain ⟨b, off, rfl, hbl⟩ := plain_of (show w.cell? (a.add 0) = some (.int .i64 (l[0]).key) from by
        have := hK 0 h0 0 _ rfl
        rw [Nat.zero_mul, add_zero'] at this
        exact this)
      have ej : j = j / 2 * 2 + j % 2 := by omega
      have hq : j / 2 < l.length := by omega
      have := itV_at l (j / 2) (j % 2) (by omega) hq
      rw [← ej, hu] at this
      have h3 := hK (j / 2) hq (j % 2) u this.symm
      rw [add_plain, add_plain, Nat.add_assoc, ← ej] at h3
      rw [add_plain]
      exact h3
    · rw [hx]
      simp only [List.length_map] at hbk
      show l.length ≤ Rows.uptoBulk (.slice (elems.map (·.1)) (rest.map (·.1)))
      omega
theorem lenN_bulk (ls : List (List It)) : ∀ (ds : List (DataW H)) (k : Nat), k ≤ ds.length → (∀ i (hi : i < ds.length), (ls.getD i []).length ≤ Rows.uptoBulk ds[i]) → lenN ls k ≤ Rows.uptoBulkAll (ds.take k) := by
  intro ds k
  induction k with
  | zero => intro _ _; exact Nat.zero_le _
  | succ k ih =>
    intro hk h
    have hlt : k < ds.length := by omega
    have e : ds.take (k + 1) = ds.take k ++ [ds[k]] := by rw [List.take_succ_eq_append_getElem hlt]
    rw [e, bulks.append]
    have i1 := ih (by omega) h
    have i2 := h k hlt
    show lenN ls k + _ ≤ _
    simp only [Rows.uptoBulkAll]
    show lenN ls k + (ls.getD k []).length ≤ _
    omega
theorem open_lists {a : Option Addr} {len cap : Nat} {d : DataW H} {p : List MemPlace} (h : DataW.Trod enc Try.prog w 0 (fun _ => true) true 22 (.slice a len cap) d p) : ∃ (ls : List (List It)), len = ls.length ∧ LsAt w (.slice a ls.length cap) ls ∧ lenN ls ls.length ≤ Rows.uptoBulk d := by
  obtain ⟨fuel, hf⟩ := h
  have hf' : DataW.trod enc Try.prog w 0 (fun _ => true) true fuel 22 [.slice a len cap] = some (d, p) := hf
  rcases DataW.trod_slice Try.underlying22 hf' with ⟨hcs, hx⟩ | ⟨ad, len', cap', elems, rest, n, _, hcs, hx, hb, hl, hm, hlen, hel, hsp, hns⟩
  · injection hcs with e _
    injection e with e1 e2 e3
    subst e1 e2 e3
    exact ⟨[], rfl, ⟨⟨none, 0, rfl, fun _ => ⟨rfl, rfl⟩⟩, fun _ _ _ _ e => (by cases e), fun _ _ _ _ e => (by cases e)⟩, Nat.zero_le _⟩
  · injection hcs with e _
    injection e with e1 e2 e3
    subst e1 e2 e3
    have each : ∀ i, i < len → ∃ l : List It, ∃ vi, w.cell? ((ad.add (i * 1)).add 0) = some vi ∧ ItsAt w vi l ∧ ∀ (hi : i < elems.length), l.length ≤ Rows.uptoBulk (elems[i]).1 := fun i hi => by
      have h1 := hel i hi
      rw [cells29, List.getElem?_eq_getElem (by omega)] at h1
      obtain ⟨cs', hc, ht⟩ := Option.bind_eq_some_iff.1 h1
      obtain ⟨_, hcl, hat⟩ := World.cells?_some hc
      match cs', hcl with
      | [vi], _ =>
        obtain ⟨l, hl1, hl2⟩ := open_its ht
        exact ⟨l, vi, hat 0 (by omega), hl1, fun _ => hl2⟩
    obtain ⟨ls, hk, hK⟩ := list_of len each
    subst hk
    have hbk := bulks.slice_elems (elems.map (·.1)) (rest.map (·.1))
    refine ⟨ls, rfl, ⟨⟨some ad, cap, rfl, fun e => by cases e⟩, fun b off n' c e i hi => ?_, fun ad' n' c hne e => ?_⟩, ?_⟩
    · injection e with e1 e2 e3
      injection e1 with e1
      subst e1
      obtain ⟨vi, h1, h2, _⟩ := hK i hi
      rw [Nat.mul_one, add_zero', add_plain] at h1
      exact ⟨World.block_lt_of_cell? w _ h1, vi, h1, h2⟩
    · injection e with e1 e2 e3
      injection e1 with e1
      subst e1
      have h0 : 0 < ls.length := List.length_pos_iff.2 hne
      obtain ⟨vi, h1, _⟩ := hK 0 h0
      rw [Nat.zero_mul, add_zero', add_zero'] at h1
      exact World.cell?_spot h1
    · have hd : d = .slice (elems.map (·.1)) (rest.map (·.1)) := congrArg Prod.fst hx
      rw [hd]
      have hlm : (elems.map (·.1)).length = ls.length := by rw [List.length_map]; exact hlen
      have q := lenN_bulk ls (elems.map (·.1)) ls.length (by omega) (fun i hi => by
        have hi2 : i < elems.length := by rw [List.length_map] at hi; exact hi
        have hi3 : i < ls.length := by omega
        obtain ⟨vi, _, _, hq⟩ := hK i hi3
        rw [List.getD_eq_getElem?_getD, List.getElem?_eq_getElem hi3, List.getElem_map]
        exact hq hi2)
      rw [← hlm, List.take_length, hlm] at q
      omega
end
end Go.Proofs.Ytjlcbhblpofjhaa
