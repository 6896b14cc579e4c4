/- Entries and lists of entries that came in, of a bounded bulk. -/
import Derived.Test.YtlbekgcfafofdaaDoorOp
import Derived.Test.YtlbekgcfafofdaaDoorBulk
import Derived.Test.YtlbekgcfafofdaaDoorTd
namespace Go.Proofs.YtlbekgcfafofdaaDoor
open Go.ChangeShapes Go.WideShapes Go.ChangeAt Go.RowKit
set_option maxRecDepth 100000
section
variable {H : Type} {enc : TypeId × Value → H} {w : World}
/-- Numbers that came in. -/
theorem open_nsB {fuel : Nat} {spare : Nat → Bool} {held : Bool} {v : Value} {x : DataW H × List MemPlace} (h : DataW.trod enc Tryd.prog w 0 spare held fuel 25 [v] = some x) : ∃ l : List Int, SlI w v l ∧ (∀ z ∈ l, -9223372036854775808 ≤ z ∧ z ≤ 9223372036854775807) ∧ l.length ≤ Rows.uptoBulk x.1 := by
  rcases DataW.trod_slice Tryd.underlying25 h with ⟨hcs, hx⟩ | ⟨a, len, cap, elems, rest, n, _, hcs, hx, hb, hl, hm, hlen, hel, hsp, hns⟩
  · obtain rfl : v = .slice none 0 0 := by simpa using hcs
    exact ⟨[], SlAt.nil w, (fun z hz => by cases hz), Nat.zero_le _⟩
  · obtain rfl : v = .slice (some a) len cap := by simpa using hcs
    have each : ∀ i, i < len → ∃ K : Int, w.cell? (a.add i) = some (.int .i64 K) ∧ -9223372036854775808 ≤ K ∧ K ≤ 9223372036854775807 := fun i hi => by
      have h1 := hel i hi
      rw [cells3, List.getElem?_eq_getElem (by omega)] at h1
      obtain ⟨cs', hc, ht⟩ := Option.bind_eq_some_iff.1 h1
      obtain ⟨K, rfl, hK⟩ := int_of ht
      obtain ⟨_, hcl, hat⟩ := World.cells?_some hc
      have := hat 0 (by omega)
      rw [Nat.mul_one, add_zero'] at this
      exact ⟨K, this, hK⟩
    obtain ⟨l, hk, hK⟩ := list_of len each
    subst hk
    refine ⟨l, ⟨some a, cap, rfl, hl, hm, (fun e => by cases e), ?_⟩, fun z hz => ?_, ?_⟩
    · by_cases h0 : l = []
      · exact Or.inl (by rw [h0]; rfl)
      · right
        have hp : 0 < l.length := List.length_pos_iff.2 h0
        obtain ⟨b, off, rfl, hbl⟩ := plain_of (hK 0 hp).1
        refine ⟨b, off, rfl, hbl, fun j u hu => ?_⟩
        have hj : j < l.length := by have := (List.getElem?_eq_some_iff.1 hu).1; rw [iV_len] at this; exact this
        rw [iV_at l j hj] at hu
        injection hu with hu
        rw [← hu]
        have := (hK j hj).1
        rw [add_plain] at this
        exact this
    · obtain ⟨j, hj, rfl⟩ := List.mem_iff_getElem.1 hz
      exact (hK j hj).2
    · rw [hx]
      have := bulks.length_le (elems.map (·.1))
      rw [List.length_map] at this
      simp only [Rows.uptoBulk]
      omega
/-- An entry that came in. -/
theorem open_entB {fuel : Nat} {spare : Nat → Bool} {held : Bool} {cs : List Value} {x : DataW H × List MemPlace} (h : DataW.trod enc Tryd.prog w 0 spare held fuel 27 cs = some x) :
    ∃ (e : Ent) (u : Value), cs = [.int .u8 (e.k : Int), .int .u64 (e.pr : Int), .string (bs e.nm), .int .i64 e.ru, .int .i64 e.re, .int .i64 e.li, .int .u32 (e.su : Int), u] ∧ SlI w u e.inn ∧ (Rows.uptoBulk x.1 ≤ 1048576 → EntIs e) := by
  obtain ⟨xs, n, rfl, hx, hl, hxl, hg⟩ := DataW.trod_struct Tryd.underlying27 h
  rw [cells27] at hl
  match cs, hl with
  | [c0, c1, c2, c3, c4, c5, c6, c7], _ =>
    have hxl8 : xs.length = 8 := hxl
    have g0 : DataW.trod enc Tryd.prog w 0 spare held n 22 (([c0, c1, c2, c3, c4, c5, c6, c7].drop 0).take (Tryd.prog.cellsOf 22)) = xs[0]? := hg 0 _ rfl
    rw [cells22, List.getElem?_eq_getElem (by omega)] at g0
    obtain ⟨z0, e0, y0, w0⟩ := DataW.trod_int Tryd.underlying22 g0
    have g1 : DataW.trod enc Tryd.prog w 0 spare held n 23 (([c0, c1, c2, c3, c4, c5, c6, c7].drop 1).take (Tryd.prog.cellsOf 23)) = xs[1]? := hg 1 _ rfl
    rw [cells23, List.getElem?_eq_getElem (by omega)] at g1
    obtain ⟨z1, e1, y1, w1⟩ := DataW.trod_int Tryd.underlying23 g1
    have g2 : DataW.trod enc Tryd.prog w 0 spare held n 9 (([c0, c1, c2, c3, c4, c5, c6, c7].drop 2).take (Tryd.prog.cellsOf 9)) = xs[2]? := hg 2 _ rfl
    rw [cells9, List.getElem?_eq_getElem (by omega)] at g2
    obtain ⟨z2, e2, y2, w2⟩ := DataW.trod_string Tryd.underlying9 g2
    have g3 : DataW.trod enc Tryd.prog w 0 spare held n 3 (([c0, c1, c2, c3, c4, c5, c6, c7].drop 3).take (Tryd.prog.cellsOf 3)) = xs[3]? := hg 3 _ rfl
    rw [cells3, List.getElem?_eq_getElem (by omega)] at g3
    obtain ⟨z3, e3, y3, w3⟩ := DataW.trod_int Tryd.underlying3 g3
    have g4 : DataW.trod enc Tryd.prog w 0 spare held n 3 (([c0, c1, c2, c3, c4, c5, c6, c7].drop 4).take (Tryd.prog.cellsOf 3)) = xs[4]? := hg 4 _ rfl
    rw [cells3, List.getElem?_eq_getElem (by omega)] at g4
    obtain ⟨z4, e4, y4, w4⟩ := DataW.trod_int Tryd.underlying3 g4
    have g5 : DataW.trod enc Tryd.prog w 0 spare held n 3 (([c0, c1, c2, c3, c4, c5, c6, c7].drop 5).take (Tryd.prog.cellsOf 3)) = xs[5]? := hg 5 _ rfl
    rw [cells3, List.getElem?_eq_getElem (by omega)] at g5
    obtain ⟨z5, e5, y5, w5⟩ := DataW.trod_int Tryd.underlying3 g5
    have g6 : DataW.trod enc Tryd.prog w 0 spare held n 24 (([c0, c1, c2, c3, c4, c5, c6, c7].drop 6).take (Tryd.prog.cellsOf 24)) = xs[6]? := hg 6 _ rfl
    rw [cells24, List.getElem?_eq_getElem (by omega)] at g6
    obtain ⟨z6, e6, y6, w6⟩ := DataW.trod_int Tryd.underlying24 g6
    have g7 : DataW.trod enc Tryd.prog w 0 spare held n 25 (([c0, c1, c2, c3, c4, c5, c6, c7].drop 7).take (Tryd.prog.cellsOf 25)) = xs[7]? := hg 7 _ rfl
    rw [cells25, List.getElem?_eq_getElem (by omega)] at g7
    simp only [List.drop_zero, List.drop_succ_cons, List.take_succ_cons, List.take_zero, List.cons.injEq, and_true] at e0 e1 e2 e3 e4 e5 e6 g7
    obtain ⟨l, hl1, hl2, hl3⟩ := open_nsB g7
    have b0 := byte_wf' w0
    have b1 := u64_of w1
    have b6 := u32_of w6
    obtain ⟨m0, rfl⟩ : ∃ m : Nat, z0 = m := ⟨z0.toNat, by omega⟩
    obtain ⟨m1, rfl⟩ : ∃ m : Nat, z1 = m := ⟨z1.toNat, by omega⟩
    obtain ⟨m6, rfl⟩ : ∃ m : Nat, z6 = m := ⟨z6.toNat, by omega⟩
    subst e0 e1 e2 e3 e4 e5 e6
    refine ⟨⟨m0, m1, z2.data.toList, z3, z4, z5, m6, l⟩, c7, by rw [bs_of], hl1, fun hw => ?_⟩
    have hp : ∀ (j : Nat) (hj : j < xs.length), Rows.uptoBulk (xs[j]'hj).1 ≤ 1048576 := fun j hj => by
      have h1 := bulks.part_le (show (xs[j]'hj).1 ∈ xs.map (·.1) from List.mem_map.2 ⟨_, List.getElem_mem hj, rfl⟩)
      have h2 : Rows.uptoBulkAll (xs.map (·.1)) ≤ Rows.uptoBulk x.1 := by rw [hx]; simp only [Rows.uptoBulk]; omega
      omega
    have i3 := i64_of w3
    have i4 := i64_of w4
    have i5 := i64_of w5
    refine ⟨by show m0 < 256; omega, by show m1 < 18446744073709551616; omega, ?_, i3, i4, i5, by show m6 < 4294967296; omega, ?_, hl2⟩
    · have h2 := hp 2 (by omega)
      rw [y2, bulks.string_eq] at h2
      show z2.data.toList.length ≤ _
      omega
    · have h7 := hp 7 (by omega)
      show l.length ≤ _
      omega
/-- A list of entries that came in. -/
theorem open_es {fuel : Nat} {spare : Nat → Bool} {held : Bool} {v : Value} {x : DataW H × List MemPlace} (h : DataW.trod enc Tryd.prog w 0 spare held fuel 39 [v] = some x) : ∃ l : List Ent, EsAt w v l ∧ (Rows.uptoBulk x.1 ≤ 1048576 → ∀ e ∈ l, EntIs e) := by
  rcases DataW.trod_slice Tryd.underlying39 h with ⟨hcs, hx⟩ | ⟨a, len, cap, elems, rest, n, _, hcs, hx, hb, hl, hm, hlen, hel, hsp, hns⟩
  · obtain rfl : v = .slice none 0 0 := by simpa using hcs
    exact ⟨[], ⟨none, 0, rfl, Nat.le_refl _, by omega, Or.inl rfl⟩, fun _ e he => by cases he⟩
  · obtain rfl : v = .slice (some a) len cap := by simpa using hcs
    have each : ∀ i, i < len → ∃ e : Ent, ∃ u, (∀ j x, (entV e u)[j]? = some x → w.cell? ((a.add (i * 8)).add j) = some x) ∧ SlI w u e.inn ∧ (Rows.uptoBulk x.1 ≤ 1048576 → EntIs e) := by
      intro i hi
      have h1 := hel i hi
      rw [cells27, List.getElem?_eq_getElem (by omega)] at h1
      obtain ⟨cs', hc, ht⟩ := Option.bind_eq_some_iff.1 h1
      obtain ⟨_, hcl, hat⟩ := World.cells?_some hc
      obtain ⟨e, u, hcs', hs, hE⟩ := open_entB ht
      refine ⟨e, u, fun j y hy => ?_, hs, fun hw => hE ?_⟩
      · have hj : j < 8 := by have := (List.getElem?_eq_some_iff.1 hy).1; simpa [entV] using this
        rw [hat j (by simpa [cells27] using hj), hcs']
        exact hy
      · have h2 := bulks.part_le (show (elems[i]'(by omega)).1 ∈ elems.map (·.1) from List.mem_map.2 ⟨_, List.getElem_mem _, rfl⟩)
        rw [hx] at hw
        simp only [Rows.uptoBulk] at hw
        omega
    obtain ⟨l, hk, hK⟩ := list_of len each
    subst hk
    refine ⟨l, ⟨some a, cap, rfl, hl, hm, ?_⟩, fun hw e he => ?_⟩
    · by_cases h0 : l = []
      · exact Or.inl h0
      · right
        have hp : 0 < l.length := List.length_pos_iff.2 h0
        obtain ⟨u0, hu0, _, _⟩ := hK 0 hp
        have c0 := hu0 0 _ rfl
        rw [Nat.zero_mul, add_zero', add_zero'] at c0
        obtain ⟨b, off, rfl, hbl⟩ := plain_of c0
        refine ⟨b, off, rfl, hbl, fun i e he => ?_⟩
        obtain ⟨hi, rfl⟩ := List.getElem?_eq_some_iff.1 he
        obtain ⟨u, hu, hs, _⟩ := hK i hi
        refine ⟨u, fun j y hy => ?_, hs⟩
        have := hu j y hy
        rw [add_plain, add_plain] at this
        rw [Nat.mul_comm 8 i]
        exact this
    · obtain ⟨i, hi, rfl⟩ := List.mem_iff_getElem.1 he
      obtain ⟨u, _, _, hE⟩ := hK i hi
      exact hE hw
end
end Go.Proofs.YtlbekgcfafofdaaDoor
