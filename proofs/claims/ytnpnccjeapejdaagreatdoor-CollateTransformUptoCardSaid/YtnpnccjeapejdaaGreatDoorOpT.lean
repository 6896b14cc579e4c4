/- Options that came in, opened: their keys and files as lists. -/
import Derived.Test.YtnpnccjeapejdaaGreatDoorRows
import Derived.Test.YtnpnccjeapejdaaGreatDoorTc
import Derived.Test.YtnpnccjeapejdaaGreatDoorLaidZ
import Derived.Deep.Slices
import Derived.Deep.Fields
import Derived.ChangeSame
import Derived.OpenShut
import Derived.SliceStrings
import Derived.SizedLaws
import Derived.ProofKit
import Derived.LaidMore
import Derived.Lay
namespace Go.Proofs.YtnpnccjeapejdaaGreatDoor
open Go.ChangeShapes Go.WideShapes Go.RowKit Go.Deep
set_option maxRecDepth 100000

theorem drOwn : ownKnob Tryz.prog.godebug = none := by kernel_rfl
theorem drOut : laidOutB Tryz.prog = true := by kernel_rfl
def tabList : List (String × DataW Unit) := [("unicode/utf8.acceptRanges", Rows.laid_unicode_utf8_acceptRanges), ("mill/numeral.months", Rows.laid_mill_numeral_months), ("mill/numeral.words", Rows.laid_mill_numeral_words), ("mill/numeral.suffixes", Rows.laid_mill_numeral_suffixes), ("mill/numeral.ranks", Rows.laid_mill_numeral_ranks), ("mill/collate.classes", Rows.laid_mill_collate_classes), ("unicode/utf8.first", Rows.laid_unicode_utf8_first)]
set_option maxRecDepth 100000 in
theorem tabs_of {W : World} (h0 : laidMetH Tryz.prog tabList W) : Tabs W := by
  rw [MakeChecks.laidMetH_plain _ _ _ (by kernel_rfl)] at h0
  have r1 := Lib.laidMet.reads h0 (n := "mill/collate.classes") (d := Rows.laid_mill_collate_classes) (by simp [tabList])
  exact block_of_reads (g := 2) (t := 117) (x := (cClasses.toList, [])) r1 (by kernel_rfl) (by kernel_rfl) (by kernel_rfl) (by kernel_rfl)
set_option maxRecDepth 100000 in
theorem tbs_of {W : World} (h : laidMetH Tryz.prog tabList W) : Tbs W := by
  have h0 := h
  rw [MakeChecks.laidMetH_plain _ _ _ (by kernel_rfl)] at h0
  have r1 := Lib.laidMet.reads h0 (n := "mill/numeral.months") (d := Rows.laid_mill_numeral_months) (by simp [tabList])
  have r2 := Lib.laidMet.reads h0 (n := "mill/numeral.words") (d := Rows.laid_mill_numeral_words) (by simp [tabList])
  have r3 := Lib.laidMet.reads h0 (n := "mill/numeral.suffixes") (d := Rows.laid_mill_numeral_suffixes) (by simp [tabList])
  have r4 := Lib.laidMet.reads h0 (n := "mill/numeral.ranks") (d := Rows.laid_mill_numeral_ranks) (by simp [tabList])
  exact ⟨tabs_of h, ⟨block_of_reads (g := 0) (t := 104) (x := (Num.cMonths.toList, [])) r1 (by kernel_rfl) (by kernel_rfl) (by kernel_rfl) (by kernel_rfl),
    block_of_reads (g := 3) (t := 126) (x := (Num.cSuffixes.toList, [])) r3 (by kernel_rfl) (by kernel_rfl) (by kernel_rfl) (by kernel_rfl),
    block_of_reads (g := 4) (t := 146) (x := (Num.cWords.toList, [])) r2 (by kernel_rfl) (by kernel_rfl) (by kernel_rfl) (by kernel_rfl),
    block_of_reads (g := 5) (t := 152) (x := (Num.cRanks.toList, [])) r4 (by kernel_rfl) (by kernel_rfl) (by kernel_rfl) (by kernel_rfl)⟩⟩
theorem list_of {α : Type} {P : Nat → α → Prop} : ∀ n : Nat, (∀ i, i < n → ∃ x, P i x) → ∃ l : List α, l.length = n ∧ ∀ i (h : i < l.length), P i l[i]
  | 0, _ => ⟨[], rfl, fun i h => by simp at h⟩
  | n + 1, h => by
    obtain ⟨l, hl, hp⟩ := list_of n (fun i hi => h i (by omega))
    obtain ⟨x, hx⟩ := h n (by omega)
    refine ⟨l ++ [x], by simp [hl], fun i hi => ?_⟩
    by_cases hin : i < l.length
    · rw [List.getElem_append_left hin]; exact hp i hin
    · have e : i = l.length := by simp at hi; omega
      subst e
      rw [List.getElem_append_right (by omega)]
      simpa [hl] using hx

section
variable {H : Type} {enc : TypeId × Value → H} {w : World} {fuel : Nat}
theorem nat_of {k : IntKind} {n : Int} (h : (Lit.int k n).wf = true) (hk : k.signed = false) : ∃ m : Nat, n = m := by
  refine ⟨n.toNat, ?_⟩
  have : k.min ≤ n := by
    have := h
    simp [Lit.wf] at this
    exact this.1
  have h0 : k.min = 0 := by simp [IntKind.min, hk]
  omega
theorem u16_top {m : Nat} (h : (Lit.int .u16 (m : Int)).wf = true) : m < 65536 := by
  simp [Lit.wf, IntKind.min, IntKind.max, IntKind.bits, IntKind.signed] at h; omega
theorem cells3 : Tryz.prog.cellsOf 3 = 1 := by kernel_rfl
theorem cells4 : Tryz.prog.cellsOf 4 = 1 := by kernel_rfl
theorem cells9 : Tryz.prog.cellsOf 9 = 1 := by kernel_rfl
theorem cells22 : Tryz.prog.cellsOf 22 = 1 := by kernel_rfl
theorem cells24 : Tryz.prog.cellsOf 24 = 1 := by kernel_rfl
theorem cells25 : Tryz.prog.cellsOf 25 = 1 := by kernel_rfl
theorem cells26 : Tryz.prog.cellsOf 26 = 1 := by kernel_rfl
theorem cells28 : Tryz.prog.cellsOf 28 = 18 := by kernel_rfl
theorem cells35 : Tryz.prog.cellsOf 54 = 6 := by kernel_rfl
theorem key_of {spare : Nat → Bool} {held : Bool} {cs : List Value} {y : DataW H × List MemPlace} (h : DataW.trod enc Tryz.prog w 0 spare held fuel 54 cs = some y) : ∃ K : KeyL, cs = kc K ∧ K.m < 65536 := by
  obtain ⟨xs, n, rfl, hx, hl, hxl, hg⟩ := DataW.trod_struct Tryz.underlying54 h
  rw [cells35] at hl
  match cs, hl with
  | [c0, c1, c2, c3, c4, c5], _ =>
    have g0 : DataW.trod enc Tryz.prog w 0 spare held n 3 (([c0, c1, c2, c3, c4, c5].drop 0).take (Tryz.prog.cellsOf 3)) = xs[0]? := hg 0 _ rfl
    rw [cells3, List.getElem?_eq_getElem (by rw [hxl]; decide)] at g0
    obtain ⟨z0, e0, _, w0⟩ := DataW.trod_int Tryz.underlying3 g0
    simp only [List.drop_zero, List.take_succ_cons, List.take_zero, List.cons.injEq, and_true] at e0
    have g1 : DataW.trod enc Tryz.prog w 0 spare held n 3 (([c0, c1, c2, c3, c4, c5].drop 1).take (Tryz.prog.cellsOf 3)) = xs[1]? := hg 1 _ rfl
    rw [cells3, List.getElem?_eq_getElem (by rw [hxl]; decide)] at g1
    obtain ⟨z1, e1, _, w1⟩ := DataW.trod_int Tryz.underlying3 g1
    simp only [List.drop_zero, List.drop_succ_cons, List.take_succ_cons, List.take_zero, List.cons.injEq, and_true] at e1
    have g2 : DataW.trod enc Tryz.prog w 0 spare held n 3 (([c0, c1, c2, c3, c4, c5].drop 2).take (Tryz.prog.cellsOf 3)) = xs[2]? := hg 2 _ rfl
    rw [cells3, List.getElem?_eq_getElem (by rw [hxl]; decide)] at g2
    obtain ⟨z2, e2, _, w2⟩ := DataW.trod_int Tryz.underlying3 g2
    simp only [List.drop_zero, List.drop_succ_cons, List.take_succ_cons, List.take_zero, List.cons.injEq, and_true] at e2
    have g3 : DataW.trod enc Tryz.prog w 0 spare held n 3 (([c0, c1, c2, c3, c4, c5].drop 3).take (Tryz.prog.cellsOf 3)) = xs[3]? := hg 3 _ rfl
    rw [cells3, List.getElem?_eq_getElem (by rw [hxl]; decide)] at g3
    obtain ⟨z3, e3, _, w3⟩ := DataW.trod_int Tryz.underlying3 g3
    simp only [List.drop_zero, List.drop_succ_cons, List.take_succ_cons, List.take_zero, List.cons.injEq, and_true] at e3
    have g4 : DataW.trod enc Tryz.prog w 0 spare held n 24 (([c0, c1, c2, c3, c4, c5].drop 4).take (Tryz.prog.cellsOf 24)) = xs[4]? := hg 4 _ rfl
    rw [cells24, List.getElem?_eq_getElem (by rw [hxl]; decide)] at g4
    obtain ⟨z4, e4, _, w4⟩ := DataW.trod_int Tryz.underlying24 g4
    simp only [List.drop_zero, List.drop_succ_cons, List.take_succ_cons, List.take_zero, List.cons.injEq, and_true] at e4
    obtain ⟨m4, rfl⟩ := nat_of w4 rfl
    have g5 : DataW.trod enc Tryz.prog w 0 spare held n 4 (([c0, c1, c2, c3, c4, c5].drop 5).take (Tryz.prog.cellsOf 4)) = xs[5]? := hg 5 _ rfl
    rw [cells4, List.getElem?_eq_getElem (by rw [hxl]; decide)] at g5
    obtain ⟨z5, e5, _⟩ := DataW.trod_bool Tryz.underlying4 g5
    simp only [List.drop_zero, List.drop_succ_cons, List.take_succ_cons, List.take_zero, List.cons.injEq, and_true] at e5
    subst e0 e1 e2 e3 e4 e5
    exact ⟨⟨z0, z1, z2, z3, m4, z5⟩, rfl, u16_top w4⟩

theorem add_zero' (a : Addr) : a.add 0 = a := by unfold Addr.add; split <;> simp_all
theorem plain_of {a : Addr} {u : Value} (h : w.cell? (a.add 0) = some u) : ∃ b off, a = ⟨b, off, none⟩ ∧ b < w.heap.size := by
  rw [add_zero'] at h
  have h1 := World.cell?_spot h
  have h2 := World.block_lt_of_cell? w _ h
  obtain ⟨b, off, spot⟩ := a
  simp only at h1 h2
  subst h1
  exact ⟨b, off, rfl, h2⟩
theorem open_keys {v : Value} {x : DataW H × List MemPlace} (h : DataW.trod enc Tryz.prog w 0 (fun _ => true) true fuel 22 [v] = some x) :
    ∃ ao c ks, v = .slice ao (List.length ks) c ∧ SlAt w w.heap.size v 6 ks.length (ksV ks) ∧ (∀ k ∈ ks, k.m < 65536) ∧ (ks = [] ∨ ∃ elems spare, x.1 = .slice elems spare ∧ elems.length = ks.length) := by
  rcases DataW.trod_slice Tryz.underlying22 h with ⟨hcs, hx⟩ | ⟨a, len, cap, elems, rest, n, _, hcs, hx, hb, hl, hm, hlen, hel, hsp, hns⟩
  · obtain rfl : v = .slice none 0 0 := by simpa using hcs
    exact ⟨none, 0, [], rfl, ⟨rfl, Or.inl ⟨Or.inl rfl, rfl⟩⟩, (fun k hk => by cases hk), Or.inl rfl⟩
  · obtain rfl : v = .slice (some a) len cap := by simpa using hcs
    rcases Nat.eq_zero_or_pos len with h0 | h0
    · subst h0
      exact ⟨some a, cap, [], rfl, ⟨rfl, Or.inl ⟨Or.inr ⟨a, cap, rfl⟩, rfl⟩⟩, (fun k hk => by cases hk), Or.inl rfl⟩
    · have each : ∀ i, i < len → ∃ K : KeyL, (∀ j u, (kc K)[j]? = some u → w.cell? ((a.add (i * 6)).add j) = some u) ∧ K.m < 65536 := fun i hi => by
        have h1 := hel i hi
        rw [cells35, List.getElem?_eq_getElem (by omega)] at h1
        obtain ⟨cs', hc, ht⟩ := Option.bind_eq_some_iff.1 h1
        obtain ⟨K, rfl, hKm⟩ := key_of ht
        obtain ⟨_, hcl, hat⟩ := World.cells?_some hc
        exact ⟨K, (fun j u hu => by
          have hj : j < 6 := (List.getElem?_eq_some_iff.1 hu).1
          rw [hat j hj]; exact hu), hKm⟩
      obtain ⟨ks, hk, hK⟩ := list_of len each
      subst hk
      have hc0 := (hK 0 h0).1 0 _ rfl
      rw [Nat.zero_mul, add_zero'] at hc0
      obtain ⟨b, off, rfl, hbl⟩ := plain_of hc0
      refine ⟨_, cap, ks, rfl, ⟨ksV_len ks, Or.inr ⟨b, off, cap, rfl, hbl, fun j u hu => ?_⟩⟩, (fun k hk => by obtain ⟨i, hi, rfl⟩ := List.getElem_of_mem hk; exact (hK i hi).2), Or.inr ⟨_, _, congrArg Prod.fst hx, by simpa using hlen⟩⟩
      have hj : j < (ksV ks).length := (List.getElem?_eq_some_iff.1 hu).1
      rw [ksV_len] at hj
      have ej : j = j / 6 * 6 + j % 6 := by omega
      have hq : j / 6 < ks.length := by omega
      have := ksV_at ks (j / 6) hq (j % 6) (by omega)
      rw [← ej, hu] at this
      have h3 := (hK (j / 6) hq).1 (j % 6) u this.symm
      rw [add_plain, add_plain, Nat.add_assoc, ← ej] at h3
      exact h3
theorem open_files {v : Value} {x : DataW H × List MemPlace} (h : DataW.trod enc Tryz.prog w 0 (fun _ => true) true fuel 26 [v] = some x) :
    ∃ ao c l, v = .slice ao (List.length l) c ∧ SlAt w w.heap.size v 1 l.length (wsV l) ∧ (l = [] ∨ ∃ elems spare, x.1 = .slice elems spare ∧ elems.length = l.length) := by
  rcases open_strings Tryz.underlying26 Tryz.underlying9 cells9 h with ⟨hcs, hx⟩ | ⟨a, len, cap, ss, hcs, _, hl, hm, hz, hx, hcell, _⟩
  · obtain rfl : v = .slice none 0 0 := by simpa using hcs
    exact ⟨none, 0, [], rfl, ⟨rfl, Or.inl ⟨Or.inl rfl, rfl⟩⟩, Or.inl rfl⟩
  · obtain rfl : v = .slice (some a) len cap := by simpa using hcs
    have hz' : ss.length = cap := by simpa using hz
    rcases Nat.eq_zero_or_pos len with h0 | h0
    · subst h0
      exact ⟨some a, cap, [], rfl, ⟨rfl, Or.inl ⟨Or.inr ⟨a, cap, rfl⟩, rfl⟩⟩, Or.inl rfl⟩
    · have hlt : (ss.take len).length = len := by simp; omega
      obtain ⟨b, off, rfl, hbl⟩ := plain_of (hcell 0 (by omega))
      refine ⟨_, cap, ss.take len, by rw [hlt], ⟨by simp [wsV], Or.inr ⟨b, off, cap, by rw [hlt], hbl, fun j u hu => ?_⟩⟩, Or.inr ⟨_, _, congrArg Prod.fst hx, by simp [strs]⟩⟩
      unfold wsV at hu
      rw [List.getElem?_map, Option.map_eq_some_iff] at hu
      obtain ⟨s, hs, rfl⟩ := hu
      have hj : j < len := by
        have := (List.getElem?_eq_some_iff.1 hs).1
        rw [hlt] at this; exact this
      have h3 := hcell j (by omega)
      rw [add_plain] at h3
      rw [h3]
      rw [List.getElem?_take, if_pos hj] at hs
      rw [List.getD_eq_getElem?_getD, hs]; rfl

theorem open_opt {base : Nat} {v : Value} {d : DataW H} {p : List MemPlace} (hv : Value.okWide Tryz.prog w .any base 28 v) (h : DataW.Trod enc Tryz.prog w 0 (fun _ => true) true 28 v d p) :
    ∃ (o : Opt) (ka : Option Addr) (kcp : Nat) (ks : List KeyL) (fa : Option Addr) (fcp : Nat) (l : List ByteArray) (parts : List (DataW H)), v = optV o (.slice ka ks.length kcp) (.slice fa l.length fcp) ∧ d = .agg parts ∧ o.mods < 65536 ∧ (∀ k ∈ ks, k.m < 65536) ∧
      SlAt w w.heap.size (.slice ka ks.length kcp) 6 ks.length (ksV ks) ∧ SlAt w w.heap.size (.slice fa l.length fcp) 1 l.length (wsV l) ∧
      (ks = [] ∨ ∃ elems spare, parts[0]? = some (.slice elems spare) ∧ elems.length = ks.length) ∧ (l = [] ∨ ∃ elems spare, parts[17]? = some (.slice elems spare) ∧ elems.length = l.length) := by
  obtain ⟨cs, rfl, hsz⟩ := okWide_struct Tryz.underlying28 hv
  obtain ⟨l⟩ := cs
  obtain ⟨fuel, hf⟩ := h
  rw [cells28] at hsz
  match l, hsz with
  | [c0, c1, c2, c3, c4, c5, c6, c7, c8, c9, c10, c11, c12, c13, c14, c15, c16, c17], _ =>
    obtain ⟨xs, n, _, hx, _, hxl, hg⟩ := DataW.trod_struct Tryz.underlying28 hf
    simp only [Prod.mk.injEq] at hx
    have g0 : DataW.trod enc Tryz.prog w 0 (fun _ => true) true n 22 (([c0, c1, c2, c3, c4, c5, c6, c7, c8, c9, c10, c11, c12, c13, c14, c15, c16, c17].drop 0).take (Tryz.prog.cellsOf 22)) = xs[0]? := hg 0 _ rfl
    rw [cells22, List.getElem?_eq_getElem (by rw [hxl]; decide)] at g0
    simp only [List.drop_zero, List.take_succ_cons, List.take_zero] at g0
    have g1 : DataW.trod enc Tryz.prog w 0 (fun _ => true) true n 24 (([c0, c1, c2, c3, c4, c5, c6, c7, c8, c9, c10, c11, c12, c13, c14, c15, c16, c17].drop 1).take (Tryz.prog.cellsOf 24)) = xs[1]? := hg 1 _ rfl
    rw [cells24, List.getElem?_eq_getElem (by rw [hxl]; decide)] at g1
    obtain ⟨z1, e1, _, w1⟩ := DataW.trod_int Tryz.underlying24 g1
    simp only [List.drop_zero, List.drop_succ_cons, List.take_succ_cons, List.take_zero, List.cons.injEq, and_true] at e1
    obtain ⟨m1, rfl⟩ := nat_of w1 rfl
    have g2 : DataW.trod enc Tryz.prog w 0 (fun _ => true) true n 3 (([c0, c1, c2, c3, c4, c5, c6, c7, c8, c9, c10, c11, c12, c13, c14, c15, c16, c17].drop 2).take (Tryz.prog.cellsOf 3)) = xs[2]? := hg 2 _ rfl
    rw [cells3, List.getElem?_eq_getElem (by rw [hxl]; decide)] at g2
    obtain ⟨z2, e2, _, w2⟩ := DataW.trod_int Tryz.underlying3 g2
    simp only [List.drop_zero, List.drop_succ_cons, List.take_succ_cons, List.take_zero, List.cons.injEq, and_true] at e2
    have g3 : DataW.trod enc Tryz.prog w 0 (fun _ => true) true n 4 (([c0, c1, c2, c3, c4, c5, c6, c7, c8, c9, c10, c11, c12, c13, c14, c15, c16, c17].drop 3).take (Tryz.prog.cellsOf 4)) = xs[3]? := hg 3 _ rfl
    rw [cells4, List.getElem?_eq_getElem (by rw [hxl]; decide)] at g3
    obtain ⟨z3, e3, _⟩ := DataW.trod_bool Tryz.underlying4 g3
    simp only [List.drop_zero, List.drop_succ_cons, List.take_succ_cons, List.take_zero, List.cons.injEq, and_true] at e3
    have g4 : DataW.trod enc Tryz.prog w 0 (fun _ => true) true n 4 (([c0, c1, c2, c3, c4, c5, c6, c7, c8, c9, c10, c11, c12, c13, c14, c15, c16, c17].drop 4).take (Tryz.prog.cellsOf 4)) = xs[4]? := hg 4 _ rfl
    rw [cells4, List.getElem?_eq_getElem (by rw [hxl]; decide)] at g4
    obtain ⟨z4, e4, _⟩ := DataW.trod_bool Tryz.underlying4 g4
    simp only [List.drop_zero, List.drop_succ_cons, List.take_succ_cons, List.take_zero, List.cons.injEq, and_true] at e4
    have g5 : DataW.trod enc Tryz.prog w 0 (fun _ => true) true n 4 (([c0, c1, c2, c3, c4, c5, c6, c7, c8, c9, c10, c11, c12, c13, c14, c15, c16, c17].drop 5).take (Tryz.prog.cellsOf 4)) = xs[5]? := hg 5 _ rfl
    rw [cells4, List.getElem?_eq_getElem (by rw [hxl]; decide)] at g5
    obtain ⟨z5, e5, _⟩ := DataW.trod_bool Tryz.underlying4 g5
    simp only [List.drop_zero, List.drop_succ_cons, List.take_succ_cons, List.take_zero, List.cons.injEq, and_true] at e5
    have g6 : DataW.trod enc Tryz.prog w 0 (fun _ => true) true n 4 (([c0, c1, c2, c3, c4, c5, c6, c7, c8, c9, c10, c11, c12, c13, c14, c15, c16, c17].drop 6).take (Tryz.prog.cellsOf 4)) = xs[6]? := hg 6 _ rfl
    rw [cells4, List.getElem?_eq_getElem (by rw [hxl]; decide)] at g6
    obtain ⟨z6, e6, _⟩ := DataW.trod_bool Tryz.underlying4 g6
    simp only [List.drop_zero, List.drop_succ_cons, List.take_succ_cons, List.take_zero, List.cons.injEq, and_true] at e6
    have g7 : DataW.trod enc Tryz.prog w 0 (fun _ => true) true n 25 (([c0, c1, c2, c3, c4, c5, c6, c7, c8, c9, c10, c11, c12, c13, c14, c15, c16, c17].drop 7).take (Tryz.prog.cellsOf 25)) = xs[7]? := hg 7 _ rfl
    rw [cells25, List.getElem?_eq_getElem (by rw [hxl]; decide)] at g7
    obtain ⟨z7, e7, _, w7⟩ := DataW.trod_int Tryz.underlying25 g7
    simp only [List.drop_zero, List.drop_succ_cons, List.take_succ_cons, List.take_zero, List.cons.injEq, and_true] at e7
    obtain ⟨m7, rfl⟩ := nat_of w7 rfl
    have g8 : DataW.trod enc Tryz.prog w 0 (fun _ => true) true n 9 (([c0, c1, c2, c3, c4, c5, c6, c7, c8, c9, c10, c11, c12, c13, c14, c15, c16, c17].drop 8).take (Tryz.prog.cellsOf 9)) = xs[8]? := hg 8 _ rfl
    rw [cells9, List.getElem?_eq_getElem (by rw [hxl]; decide)] at g8
    obtain ⟨z8, e8, _, _⟩ := DataW.trod_string Tryz.underlying9 g8
    simp only [List.drop_zero, List.drop_succ_cons, List.take_succ_cons, List.take_zero, List.cons.injEq, and_true] at e8
    have g9 : DataW.trod enc Tryz.prog w 0 (fun _ => true) true n 4 (([c0, c1, c2, c3, c4, c5, c6, c7, c8, c9, c10, c11, c12, c13, c14, c15, c16, c17].drop 9).take (Tryz.prog.cellsOf 4)) = xs[9]? := hg 9 _ rfl
    rw [cells4, List.getElem?_eq_getElem (by rw [hxl]; decide)] at g9
    obtain ⟨z9, e9, _⟩ := DataW.trod_bool Tryz.underlying4 g9
    simp only [List.drop_zero, List.drop_succ_cons, List.take_succ_cons, List.take_zero, List.cons.injEq, and_true] at e9
    have g10 : DataW.trod enc Tryz.prog w 0 (fun _ => true) true n 3 (([c0, c1, c2, c3, c4, c5, c6, c7, c8, c9, c10, c11, c12, c13, c14, c15, c16, c17].drop 10).take (Tryz.prog.cellsOf 3)) = xs[10]? := hg 10 _ rfl
    rw [cells3, List.getElem?_eq_getElem (by rw [hxl]; decide)] at g10
    obtain ⟨z10, e10, _, w10⟩ := DataW.trod_int Tryz.underlying3 g10
    simp only [List.drop_zero, List.drop_succ_cons, List.take_succ_cons, List.take_zero, List.cons.injEq, and_true] at e10
    have g11 : DataW.trod enc Tryz.prog w 0 (fun _ => true) true n 3 (([c0, c1, c2, c3, c4, c5, c6, c7, c8, c9, c10, c11, c12, c13, c14, c15, c16, c17].drop 11).take (Tryz.prog.cellsOf 3)) = xs[11]? := hg 11 _ rfl
    rw [cells3, List.getElem?_eq_getElem (by rw [hxl]; decide)] at g11
    obtain ⟨z11, e11, _, w11⟩ := DataW.trod_int Tryz.underlying3 g11
    simp only [List.drop_zero, List.drop_succ_cons, List.take_succ_cons, List.take_zero, List.cons.injEq, and_true] at e11
    have g12 : DataW.trod enc Tryz.prog w 0 (fun _ => true) true n 3 (([c0, c1, c2, c3, c4, c5, c6, c7, c8, c9, c10, c11, c12, c13, c14, c15, c16, c17].drop 12).take (Tryz.prog.cellsOf 3)) = xs[12]? := hg 12 _ rfl
    rw [cells3, List.getElem?_eq_getElem (by rw [hxl]; decide)] at g12
    obtain ⟨z12, e12, _, w12⟩ := DataW.trod_int Tryz.underlying3 g12
    simp only [List.drop_zero, List.drop_succ_cons, List.take_succ_cons, List.take_zero, List.cons.injEq, and_true] at e12
    have g13 : DataW.trod enc Tryz.prog w 0 (fun _ => true) true n 3 (([c0, c1, c2, c3, c4, c5, c6, c7, c8, c9, c10, c11, c12, c13, c14, c15, c16, c17].drop 13).take (Tryz.prog.cellsOf 3)) = xs[13]? := hg 13 _ rfl
    rw [cells3, List.getElem?_eq_getElem (by rw [hxl]; decide)] at g13
    obtain ⟨z13, e13, _, w13⟩ := DataW.trod_int Tryz.underlying3 g13
    simp only [List.drop_zero, List.drop_succ_cons, List.take_succ_cons, List.take_zero, List.cons.injEq, and_true] at e13
    have g14 : DataW.trod enc Tryz.prog w 0 (fun _ => true) true n 9 (([c0, c1, c2, c3, c4, c5, c6, c7, c8, c9, c10, c11, c12, c13, c14, c15, c16, c17].drop 14).take (Tryz.prog.cellsOf 9)) = xs[14]? := hg 14 _ rfl
    rw [cells9, List.getElem?_eq_getElem (by rw [hxl]; decide)] at g14
    obtain ⟨z14, e14, _, _⟩ := DataW.trod_string Tryz.underlying9 g14
    simp only [List.drop_zero, List.drop_succ_cons, List.take_succ_cons, List.take_zero, List.cons.injEq, and_true] at e14
    have g15 : DataW.trod enc Tryz.prog w 0 (fun _ => true) true n 4 (([c0, c1, c2, c3, c4, c5, c6, c7, c8, c9, c10, c11, c12, c13, c14, c15, c16, c17].drop 15).take (Tryz.prog.cellsOf 4)) = xs[15]? := hg 15 _ rfl
    rw [cells4, List.getElem?_eq_getElem (by rw [hxl]; decide)] at g15
    obtain ⟨z15, e15, _⟩ := DataW.trod_bool Tryz.underlying4 g15
    simp only [List.drop_zero, List.drop_succ_cons, List.take_succ_cons, List.take_zero, List.cons.injEq, and_true] at e15
    have g16 : DataW.trod enc Tryz.prog w 0 (fun _ => true) true n 9 (([c0, c1, c2, c3, c4, c5, c6, c7, c8, c9, c10, c11, c12, c13, c14, c15, c16, c17].drop 16).take (Tryz.prog.cellsOf 9)) = xs[16]? := hg 16 _ rfl
    rw [cells9, List.getElem?_eq_getElem (by rw [hxl]; decide)] at g16
    obtain ⟨z16, e16, _, _⟩ := DataW.trod_string Tryz.underlying9 g16
    simp only [List.drop_zero, List.drop_succ_cons, List.take_succ_cons, List.take_zero, List.cons.injEq, and_true] at e16
    have g17 : DataW.trod enc Tryz.prog w 0 (fun _ => true) true n 26 (([c0, c1, c2, c3, c4, c5, c6, c7, c8, c9, c10, c11, c12, c13, c14, c15, c16, c17].drop 17).take (Tryz.prog.cellsOf 26)) = xs[17]? := hg 17 _ rfl
    rw [cells26, List.getElem?_eq_getElem (by rw [hxl]; decide)] at g17
    simp only [List.drop_zero, List.drop_succ_cons, List.take_succ_cons, List.take_zero] at g17
    obtain ⟨ka, kcp, ks, rfl, hk, hkm, hkn⟩ := open_keys g0
    obtain ⟨fa, fcp, fl, rfl, hl, hln⟩ := open_files g17
    subst e1 e2 e3 e4 e5 e6 e7 e8 e9 e10 e11 e12 e13 e14 e15 e16
    refine ⟨⟨m1, z2, z3, z4, z5, z6, m7, z8, z9, z10, z11, z12, z13, z14, z15, z16⟩, ka, kcp, ks, fa, fcp, fl, xs.map (·.1), rfl, hx.1, u16_top w1, hkm, hk, hl, hkn.imp id (fun ⟨e, s, h1, h2⟩ => ⟨e, s, ?_, h2⟩), hln.imp id (fun ⟨e, s, h1, h2⟩ => ⟨e, s, ?_, h2⟩)⟩
    · rw [List.getElem?_map, List.getElem?_eq_getElem (by rw [hxl]; decide), ← h1]; rfl
    · rw [List.getElem?_map, List.getElem?_eq_getElem (by rw [hxl]; decide), ← h1]; rfl
end
end Go.Proofs.YtnpnccjeapejdaaGreatDoor
