/- What came in, opened; what the rows' listed tables say of the memory. -/
import Derived.Test.YtlbekgcfafofdaaDoorRows
import Derived.Test.YtlbekgcfafofdaaDoorLw
import Derived.Test.YtlbekgcfafofdaaDoorLaid
import Derived.ProofKit
import Derived.OpenShut
import Derived.ChangeOld
import Derived.SizedLaws
import Derived.LaidMore
import Derived.Lay
import Derived.Stop.Joined
import Derived.Deep.Slices
import Derived.Deep.Fields
import Derived.ChangeSame
import Derived.Carry
namespace Go.Proofs.YtlbekgcfafofdaaDoor
open Go.ChangeShapes Go.WideShapes Go.ChangeAt Go.RowKit Go.Deep
set_option maxRecDepth 100000

theorem drOwn : ownKnob Tryd.prog.godebug = none := by kernel_rfl
theorem drOut : laidOutB Tryd.prog = true := by kernel_rfl
def tabList : List (String × DataW Unit) := [("mill/squeeze.sumSteps", Rows.laid_mill_squeeze_sumSteps), ("mill/temps.uses", Rows.laid_mill_temps_uses)]
theorem tabs_of {W : World} (h0 : laidMetH Tryd.prog tabList W) : Tabs W := by
  rw [MakeChecks.laidMetH_plain _ _ _ (by kernel_rfl)] at h0
  have r1 := Lib.laidMet.reads h0 (n := "mill/squeeze.sumSteps") (d := Rows.laid_mill_squeeze_sumSteps) (by simp [tabList])
  have r2 := Lib.laidMet.reads h0 (n := "mill/temps.uses") (d := Rows.laid_mill_temps_uses) (by simp [tabList])
  exact ⟨block_of_reads (g := 1) (t := 80) (x := (cSteps.toList, [])) r1 (by kernel_rfl) (by kernel_rfl) (by kernel_rfl) (by kernel_rfl),
    block_of_reads (g := 0) (t := 64) (x := (cUses.toList, [])) r2 (by kernel_rfl) (by kernel_rfl) (by kernel_rfl) (by kernel_rfl)⟩
theorem byte_wf' {z : Int} (h : (Lit.int .u8 z).wf = true) : 0 ≤ z ∧ z < 256 := by
  simp [Lit.wf, IntKind.min, IntKind.max, IntKind.bits, IntKind.signed] at h; omega
def u8s (zs : List Int) : List UInt8 := zs.map fun z => UInt8.ofNat z.toNat
/-- A slice of bytes that came in. -/
theorem open_by {H : Type} {enc : TypeId × Value → H} {W : World} {sp : Nat → Bool} {v : Value} {d : DataW H} {p : List MemPlace} (hv : Value.okWide Tryd.prog W .any 0 29 v) (h : DataW.Trod enc Tryd.prog W 0 sp true 29 v d p) :
    ∃ (l : List UInt8) (a : Option Addr) (c : Nat), v = .slice a l.length c ∧ SlB W (.slice a l.length c) l ∧ l.length ≤ c ∧ c ≤ 9223372036854775807 ∧ (l = [] ∨ ∃ elems spare, d = .slice elems spare ∧ l.length ≤ elems.length) := by
  obtain ⟨a, len, cap, rfl⟩ := okWide_slice Tryd.underlying29 hv
  obtain ⟨fuel, hf⟩ := h
  rcases open_ints Tryd.underlying29 Tryd.underlying5 (by kernel_rfl) hf with ⟨hcs, _⟩ | ⟨x, l, c, zs, hcs, hbb, hl, hm, hz, hx, hcell, hwf⟩
  · simp [Value.cells] at hcs
    obtain ⟨rfl, rfl, rfl⟩ := hcs
    exact ⟨[], none, 0, rfl, SlB.nil W, Nat.le_refl _, by omega, .inl rfl⟩
  · simp [Value.cells] at hcs
    obtain ⟨rfl, rfl, rfl⟩ := hcs
    have hd0 := congrArg Prod.fst hx
    simp only at hd0
    have hzl : len ≤ zs.length := by rw [hz]; split <;> omega
    have e : (u8s (zs.take len)).length = len := by simp [u8s]; omega
    refine ⟨u8s (zs.take len), some x, cap, by rw [e], ?_, by rw [e]; exact hl, hm, ?_⟩
    · refine ⟨some x, cap, rfl, (fun h => by cases h), ?_⟩
      rcases Nat.eq_zero_or_pos len with h0 | h0
      · left; exact List.eq_nil_of_length_eq_zero (by rw [e, h0])
      · right
        obtain ⟨pb, po, spot⟩ := x
        have hc0 := hcell 0 (by omega)
        have hspot : spot = none := by simpa [Addr.add] using World.cell?_spot hc0
        subst hspot
        have hlt : pb < W.heap.size := by
          rcases Nat.lt_or_ge pb W.heap.size with h' | h'
          · exact h'
          · rw [add_plain] at hc0
            unfold World.cell? at hc0
            simp only [Array.getElem?_eq_none h'] at hc0
            cases hc0
        refine ⟨pb, po, rfl, hlt, fun j u hu => ?_⟩
        have hj : j < len := by have := (List.getElem?_eq_some_iff.1 hu).1; rw [e] at this; exact this
        have hcj := hcell j (by omega)
        rw [add_plain] at hcj
        rw [hcj]
        have hzj : zs[j]? = some (zs[j]'(by omega)) := List.getElem?_eq_getElem (by omega)
        have hu' : u = UInt8.ofNat (zs[j]'(by omega)).toNat := by
          unfold u8s at hu
          rw [List.getElem?_map, List.getElem?_take, if_pos hj, hzj] at hu
          injection hu with hu; exact hu.symm
        have hb := byte_wf' (hwf (zs[j]'(by omega)) (List.getElem_mem _))
        rw [hu', List.getD_eq_getElem?_getD, hzj, UInt8.toNat_ofNat']
        have e2 : (some (zs[j]'(by omega))).getD 0 = zs[j]'(by omega) := rfl
        rw [e2]
        have hq : ((zs[j]'(by omega)).toNat % 2 ^ 8 : Nat) = (zs[j]'(by omega)).toNat := Nat.mod_eq_of_lt (by omega)
        rw [hq, Int.toNat_of_nonneg hb.1]
    · right
      refine ⟨_, _, hd0, ?_⟩
      rw [e]
      simp [Go.ChangeShapes.lits]; omega
theorem small_by {H : Type} {ts : List TypeId} {ds : List (DataW H)} {j : Nat} {l : List UInt8} {d : DataW H} (h : (DataW.weightsEach Tryd.prog ts ds).all (· ≤ reachBytes) = true) (ht : ts[j]? = some 29) (hd : ds[j]? = some d)
    (hl : l = [] ∨ ∃ elems spare, d = .slice elems spare ∧ l.length ≤ elems.length) : l.length ≤ 140737488351232 := by
  rcases hl with rfl | ⟨e, s, rfl, h2⟩
  · simp
  · have := sized_slice h ht hd Tryd.underlying29
    rw [show Tryd.prog.bytesOf 5 = 1 by kernel_rfl, Nat.add_mul] at this
    unfold reachBytes at this
    omega
theorem add_zero' (a : Addr) : a.add 0 = a := by unfold Addr.add; split <;> simp_all
theorem plain_of {w : World} {a : Addr} {u : Value} (h : w.cell? (a.add 0) = some u) : ∃ b off, a = ⟨b, off, none⟩ ∧ b < w.heap.size := by
  rw [add_zero'] at h
  have h1 := World.cell?_spot h
  have h2 := World.block_lt_of_cell? w _ h
  obtain ⟨b, off, spot⟩ := a
  simp only at h1 h2
  subst h1
  exact ⟨b, off, rfl, h2⟩
theorem list_of {α : Type} {P : Nat → α → Prop} : ∀ n : Nat, (∀ i, i < n → ∃ x, P i x) → ∃ l : List α, l.length = n ∧ ∀ i (h : i < l.length), P i l[i]
  | 0, _ => ⟨[], rfl, fun i h => by simp at h⟩
  | n + 1, h => by
    obtain ⟨l, hl, hp⟩ := list_of n (fun i hi => h i (by omega))
    obtain ⟨x, hx⟩ := h n (by omega)
    refine ⟨l ++ [x], by simp [hl], fun i hi => ?_⟩
    by_cases hin : i < l.length
    · rw [List.getElem_append_left hin]; exact hp i hin
    · have e : i = l.length := by simp at hi; omega
      subst e
      rw [List.getElem_append_right (by omega)]
      simpa [hl] using hx
section
variable {H : Type} {enc : TypeId × Value → H} {w : World}
theorem cells3 : Tryd.prog.cellsOf 3 = 1 := by kernel_rfl
theorem cells25 : Tryd.prog.cellsOf 25 = 1 := by kernel_rfl
theorem int_of {fuel : Nat} {spare : Nat → Bool} {held : Bool} {cs : List Value} {y : DataW H × List MemPlace} (h : DataW.trod enc Tryd.prog w 0 spare held fuel 3 cs = some y) : ∃ z : Int, cs = [.int .i64 z] ∧ -9223372036854775808 ≤ z ∧ z ≤ 9223372036854775807 := by
  obtain ⟨z, e, _, w0⟩ := DataW.trod_int Tryd.underlying3 h
  refine ⟨z, e, ?_⟩
  simp [Lit.wf, IntKind.min, IntKind.max, IntKind.bits, IntKind.signed] at w0
  omega
theorem bytes3 : Tryd.prog.bytesOf 3 = 8 := by kernel_rfl
theorem weights_all {P : Program} {e : TypeId} : ∀ {ds : List (DataW H)} {j : Nat} {d : DataW H}, ds[j]? = some d → ∀ n ∈ d.weights P e, n ∈ DataW.weightsAll P e ds
  | [], _, _, h, _, _ => by simp at h
  | d0 :: ds, 0, d, h, n, hn => by
    simp only [List.getElem?_cons_zero, Option.some.injEq] at h
    subst h
    simp only [DataW.weightsAll, List.mem_append]
    exact Or.inl hn
  | d0 :: ds, j + 1, d, h, n, hn => by
    simp only [List.getElem?_cons_succ] at h
    simp only [DataW.weightsAll, List.mem_append]
    exact Or.inr (weights_all h n hn)
/-- Numbers that came in. -/
theorem open_ns {fuel : Nat} {spare : Nat → Bool} {held : Bool} {v : Value} {x : DataW H × List MemPlace} (h : DataW.trod enc Tryd.prog w 0 spare held fuel 25 [v] = some x) : ∃ l : List Int, SlI w v l ∧ (∀ z ∈ l, -9223372036854775808 ≤ z ∧ z ≤ 9223372036854775807) ∧ ((∀ n ∈ x.1.weights Tryd.prog 25, n ≤ reachBytes) → l.length * 8 ≤ reachBytes) := by
  rcases DataW.trod_slice Tryd.underlying25 h with ⟨hcs, hx⟩ | ⟨a, len, cap, elems, rest, n, _, hcs, hx, hb, hl, hm, hlen, hel, hsp, hns⟩
  · obtain rfl : v = .slice none 0 0 := by simpa using hcs
    exact ⟨[], SlAt.nil w, (fun z hz => by cases hz), fun _ => Nat.zero_le _⟩
  · obtain rfl : v = .slice (some a) len cap := by simpa using hcs
    have each : ∀ i, i < len → ∃ K : Int, w.cell? (a.add i) = some (.int .i64 K) ∧ -9223372036854775808 ≤ K ∧ K ≤ 9223372036854775807 := fun i hi => by
      have h1 := hel i hi
      rw [cells3, List.getElem?_eq_getElem (by omega)] at h1
      obtain ⟨cs', hc, ht⟩ := Option.bind_eq_some_iff.1 h1
      obtain ⟨K, rfl, hK⟩ := int_of ht
      obtain ⟨_, hcl, hat⟩ := World.cells?_some hc
      have := hat 0 (by omega)
      rw [Nat.mul_one, add_zero'] at this
      exact ⟨K, this, hK⟩
    obtain ⟨l, hk, hK⟩ := list_of len each
    subst hk
    refine ⟨l, ⟨some a, cap, rfl, hl, hm, (fun e => by cases e), ?_⟩, fun z hz => ?_, fun hw => ?_⟩
    · by_cases h0 : l = []
      · exact Or.inl (by rw [h0]; rfl)
      · right
        have hp : 0 < l.length := List.length_pos_iff.2 h0
        obtain ⟨b, off, rfl, hbl⟩ := plain_of (hK 0 hp).1
        refine ⟨b, off, rfl, hbl, fun j u hu => ?_⟩
        have hj : j < l.length := by have := (List.getElem?_eq_some_iff.1 hu).1; rw [iV_len] at this; exact this
        rw [iV_at l j hj] at hu
        injection hu with hu
        rw [← hu]
        have := (hK j hj).1
        rw [add_plain] at this
        exact this
    · obtain ⟨j, hj, rfl⟩ := List.mem_iff_getElem.1 hz
      exact (hK j hj).2
    · have := hw ((elems.length + rest.length) * 8) (by rw [hx]; simp [DataW.weights, Tryd.underlying25, bytes3])
      have h8 : l.length * 8 ≤ (elems.length + rest.length) * 8 := Nat.mul_le_mul_right _ (by omega)
      omega
theorem cells27 : Tryd.prog.cellsOf 27 = 8 := by kernel_rfl
theorem cells22 : Tryd.prog.cellsOf 22 = 1 := by kernel_rfl
theorem cells23 : Tryd.prog.cellsOf 23 = 1 := by kernel_rfl
theorem cells9 : Tryd.prog.cellsOf 9 = 1 := by kernel_rfl
theorem cells24 : Tryd.prog.cellsOf 24 = 1 := by kernel_rfl
theorem i64_of {z : Int} (h : (Lit.int .i64 z).wf = true) : -9223372036854775808 ≤ z ∧ z ≤ 9223372036854775807 := by simp [Lit.wf, IntKind.min, IntKind.max, IntKind.bits, IntKind.signed] at h; omega
theorem u64_of {z : Int} (h : (Lit.int .u64 z).wf = true) : 0 ≤ z ∧ z < 18446744073709551616 := by simp [Lit.wf, IntKind.min, IntKind.max, IntKind.bits, IntKind.signed] at h; omega
theorem u32_of {z : Int} (h : (Lit.int .u32 z).wf = true) : 0 ≤ z ∧ z < 4294967296 := by simp [Lit.wf, IntKind.min, IntKind.max, IntKind.bits, IntKind.signed] at h; omega
/-- An entry that came in. -/
theorem open_ent {fuel : Nat} {spare : Nat → Bool} {held : Bool} {cs : List Value} {x : DataW H × List MemPlace} (h : DataW.trod enc Tryd.prog w 0 spare held fuel 27 cs = some x) :
    ∃ (e : Ent) (u : Value), cs = [.int .u8 (e.k : Int), .int .u64 (e.pr : Int), .string (bs e.nm), .int .i64 e.ru, .int .i64 e.re, .int .i64 e.li, .int .u32 (e.su : Int), u] ∧ SlI w u e.inn ∧ ((∀ n ∈ x.1.weights Tryd.prog 27, n ≤ reachBytes) → EntIs e) := by
  obtain ⟨xs, n, rfl, hx, hl, hxl, hg⟩ := DataW.trod_struct Tryd.underlying27 h
  rw [cells27] at hl
  match cs, hl with
  | [c0, c1, c2, c3, c4, c5, c6, c7], _ =>
    have hxl8 : xs.length = 8 := hxl
    have g0 : DataW.trod enc Tryd.prog w 0 spare held n 22 (([c0, c1, c2, c3, c4, c5, c6, c7].drop 0).take (Tryd.prog.cellsOf 22)) = xs[0]? := hg 0 _ rfl
    rw [cells22, List.getElem?_eq_getElem (by omega)] at g0
    obtain ⟨z0, e0, y0, w0⟩ := DataW.trod_int Tryd.underlying22 g0
    have g1 : DataW.trod enc Tryd.prog w 0 spare held n 23 (([c0, c1, c2, c3, c4, c5, c6, c7].drop 1).take (Tryd.prog.cellsOf 23)) = xs[1]? := hg 1 _ rfl
    rw [cells23, List.getElem?_eq_getElem (by omega)] at g1
    obtain ⟨z1, e1, y1, w1⟩ := DataW.trod_int Tryd.underlying23 g1
    have g2 : DataW.trod enc Tryd.prog w 0 spare held n 9 (([c0, c1, c2, c3, c4, c5, c6, c7].drop 2).take (Tryd.prog.cellsOf 9)) = xs[2]? := hg 2 _ rfl
    rw [cells9, List.getElem?_eq_getElem (by omega)] at g2
    obtain ⟨z2, e2, y2, w2⟩ := DataW.trod_string Tryd.underlying9 g2
    have g3 : DataW.trod enc Tryd.prog w 0 spare held n 3 (([c0, c1, c2, c3, c4, c5, c6, c7].drop 3).take (Tryd.prog.cellsOf 3)) = xs[3]? := hg 3 _ rfl
    rw [cells3, List.getElem?_eq_getElem (by omega)] at g3
    obtain ⟨z3, e3, y3, w3⟩ := DataW.trod_int Tryd.underlying3 g3
    have g4 : DataW.trod enc Tryd.prog w 0 spare held n 3 (([c0, c1, c2, c3, c4, c5, c6, c7].drop 4).take (Tryd.prog.cellsOf 3)) = xs[4]? := hg 4 _ rfl
    rw [cells3, List.getElem?_eq_getElem (by omega)] at g4
    obtain ⟨z4, e4, y4, w4⟩ := DataW.trod_int Tryd.underlying3 g4
    have g5 : DataW.trod enc Tryd.prog w 0 spare held n 3 (([c0, c1, c2, c3, c4, c5, c6, c7].drop 5).take (Tryd.prog.cellsOf 3)) = xs[5]? := hg 5 _ rfl
    rw [cells3, List.getElem?_eq_getElem (by omega)] at g5
    obtain ⟨z5, e5, y5, w5⟩ := DataW.trod_int Tryd.underlying3 g5
    have g6 : DataW.trod enc Tryd.prog w 0 spare held n 24 (([c0, c1, c2, c3, c4, c5, c6, c7].drop 6).take (Tryd.prog.cellsOf 24)) = xs[6]? := hg 6 _ rfl
    rw [cells24, List.getElem?_eq_getElem (by omega)] at g6
    obtain ⟨z6, e6, y6, w6⟩ := DataW.trod_int Tryd.underlying24 g6
    have g7 : DataW.trod enc Tryd.prog w 0 spare held n 25 (([c0, c1, c2, c3, c4, c5, c6, c7].drop 7).take (Tryd.prog.cellsOf 25)) = xs[7]? := hg 7 _ rfl
    rw [cells25, List.getElem?_eq_getElem (by omega)] at g7
    simp only [List.drop_zero, List.drop_succ_cons, List.take_succ_cons, List.take_zero, List.cons.injEq, and_true] at e0 e1 e2 e3 e4 e5 e6 g7
    obtain ⟨l, hl1, hl2, hl3⟩ := open_ns g7
    have b0 := byte_wf' w0
    have b1 := u64_of w1
    have b6 := u32_of w6
    obtain ⟨m0, rfl⟩ : ∃ m : Nat, z0 = m := ⟨z0.toNat, by omega⟩
    obtain ⟨m1, rfl⟩ : ∃ m : Nat, z1 = m := ⟨z1.toNat, by omega⟩
    obtain ⟨m6, rfl⟩ : ∃ m : Nat, z6 = m := ⟨z6.toNat, by omega⟩
    subst e0 e1 e2 e3 e4 e5 e6
    refine ⟨⟨m0, m1, z2.data.toList, z3, z4, z5, m6, l⟩, c7, by rw [bs_of], hl1, fun hw => ?_⟩
    have each : ∀ (j : Nat) (hj : j < xs.length) (t : TypeId), ([22, 23, 9, 3, 3, 3, 24, 25] : List TypeId)[j]? = some t → ∀ m ∈ (xs[j]'hj).1.weights Tryd.prog t, m ≤ reachBytes := fun j hj t ht m hm => hw m (by
      rw [hx]
      simp only [DataW.weights, Tryd.underlying27]
      exact DataW.weights_mem_each (P := Tryd.prog) (ts := [22, 23, 9, 3, 3, 3, 24, 25]) (j := j) ht (by rw [List.getElem?_map, List.getElem?_eq_getElem hj]; rfl) m hm)
    have i3 := i64_of w3
    have i4 := i64_of w4
    have i5 := i64_of w5
    refine ⟨by show m0 < 256; omega, by show m1 < 18446744073709551616; omega, ?_, i3, i4, i5, by show m6 < 4294967296; omega, ?_, hl2⟩
    · have := each 2 (by omega) 9 rfl z2.data.toList.length (by rw [y2]; simp [DataW.weights])
      unfold reachBytes at this
      show z2.data.toList.length ≤ _
      omega
    · have := hl3 (fun m hm => each 7 (by omega) 25 rfl m hm)
      unfold reachBytes at this
      show l.length ≤ _
      omega
end
end Go.Proofs.YtlbekgcfafofdaaDoor
