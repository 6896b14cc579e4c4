/- ordered with what each key keeps (Od), the walk of CollateSpans over contracts (Sl), with the contracts laid in (Sk). -/
import Derived.Test.YtgpcmlbmmcnkjaaGreatDoorFxB
import Derived.Test.YtgpcmlbmmcnkjaaGreatDoorNr
import Derived.Test.YtgpcmlbmmcnkjaaGreatDoorMt
import Derived.Test.YtgpcmlbmmcnkjaaGreatDoorRe
import Derived.Test.YtgpcmlbmmcnkjaaGreatDoorKd
namespace Go.Proofs.YtgpcmlbmmcnkjaaGreatDoor
section
open Go.RowKit
set_option maxRecDepth 100000
def spL (s : ByteArray) (oo : Option UInt8) (L : List KeyL) (i : Nat) : Nat × Nat :=
  match L[i]? with
  | some K => spanP s.data.toList oo K.f.toNat K.c.toNat K.ef.toNat K.ec.toNat K.m K.b
  | none => (0, 0)
def flL (s : ByteArray) (oo : Option UInt8) (L : List KeyL) (i : Nat) : ByteArray :=
  match L[i]? with
  | some K => bs (filtS (letsS K.m) (foldS K.m) (s.extract (spL s oo L i).1 (spL s oo L i).2).data.toList)
  | none => ⟨#[]⟩
theorem lets_any (m : Nat) : letsS m = 0 ∨ letsS m = 2 ∨ letsS m = 4 := by
  unfold letsS
  split
  · split
    · exact Or.inl rfl
    · exact Or.inr (Or.inr rfl)
  · exact Or.inr (Or.inl rfl)
theorem spanP_le (s : ByteArray) (o : Option UInt8) (f c ef ec m : Nat) (b : Bool) : (spanP s.data.toList o f c ef ec m b).1 ≤ (spanP s.data.toList o f c ef ec m b).2 ∧ (spanP s.data.toList o f c ef ec m b).2 ≤ s.size := by
  have l1 := spanB_le s.data.toList o f c m
  have l2 := spanE_le s.data.toList o ef ec b
  unfold spanP
  rw [Lib.size_eq]
  exact ⟨Nat.le_max_left _ _, by simp only; omega⟩
def Nats (L : List KeyL) : Prop := ∀ K ∈ L, ∃ f c ef ec : Nat, K.f = f ∧ K.c = c ∧ K.ef = ef ∧ K.ec = ec ∧ (1 ≤ f ∧ f ≤ 2147483647) ∧ (1 ≤ c ∧ c ≤ 2147483647) ∧ ef ≤ 2147483647 ∧ ec ≤ 2147483647 ∧ K.m < 65536
theorem spL_at {s : ByteArray} {oo : Option UInt8} {L : List KeyL} {i : Nat} (hi : i < L.length) : spL s oo L i = spanP s.data.toList oo L[i].f.toNat L[i].c.toNat L[i].ef.toNat L[i].ec.toNat L[i].m L[i].b := by
  unfold spL; rw [List.getElem?_eq_getElem hi]
theorem flL_at {s : ByteArray} {oo : Option UInt8} {L : List KeyL} {i : Nat} (hi : i < L.length) : flL s oo L i = bs (filtS (letsS L[i].m) (foldS L[i].m) (s.extract (spL s oo L i).1 (spL s oo L i).2).data.toList) := by
  unfold flL; rw [List.getElem?_eq_getElem hi]
theorem mspan_at {L : List KeyL} (EN : Nats L) (s : ByteArray) (oo : Option UInt8) (hs : s.size ≤ 1048576) (i : Nat) (hi : i < L.length) (W : World) :
    Calls Tryz.prog 17 #[.string s, .agg (kc L[i]).toArray, .int .i64 (tabI oo)] W (RetBk W (.agg #[.int .i64 ((spL s oo L i).1 : Int), .int .i64 ((spL s oo L i).2 : Int)])) := by
  obtain ⟨f, c, ef, ec, e1, e2, e3, e4, hf, hc, hef, hec, hm⟩ := EN L[i] (List.getElem_mem hi)
  rw [spL_at hi]
  unfold kc
  rw [e1, e2, e3, e4]
  exact mspan_ok s oo f c ef ec L[i].m L[i].b W hf hc hef hec hm hs
theorem mfilter_at {L : List KeyL} (EN : Nats L) (s : ByteArray) (oo : Option UInt8) (hs : s.size ≤ 1048576) (i : Nat) (hi : i < L.length) (W : World) :
    Calls Tryz.prog 21 #[.string s, .agg (kc L[i]).toArray, .int .i64 (tabI oo)] W (RetBk W (.string (flL s oo L i))) := by
  have hm : L[i].m < 65536 := by
    obtain ⟨_, _, _, _, _, _, _, _, _, _, _, _, hm⟩ := EN L[i] (List.getElem_mem hi)
    exact hm
  have hle : (spL s oo L i).1 ≤ (spL s oo L i).2 ∧ (spL s oo L i).2 ≤ s.size := by rw [spL_at hi]; exact spanP_le s oo _ _ _ _ _ _
  rw [flL_at hi]
  exact mfilter_g s L[i].f L[i].c L[i].ef L[i].ec (tabI oo) L[i].m L[i].b _ _ (letsS L[i].m) (foldS L[i].m) W hs hle.1 hle.2 _ rfl (Lib.hid (fun W2 => mspan_at EN s oo hs i hi W2)) (Lib.hid (fun c W2 => counts_ok c L[i].m hm W2)) (Lib.hid (fun W2 => has_ok L[i].m 4 hm (by omega) W2))
end
section
open Go.RowKit
set_option maxRecDepth 100000
theorem optC_lenS (o : Opt) (kv fv : Value) : (Tryz.prog.info? 28).map (·.size) = some (optC o kv fv).length := by kernel_rfl
/-- What stands through the loop. -/
structure SpsAt (w w4 W : World) (C : List Value) (g : Nat) (L : List KeyL) : Prop where
  opt : CellsAt W w.heap.size C
  row : W.rangeAt g 0 (ksV L)
  lg : g < W.heap.size
  b4 : Below w4.heap.size w4 W
  bel : Below w.heap.size w W
theorem SpsAt.step {w w4 W W' : World} {C : List Value} {g : Nat} {L : List KeyL} (h : SpsAt w w4 W C g L) (b : Below W.heap.size W W') : SpsAt w w4 W' C g L :=
  ⟨h.opt.step b, range_below h.row b h.lg, Nat.lt_of_lt_of_le h.lg b.size, h.b4.trans (b.mono h.b4.size), h.bel.trans (b.mono h.bel.size)⟩
/-- What the two drawn regions read. -/
structure RgAt (w W : World) (g j : Nat) (K : KeyL) (t : Int) : Prop where
  tab : W.cell? ⟨w.heap.size, 2, none⟩ = some (.int .i64 t)
  k0 : W.cell? ⟨g, j * 6, none⟩ = some (.int .i64 K.f)
  k1 : W.cell? ⟨g, j * 6 + 1, none⟩ = some (.int .i64 K.c)
  k2 : W.cell? ⟨g, j * 6 + 2, none⟩ = some (.int .i64 K.ef)
  k3 : W.cell? ⟨g, j * 6 + 3, none⟩ = some (.int .i64 K.ec)
  k4 : W.cell? ⟨g, j * 6 + 4, none⟩ = some (.int .u16 (K.m : Int))
  k5 : W.cell? ⟨g, j * 6 + 5, none⟩ = some (.bool K.b)
theorem SpsAt.rg {w w4 W : World} {C : List Value} {g : Nat} {L : List KeyL} {o : Opt} {kv fv : Value} (h : SpsAt w w4 W C g L) (hC : C = optC o kv fv) (j : Nat) (hj : j < L.length) : RgAt w W g j L[j] o.tab := by
  have q : ∀ r, r < 6 → ∀ u, (kc L[j])[r]? = some u → W.cell? ⟨g, j * 6 + r, none⟩ = some u := fun r hr u hu => by
    have := h.row (j * 6 + r) u ((ksV_at L j hj r hr).trans hu)
    rwa [Nat.zero_add] at this
  exact ⟨h.opt.cell 2 (.int .i64 o.tab) (by rw [hC]; rfl), q 0 (by omega) _ rfl, q 1 (by omega) _ rfl, q 2 (by omega) _ rfl, q 3 (by omega) _ rfl, q 4 (by omega) _ rfl, q 5 (by omega) _ rfl⟩
end
section
open Go.RowKit
end
end Go.Proofs.YtgpcmlbmmcnkjaaGreatDoor
