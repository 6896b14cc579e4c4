/- ordered with what each key keeps (Od), the walk of CollateSpans over contracts (Sl), with the contracts laid in (Sk). -/
import Derived.Test.YtgpcmlbmmcnkjaaGreatDoorFxB
import Derived.Test.YtgpcmlbmmcnkjaaGreatDoorNr
import Derived.Test.YtgpcmlbmmcnkjaaGreatDoorMt
import Derived.Test.YtgpcmlbmmcnkjaaGreatDoorRe
import Derived.Test.YtgpcmlbmmcnkjaaGreatDoorKd
namespace Go.Proofs.YtgpcmlbmmcnkjaaGreatDoor
section
open Go.RowKit
set_option maxRecDepth 100000
theorem key_at2 {w wr : World} {R P g : Nat} {o : Opt} {kv fv v : Value} {b1 b2 : Bool} {L : List KeyL} {D : List (KeyL × Value)} (h : NlIn w wr R P g o kv fv b1 b2 L v D) (i : Nat) (hi : i < D.length) (gg cap : Nat) (hv : v = .slice (some ⟨gg, 0, none⟩) D.length cap) :
    wr.cell? ⟨gg, i * 10 + 7, none⟩ = some (.int .u8 (letsS D[i].1.m : Int)) ∧ wr.cell? ⟨gg, i * 10 + 8, none⟩ = some (.bool (foldS D[i].1.m)) := by
  obtain ⟨gg', cap', e, _, hl, hr, _⟩ := own_row h.row (by omega)
  rw [hv] at e
  injection e with e1
  injection e1 with e1
  injection e1 with e1
  subst e1
  have q : ∀ j, j < 10 → ∀ u, (kyC o.tab D[i].1 D[i].2)[j]? = some u → wr.cell? ⟨gg, i * 10 + j, none⟩ = some u := fun j hj u hu => by
    have := hr (i * 10 + j) u (by rw [kysV_at o.tab D i hi j hj]; exact hu)
    rwa [Nat.zero_add] at this
  exact ⟨q 7 (by omega) _ rfl, q 8 (by omega) _ rfl⟩
def OrdR2 (w w' : World) (ks : List KeyL) (o : Opt) (cp : Option Addr) : Prop :=
  (docS ks o.mods o.tab = false ∧ cp = none) ∨ (docS ks o.mods o.tab = true ∧ ∃ P gg cap, cp = some ⟨P, 0, none⟩ ∧ OrdAt w' w.heap.size P gg cap (effL ks o.mods o.tab) o.tab ∧
    ∀ i (h : i < (effL ks o.mods o.tab).length), w'.cell? ⟨gg, i * 10 + 7, none⟩ = some (.int .u8 (letsS (effL ks o.mods o.tab)[i].m : Int)) ∧ w'.cell? ⟨gg, i * 10 + 8, none⟩ = some (.bool (foldS (effL ks o.mods o.tab)[i].m)))
theorem ordered_any2 (o : Opt) (ks : List KeyL) (kv fv : Value) (w : World) (hmm : o.mods < 65536) (hm : ∀ k ∈ ks, k.m < 65536) (hk : SlAt w w.heap.size kv 6 ks.length (ksV ks)) :
    Calls Tryz.prog 13 #[optV o kv fv] w (fun e w' => ∃ cp, e = .returned (.tuple #[.pointer cp, .bool true]) ∧ Below w.heap.size w w' ∧ OrdR2 w w' ks o cp) := by
  cases hd : docS ks o.mods o.tab with
  | false =>
    refine (ordered_out o ks kv fv w hmm hm hk hd).mono ?_
    rintro e w' ⟨rfl, hb⟩
    exact ⟨none, rfl, hb, Or.inl ⟨hd, rfl⟩⟩
  | true =>
    refine (ordered_in o ks kv fv w hmm hm hk hd).mono ?_
    rintro e w' ⟨W0, P, R, g, kv', fv', v, D, rfl, hD, hb, hN⟩
    have hl : D.length = (effL ks o.mods o.tab).length := by rw [← hD, List.length_map]
    have hne := eff_ne ks o.mods o.tab
    have h0 : 0 < D.length := by rw [hl]; exact List.length_pos_iff.2 hne
    obtain ⟨gg, cap, rfl, K⟩ := key_at hN 0 h0
    have hE : ∀ i (hi : i < (effL ks o.mods o.tab).length) (hi' : i < D.length), (effL ks o.mods o.tab)[i] = D[i].1 := fun i hi hi' => by
      have := congrArg (fun l => l[i]?) hD
      simp only [List.getElem?_map, List.getElem?_eq_getElem hi', List.getElem?_eq_getElem hi, Option.map_some, Option.some.injEq] at this
      exact this.symm
    refine ⟨some ⟨P, 0, none⟩, rfl, hb.trans (hN.bel.mono hb.size), Or.inr ⟨hd, P, gg, cap, rfl, ⟨?_, ?_, hN.ord.lt, ?_, ?_⟩, ?_⟩⟩
    · have := hN.lo; have := hb.size; omega
    · have := (hN.row.lt gg rfl).1; have := hN.lo; have := hN.mid; have := hb.size; omega
    · rw [← hl]; exact hN.ord.cell 0 _ rfl
    · intro i hi
      have hi' : i < D.length := by omega
      obtain ⟨gg', cap', e, K'⟩ := key_at hN i hi'
      injection e with e1
      injection e1 with e1
      injection e1 with e1
      subst e1
      rw [hE i hi hi']
      exact K'
    · intro i hi
      have hi' : i < D.length := by omega
      rw [hE i hi hi']
      exact key_at2 hN i hi' gg cap rfl
/-- What an order answers, at any number, in every later world. -/
structure OrdS (w4 : World) (P n : Nat) (s : ByteArray) (sp : Nat → Nat × Nat) (fl : Nat → ByteArray) : Prop where
  spIn : ∀ (i : Nat), i < n → ∀ W : World, Below w4.heap.size w4 W → Tabs W → Calls Tryz.prog 16 #[.pointer (some ⟨P, 0, none⟩), .string s, .int .i64 (i : Int)] W (RetBk W (.agg #[.int .i64 ((sp i).1 : Int), .int .i64 ((sp i).2 : Int)]))
  spOut : ∀ (i : Int), (i < 0 ∨ (n : Int) ≤ i) → ∀ W : World, Below w4.heap.size w4 W → Calls Tryz.prog 16 #[.pointer (some ⟨P, 0, none⟩), .string s, .int .i64 i] W (RetBk W (.agg #[.int .i64 0, .int .i64 0]))
  flIn : ∀ (i : Nat), i < n → ∀ W : World, Below w4.heap.size w4 W → Tabs W → Calls Tryz.prog 20 #[.pointer (some ⟨P, 0, none⟩), .string s, .int .i64 (i : Int)] W (RetBk W (.string (fl i)))
  flOut : ∀ (i : Int), (i < 0 ∨ (n : Int) ≤ i) → ∀ W : World, Below w4.heap.size w4 W → Calls Tryz.prog 20 #[.pointer (some ⟨P, 0, none⟩), .string s, .int .i64 i] W (RetBk W (.string ⟨#[]⟩))
def spL (s : ByteArray) (oo : Option UInt8) (L : List KeyL) (i : Nat) : Nat × Nat :=
  match L[i]? with
  | some K => spanP s.data.toList oo K.f.toNat K.c.toNat K.ef.toNat K.ec.toNat K.m K.b
  | none => (0, 0)
def flL (s : ByteArray) (oo : Option UInt8) (L : List KeyL) (i : Nat) : ByteArray :=
  match L[i]? with
  | some K => bs (filtS (letsS K.m) (foldS K.m) (s.extract (spL s oo L i).1 (spL s oo L i).2).data.toList)
  | none => ⟨#[]⟩
theorem lets_any (m : Nat) : letsS m = 0 ∨ letsS m = 2 ∨ letsS m = 4 := by
  unfold letsS
  split
  · split
    · exact Or.inl rfl
    · exact Or.inr (Or.inr rfl)
  · exact Or.inr (Or.inl rfl)
theorem spanP_le (s : ByteArray) (o : Option UInt8) (f c ef ec m : Nat) (b : Bool) : (spanP s.data.toList o f c ef ec m b).1 ≤ (spanP s.data.toList o f c ef ec m b).2 ∧ (spanP s.data.toList o f c ef ec m b).2 ≤ s.size := by
  have l1 := spanB_le s.data.toList o f c m
  have l2 := spanE_le s.data.toList o ef ec b
  unfold spanP
  rw [Lib.size_eq]
  exact ⟨Nat.le_max_left _ _, by simp only; omega⟩
def Nats (L : List KeyL) : Prop := ∀ K ∈ L, ∃ f c ef ec : Nat, K.f = f ∧ K.c = c ∧ K.ef = ef ∧ K.ec = ec ∧ (1 ≤ f ∧ f ≤ 2147483647) ∧ (1 ≤ c ∧ c ≤ 2147483647) ∧ ef ≤ 2147483647 ∧ ec ≤ 2147483647 ∧ K.m < 65536
theorem OrdAt.cell0 {w' W : World} {B P gg cap : Nat} {L : List KeyL} {t : Int} (h : OrdAt w' B P gg cap L t) (b : Below w'.heap.size w' W) : W.cell? ⟨P, 0, none⟩ = some (.slice (some ⟨gg, 0, none⟩) L.length cap) := by
  obtain ⟨_, _, h3, h4, _⟩ := h
  exact (b.cell (p := ⟨P, 0, none⟩) h3).trans h4
theorem spL_at {s : ByteArray} {oo : Option UInt8} {L : List KeyL} {i : Nat} (hi : i < L.length) : spL s oo L i = spanP s.data.toList oo L[i].f.toNat L[i].c.toNat L[i].ef.toNat L[i].ec.toNat L[i].m L[i].b := by
  unfold spL; rw [List.getElem?_eq_getElem hi]
theorem flL_at {s : ByteArray} {oo : Option UInt8} {L : List KeyL} {i : Nat} (hi : i < L.length) : flL s oo L i = bs (filtS (letsS L[i].m) (foldS L[i].m) (s.extract (spL s oo L i).1 (spL s oo L i).2).data.toList) := by
  unfold flL; rw [List.getElem?_eq_getElem hi]
theorem ord_s {w' : World} {B P gg cap : Nat} {L : List KeyL} {oo : Option UInt8} {s : ByteArray} (h : OrdAt w' B P gg cap L (tabI oo))
    (h78 : ∀ i (h : i < L.length), w'.cell? ⟨gg, i * 10 + 7, none⟩ = some (.int .u8 (letsS L[i].m : Int)) ∧ w'.cell? ⟨gg, i * 10 + 8, none⟩ = some (.bool (foldS L[i].m)))
    (hs : s.size ≤ 1048576) (EN : Nats L) : OrdS w' P L.length s (spL s oo L) (flL s oo L) := by
  have KS : ∀ (i : Nat) (hi : i < L.length) (W : World), Below w'.heap.size w' W → Tabs W → Calls Tryz.prog 30 #[.pointer (some ⟨gg, i * 10, none⟩), .string s] W (RetBk W (.agg #[.int .i64 ((spL s oo L i).1 : Int), .int .i64 ((spL s oo L i).2 : Int)])) := fun i hi W b T => by
    obtain ⟨f, c, ef, ec, e1, e2, e3, e4, hf, hc, hef, hec, hm⟩ := EN L[i] (List.getElem_mem hi)
    have hk := h.2.2.2.2 i hi
    rw [spL_at hi, e1, e2, e3, e4]
    rw [e1, e2, e3, e4] at hk
    exact kspan_ok s oo gg (i * 10) f c ef ec L[i].m L[i].b W hf hc hef hec hm (by omega) (hk.below b) T
  refine ⟨fun i hi W b T => ?_, fun i hi W b => ?_, fun i hi W b T => ?_, fun i hi W b => ?_⟩
  · exact ospan_g s P gg L.length cap i _ _ W hi (h.cell0 b) (Nat.lt_of_lt_of_le h.2.2.1 b.size) (Lib.hid (fun W2 b2 => KS i hi W2 (b.trans (b2.mono b.size)) (T.below b2)))
  · by_cases h0 : i < 0
    · exact ospan_neg s P i h0 W
    · exact ospan_end s P L.length cap _ i h0 (by rcases hi with h | h; exact absurd h h0; exact h) W (Nat.lt_of_lt_of_le h.2.2.1 b.size) (h.cell0 b)
  · have hk := h.2.2.2.2 i hi
    have hle : (spL s oo L i).1 ≤ (spL s oo L i).2 ∧ (spL s oo L i).2 ≤ s.size := by rw [spL_at hi]; exact spanP_le s oo _ _ _ _ _ _
    have c7 := (b.cell (p := ⟨gg, i * 10 + 7, none⟩) hk.lt).trans (h78 i hi).1
    have c8 := (b.cell (p := ⟨gg, i * 10 + 8, none⟩) hk.lt).trans (h78 i hi).2
    have hx : (s.extract (spL s oo L i).1 (spL s oo L i).2).size ≤ 1048576 := by rw [Lib.size_eq, ex_len s _ _ hle.2]; omega
    have hy : (bs (filtS (letsS L[i].m) (foldS L[i].m) (s.extract (spL s oo L i).1 (spL s oo L i).2).data.toList)).size ≤ 281474976710656 := by
      rw [bs_size]
      have := filt_len (letsS L[i].m) (foldS L[i].m) (s.extract (spL s oo L i).1 (spL s oo L i).2).data.toList
      rw [← Lib.size_eq] at this
      omega
    rw [flL_at hi]
    exact ofilter_g s (s.extract (spL s oo L i).1 (spL s oo L i).2) _ P gg L.length cap i (letsS L[i].m) (foldS L[i].m) W hi (h.cell0 b) ⟨c7, c8, Nat.lt_of_lt_of_le hk.lt b.size, Below.refl _ _⟩
      (Lib.hid (fun W2 b2 => cut_g s _ _ _ W2 hle.1 hle.2 (Lib.hid (fun W3 b3 => KS i hi W3 (b.trans ((b2.trans (b3.mono b2.size)).mono b.size)) (T.below (b2.trans (b3.mono b2.size)))))))
      (Lib.hid (fun W2 b2 => apply_ok (letsS L[i].m) (lets_any _) (foldS L[i].m) _ hx W2 (T.below b2)))
      (Lib.hid (fun W2 _ => clone_ok _ hy W2))
  · by_cases h0 : i < 0
    · exact ofilter_neg s P i h0 W
    · exact ofilter_end s P L.length cap _ i h0 (by rcases hi with h | h; exact absurd h h0; exact h) W (h.cell0 b)
theorem mspan_at {L : List KeyL} (EN : Nats L) (s : ByteArray) (oo : Option UInt8) (hs : s.size ≤ 1048576) (i : Nat) (hi : i < L.length) (W : World) :
    Calls Tryz.prog 17 #[.string s, .agg (kc L[i]).toArray, .int .i64 (tabI oo)] W (RetBk W (.agg #[.int .i64 ((spL s oo L i).1 : Int), .int .i64 ((spL s oo L i).2 : Int)])) := by
  obtain ⟨f, c, ef, ec, e1, e2, e3, e4, hf, hc, hef, hec, hm⟩ := EN L[i] (List.getElem_mem hi)
  rw [spL_at hi]
  unfold kc
  rw [e1, e2, e3, e4]
  exact mspan_ok s oo f c ef ec L[i].m L[i].b W hf hc hef hec hm hs
theorem mfilter_at {L : List KeyL} (EN : Nats L) (s : ByteArray) (oo : Option UInt8) (hs : s.size ≤ 1048576) (i : Nat) (hi : i < L.length) (W : World) :
    Calls Tryz.prog 21 #[.string s, .agg (kc L[i]).toArray, .int .i64 (tabI oo)] W (RetBk W (.string (flL s oo L i))) := by
  have hm : L[i].m < 65536 := by
    obtain ⟨_, _, _, _, _, _, _, _, _, _, _, _, hm⟩ := EN L[i] (List.getElem_mem hi)
    exact hm
  have hle : (spL s oo L i).1 ≤ (spL s oo L i).2 ∧ (spL s oo L i).2 ≤ s.size := by rw [spL_at hi]; exact spanP_le s oo _ _ _ _ _ _
  rw [flL_at hi]
  exact mfilter_g s L[i].f L[i].c L[i].ef L[i].ec (tabI oo) L[i].m L[i].b _ _ (letsS L[i].m) (foldS L[i].m) W hs hle.1 hle.2 _ rfl (Lib.hid (fun W2 => mspan_at EN s oo hs i hi W2)) (Lib.hid (fun c W2 => counts_ok c L[i].m hm W2)) (Lib.hid (fun W2 => has_ok L[i].m 4 hm (by omega) W2))
end
section
open Go.RowKit
set_option maxRecDepth 100000
theorem optC_lenS (o : Opt) (kv fv : Value) : (Tryz.prog.info? 28).map (·.size) = some (optC o kv fv).length := by kernel_rfl
def RetOS (dd : Prop) (W : World) (n : Nat) (s : ByteArray) (sp : Nat → Nat × Nat) (fl : Nat → ByteArray) (e : Ending) (w' : World) : Prop :=
  ∃ cp, e = .returned (.tuple #[.pointer cp, .bool true]) ∧ Below W.heap.size W w' ∧ (cp = none ∨ dd ∧ ∃ P, cp = some ⟨P, 0, none⟩ ∧ OrdS w' P n s sp fl)
/-- What stands through the loop. -/
structure SpsAt (w w4 W : World) (C : List Value) (g : Nat) (L : List KeyL) : Prop where
  opt : CellsAt W w.heap.size C
  row : W.rangeAt g 0 (ksV L)
  lg : g < W.heap.size
  b4 : Below w4.heap.size w4 W
  bel : Below w.heap.size w W
theorem SpsAt.step {w w4 W W' : World} {C : List Value} {g : Nat} {L : List KeyL} (h : SpsAt w w4 W C g L) (b : Below W.heap.size W W') : SpsAt w w4 W' C g L :=
  ⟨h.opt.step b, range_below h.row b h.lg, Nat.lt_of_lt_of_le h.lg b.size, h.b4.trans (b.mono h.b4.size), h.bel.trans (b.mono h.bel.size)⟩
/-- What the two drawn regions read. -/
structure RgAt (w W : World) (g j : Nat) (K : KeyL) (t : Int) : Prop where
  tab : W.cell? ⟨w.heap.size, 2, none⟩ = some (.int .i64 t)
  k0 : W.cell? ⟨g, j * 6, none⟩ = some (.int .i64 K.f)
  k1 : W.cell? ⟨g, j * 6 + 1, none⟩ = some (.int .i64 K.c)
  k2 : W.cell? ⟨g, j * 6 + 2, none⟩ = some (.int .i64 K.ef)
  k3 : W.cell? ⟨g, j * 6 + 3, none⟩ = some (.int .i64 K.ec)
  k4 : W.cell? ⟨g, j * 6 + 4, none⟩ = some (.int .u16 (K.m : Int))
  k5 : W.cell? ⟨g, j * 6 + 5, none⟩ = some (.bool K.b)
theorem SpsAt.rg {w w4 W : World} {C : List Value} {g : Nat} {L : List KeyL} {o : Opt} {kv fv : Value} (h : SpsAt w w4 W C g L) (hC : C = optC o kv fv) (j : Nat) (hj : j < L.length) : RgAt w W g j L[j] o.tab := by
  have q : ∀ r, r < 6 → ∀ u, (kc L[j])[r]? = some u → W.cell? ⟨g, j * 6 + r, none⟩ = some u := fun r hr u hu => by
    have := h.row (j * 6 + r) u ((ksV_at L j hj r hr).trans hu)
    rwa [Nat.zero_add] at this
  exact ⟨h.opt.cell 2 (.int .i64 o.tab) (by rw [hC]; rfl), q 0 (by omega) _ rfl, q 1 (by omega) _ rfl, q 2 (by omega) _ rfl, q 3 (by omega) _ rfl, q 4 (by omega) _ rfl, q 5 (by omega) _ rfl⟩
def SpsRel (w w4 : World) (C : List Value) (g : Nat) (L : List KeyL) (i : Value) (wr : World) : Prop :=
  ∃ k : Nat, k ≤ L.length + 2 ∧ i = .int .i64 ((k : Int) - 1) ∧ SpsAt w w4 wr C g L
set_option maxHeartbeats 6400000 in
theorem spans_g (dd : Prop) (o : Opt) (L : List KeyL) (ka : Option Addr) (kn kcp : Nat) (fa : Option Addr) (fn fc : Nat) (s : ByteArray) (i : Int) (w : World) (sp : Nat → Nat × Nat) (fl : Nat → ByteArray) (T : Tabs w) (hL : L.length ≤ 1099511627776)
    (ORD : ∀ W : World, Below w.heap.size w W → Calls Tryz.prog 13 #[optV o (.slice ka kn kcp) (.slice fa fn fc)] W (RetOS dd W L.length s sp fl))
    (EFF : ∀ W : World, Below w.heap.size w W → Calls Tryz.prog 14 #[optV o (.slice ka kn kcp) (.slice fa fn fc)] W (RetKeys W L))
    (MSP : dd → ∀ (j : Nat) (hj : j < L.length) (W : World), Calls Tryz.prog 17 #[.string s, .agg (kc L[j]).toArray, .int .i64 o.tab] W (RetBk W (.agg #[.int .i64 ((sp j).1 : Int), .int .i64 ((sp j).2 : Int)])))
    (MFL : dd → ∀ (j : Nat) (hj : j < L.length) (W : World), Calls Tryz.prog 21 #[.string s, .agg (kc L[j]).toArray, .int .i64 o.tab] W (RetBk W (.string (fl j)))) :
    Calls Tryz.prog 8 #[optV o (.slice ka kn kcp) (.slice fa fn fc), .string s, .int .i64 i] w (RetBk w (.bool true)) := by
  obtain ⟨C, hC⟩ : ∃ C, C = optC o (.slice ka kn kcp) (.slice fa fn fc) := ⟨_, rfl⟩
  have HC := Lib.hid hC
  have A0 := Lib.hid (CellsAt.new w C 28)
  have B0 := Lib.hid ((Below.refl w.heap.size w).alloc (Nat.le_refl _) (Obj.cells C.toArray 28))
  have R0 := Lib.hid A0.out.range
  have LD := Lib.hid (show (Tryz.prog.info? 28).map (·.size) = some C.length by rw [hC]; exact optC_lenS _ _ _)
  have HT := Lib.hid T
  have HLL := Lib.hid hL
  have HO := Lib.hid ORD
  have HE := Lib.hid EFF
  have HM := Lib.hid MSP
  have HF := Lib.hid MFL
  clear T hL ORD EFF MSP MFL
  unfold optV at HO HE ⊢
  rw [← hC] at HO HE ⊢
  clear hC
  go_enter Tryz.func8, Tryz.ntmps8
  go_upto_region 1 with fail
  generalize hX : w.alloc (Obj.cells C.toArray 28) = x at *
  clear hX
  go_wp2_with first
    | (guard_target =~ wpList _ _ _ (⟨some _, Op.load 28 _, _, _, _, _⟩ :: _) _ _; go_must (refine wpList_load_mid rfl 28 _ rfl w.heap.size 0 rfl C _ R0.out Tryz.underlying28 rfl LD.out ?_))
    | (go_at_call 13; refine (HO.out _ B0.out).mono ?_)
  rintro e w1 ⟨cp, rfl, b1, hcase⟩
  have B1 := Lib.hid (B0.out.trans (b1.mono B0.out.size))
  have A1 := Lib.hid (A0.out.step b1)
  have R1 := Lib.hid A1.out.range
  clear b1 B0 A0 R0 HO
  rcases hcase with rfl | ⟨hd, P, rfl, OS⟩
  · go_wp2_with fail
    go_ret
    exact ⟨rfl, B1.out⟩
  · have HOS := Lib.hid OS
    have HMd := Lib.hid (HM.out hd)
    have HFd := Lib.hid (HF.out hd)
    clear HM HF hd OS
    go_wp2_with first
      | (guard_target =~ wpList _ _ _ (⟨some _, Op.load 28 _, _, _, _, _⟩ :: _) _ _; go_must (refine wpList_load_mid rfl 28 _ rfl w.heap.size 0 rfl C _ R1.out Tryz.underlying28 rfl LD.out ?_))
      | (go_at_call 14; refine (HE.out _ B1.out).mono ?_)
    rintro e w5 ⟨g, cl, rfl, hg5, hg6, hr5, b5⟩
    have S5 : SpsAt w w1 w5 C g L := ⟨A1.out.step b5, hr5, hg6, b5, B1.out.trans (b5.mono B1.out.size)⟩
    have HR := Lib.hid (show SpsRel w w1 C g L (.int .i64 (-1)) w5 from ⟨0, Nat.zero_le _, rfl, S5⟩)
    clear S5 hg5 hg6 hr5 b5 R1 A1 HE LD
    go_wp2_with fail
    go_loopw [10] (fun i wr => SpsRel w w1 C g L i wr) (fun i _ => (L.length + 1 - intOf i).toNat)
    case atStart => exact HR.out
    case round =>
      obtain ⟨k, hk, rfl, hs0⟩ := hrel
      have HS := Lib.hid hs0
      have e2 : ∀ m : Int, intOf (.int .i64 m) = m := fun _ => rfl
      clear hs0 HR
      by_cases hin : 1 ≤ k ∧ k ≤ L.length
      · obtain ⟨j, rfl⟩ : ∃ j, k = j + 1 := ⟨k - 1, by omega⟩
        have hj : j < L.length := by omega
        rw [show (((j + 1 : Nat) : Int) - 1) = (j : Int) by omega]
        have t0 : decide (j ≤ L.length) = true := decide_eq_true (by omega)
        have t1 : decide (j < L.length) = true := decide_eq_true hj
        have e0 : wrap64 ((j : Int) + 1) = ((j + 1 + 1 : Nat) : Int) - 1 := by have := HLL.out; unfold wrap64; omega
        clear hin hk
        go_wp2_with fail
        refine (HOS.out.spIn j hj _ HS.out.b4 (HT.out.below HS.out.bel)).mono ?_
        rintro e w6 ⟨rfl, b6⟩
        have B6 := Lib.hid (b6.alloc b6.size (.cells #[.int .i64 ((sp j).1 : Int), .int .i64 ((sp j).2 : Int)] 41))
        have Z6 := Lib.hid (CellsAt.new w6 [.int .i64 ((sp j).1 : Int), .int .i64 ((sp j).2 : Int)] 41)
        have G6 := Lib.hid b6.size
        clear b6
        go_upto_region 9 with fail
        generalize hX : w6.alloc (Obj.cells #[.int .i64 ((sp j).1 : Int), .int .i64 ((sp j).2 : Int)] 41) = x6 at *
        clear hX
        have S6 := Lib.hid (HS.out.step B6.out)
        go_wp2_with fail
        refine (HOS.out.flIn j hj _ S6.out.b4 (HT.out.below S6.out.bel)).mono ?_
        rintro e w7 ⟨rfl, b7⟩
        have B7 := Lib.hid (B6.out.trans ((b7.alloc b7.size (.cells #[.int .i64 0, .int .i64 0] 41)).mono B6.out.size))
        have Z7 := Lib.hid ((Z6.out.step b7).step ((Below.refl _ _).alloc (Nat.le_refl _) (.cells #[.int .i64 0, .int .i64 0] 41)))
        have Y7 := Lib.hid (CellsAt.new w7 [.int .i64 0, .int .i64 0] 41)
        have N7 := Lib.hid (show w6.heap.size < w7.heap.size from Nat.lt_of_lt_of_le Z6.out.lt b7.size)
        clear b7 Z6 S6 B6
        go_upto_region 12 with fail
        generalize hX : w7.alloc (Obj.cells #[.int .i64 0, .int .i64 0] 41) = x7 at *
        clear hX
        have S7 := Lib.hid (HS.out.step B7.out)
        have HK := Lib.hid (show ∀ W, SpsAt w w1 W C g L → RgAt w W g j L[j] o.tab from fun W h => h.rg HC.out j hj)
        have hM := Lib.hid (show ∀ W, Calls Tryz.prog 17 #[.string s, .agg #[.int .i64 L[j].f, .int .i64 L[j].c, .int .i64 L[j].ef, .int .i64 L[j].ec, .int .u16 (L[j].m : Int), .bool L[j].b], .int .i64 o.tab] W (RetBk W (.agg #[.int .i64 ((sp j).1 : Int), .int .i64 ((sp j).2 : Int)])) from fun W => HMd.out j hj W)
        have hF := Lib.hid (show ∀ W, Calls Tryz.prog 21 #[.string s, .agg #[.int .i64 L[j].f, .int .i64 L[j].c, .int .i64 L[j].ef, .int .i64 L[j].ec, .int .u16 (L[j].m : Int), .bool L[j].b], .int .i64 o.tab] W (RetBk W (.string (fl j))) from fun W => HFd.out j hj W)
        generalize L[j] = K at *
        go_upto_region 13 with fail
        have D7 := Lib.hid ((Below.refl x7.heap.size x7).drew)
        have q7 := HK.out _ S7.out
        have c2 := q7.tab
        have k0 := q7.k0
        have k1 := q7.k1
        have k2 := q7.k2
        have k3 := q7.k3
        have k4 := q7.k4
        have k5 := q7.k5
        have z0 := Y7.out.cell 0 _ rfl
        have z1 := Y7.out.cell 1 _ rfl
        have y0 := Y7.out.free 0
        have y1 := Y7.out.free 1
        have ne1 : w.heap.size ≠ w7.heap.size := by have := HS.out.opt.lt; have := G6.out; have := N7.out; omega
        have ne2 : g ≠ w7.heap.size := by have := HS.out.lg; have := G6.out; have := N7.out; omega
        have ne3 := ne1.symm
        have ne4 := ne2.symm
        clear q7
        go_region_held3 (fun w' => w'.cell? ⟨w.heap.size, 2, none⟩ = some (.int .i64 o.tab) ∧ w'.cell? ⟨g, j * 6, none⟩ = some (.int .i64 K.f) ∧ w'.cell? ⟨g, j * 6 + 1, none⟩ = some (.int .i64 K.c) ∧ w'.cell? ⟨g, j * 6 + 2, none⟩ = some (.int .i64 K.ef) ∧ w'.cell? ⟨g, j * 6 + 3, none⟩ = some (.int .i64 K.ec) ∧ w'.cell? ⟨g, j * 6 + 4, none⟩ = some (.int .u16 (K.m : Int)) ∧ w'.cell? ⟨g, j * 6 + 5, none⟩ = some (.bool K.b))
          (first | go_keep)
          ((first
            | (go_at_call 17; ((with_reducible refine (hM.out _).mono ?_); rintro ee w8 ⟨rfl, hbb⟩; have b8 := D7.out.trans (hbb.mono D7.out.size); have s8 := S7.out.step b8; have q8 := HK.out _ s8; have c2 := q8.tab; have k0 := q8.k0; have k1 := q8.k1; have k2 := q8.k2; have k3 := q8.k3; have k4 := q8.k4; have k5 := q8.k5; have yy := Y7.out.step b8; have z0 := yy.cell 0 _ rfl; have z1 := yy.cell 1 _ rfl; have y0 := yy.free 0; have y1 := yy.free 1))))
        have ne5 : w6.heap.size ≠ w7.heap.size := by have := N7.out; omega
        have ne7 : wr.heap.size ≤ w7.heap.size := by have := G6.out; have := N7.out; omega
        have B9 := Lib.hid (((B7.out.trans (b8.mono B7.out.size)).setCell (p := ⟨w7.heap.size, 0, none⟩) ne7 (.int .i64 ((sp j).1 : Int))).setCell (p := ⟨w7.heap.size, 1, none⟩) ne7 (.int .i64 ((sp j).2 : Int)))
        have Z9 := Lib.hid (((Z7.out.step b8).other ne5.symm 0 (.int .i64 ((sp j).1 : Int))).other ne5.symm 1 (.int .i64 ((sp j).2 : Int)))
        have Y9 := Lib.hid ((yy.set 0 (.int .i64 ((sp j).1 : Int)) (by simp)).set 1 (.int .i64 ((sp j).2 : Int)) (by simp))
        clear b8 s8 q8 c2 k0 k1 k2 k3 k4 k5 yy z0 z1 y0 y1 hbb
        go_upto_region 14 with fail
        generalize ((w8.setCell ⟨w7.heap.size, 0, none⟩ (.int .i64 ((sp j).1 : Int))).setCell ⟨w7.heap.size, 1, none⟩ (.int .i64 ((sp j).2 : Int))) = x9 at *
        clear z0 z1 y0 y1 c2 k0 k1 k2 k3 k4 k5 Y7 Z7 S7 D7 ne1 ne2 ne3 ne4 ne5 ne7
        have S9 := Lib.hid (HS.out.step B9.out)
        have D9 := Lib.hid ((Below.refl x9.heap.size x9).drew)
        have q9 := HK.out _ S9.out
        have c2 := q9.tab
        have k0 := q9.k0
        have k1 := q9.k1
        have k2 := q9.k2
        have k3 := q9.k3
        have k4 := q9.k4
        have k5 := q9.k5
        clear q9
        go_region_held3 (fun w' => w'.cell? ⟨w.heap.size, 2, none⟩ = some (.int .i64 o.tab) ∧ w'.cell? ⟨g, j * 6, none⟩ = some (.int .i64 K.f) ∧ w'.cell? ⟨g, j * 6 + 1, none⟩ = some (.int .i64 K.c) ∧ w'.cell? ⟨g, j * 6 + 2, none⟩ = some (.int .i64 K.ef) ∧ w'.cell? ⟨g, j * 6 + 3, none⟩ = some (.int .i64 K.ec) ∧ w'.cell? ⟨g, j * 6 + 4, none⟩ = some (.int .u16 (K.m : Int)) ∧ w'.cell? ⟨g, j * 6 + 5, none⟩ = some (.bool K.b))
          (first | go_keep)
          ((first
            | (go_at_call 21; ((with_reducible refine (hF.out _).mono ?_); rintro ee w10 ⟨rfl, hbb⟩; have b10 := D9.out.trans (hbb.mono D9.out.size); have s10 := S9.out.step b10; have q10 := HK.out _ s10; have c2 := q10.tab; have k0 := q10.k0; have k1 := q10.k1; have k2 := q10.k2; have k3 := q10.k3; have k4 := q10.k4; have k5 := q10.k5))))
        have SA := Lib.hid s10
        have zA := Z9.out.step b10
        have yA := Y9.out.step b10
        have z0 := zA.cell 0 _ rfl
        have z1 := zA.cell 1 _ rfl
        have y0 := yA.cell 0 _ rfl
        have y1 := yA.cell 1 _ rfl
        clear q10 s10 b10 hbb zA yA Z9 Y9 S9 D9 B9
        go_wp2_with fail
        rw [e0]
        refine ⟨⟨j + 1 + 1, by omega, rfl, SA.out⟩, ?_⟩
        rw [e2, e2]
        omega
      · by_cases hend : k = L.length + 2
        · subst hend
          obtain ⟨m, hm⟩ : ∃ m : Nat, m = L.length + 1 := ⟨_, rfl⟩
          rw [show (((L.length + 2 : Nat) : Int) - 1) = (m : Int) by omega]
          have t0 : decide (m ≤ L.length) = false := decide_eq_false (by omega)
          clear hm hk hin
          have HB4 := Lib.hid HS.out.b4
          have HBW := Lib.hid HS.out.bel
          clear HS
          by_cases hi : 0 ≤ i ∧ i < (L.length : Int)
          · obtain ⟨ii, rfl⟩ : ∃ ii : Nat, i = (ii : Int) := ⟨i.toNat, by omega⟩
            have hii : ii < L.length := by omega
            have t1 : decide (ii < L.length) = true := decide_eq_true hii
            clear hi
            go_wp2_with fail
            refine (HOS.out.spIn ii hii _ HB4.out (HT.out.below HBW.out)).mono ?_
            rintro e w6 ⟨rfl, b6⟩
            have B6 := Lib.hid (HBW.out.trans ((b6.alloc b6.size (.cells #[.int .i64 ((sp ii).1 : Int), .int .i64 ((sp ii).2 : Int)] 41)).mono HBW.out.size))
            have Z6 := Lib.hid (CellsAt.new w6 [.int .i64 ((sp ii).1 : Int), .int .i64 ((sp ii).2 : Int)] 41)
            clear b6
            go_upto_region 18 with fail
            generalize hX : w6.alloc (Obj.cells #[.int .i64 ((sp ii).1 : Int), .int .i64 ((sp ii).2 : Int)] 41) = x6 at *
            clear hX
            have z0 := Z6.out.cell 0 _ rfl
            have z1 := Z6.out.cell 1 _ rfl
            go_wp2_with fail
            all_goals go_ret
            all_goals exact ⟨rfl, B6.out⟩
          · go_wp2_with fail
            refine (HOS.out.spOut i (by omega) _ HB4.out).mono ?_
            rintro e w6 ⟨rfl, b6⟩
            have B6 := Lib.hid (HBW.out.trans ((b6.alloc b6.size (.cells #[.int .i64 0, .int .i64 0] 41)).mono HBW.out.size))
            have Z6 := Lib.hid (CellsAt.new w6 [.int .i64 0, .int .i64 0] 41)
            clear b6
            go_upto_region 18 with fail
            generalize hX : w6.alloc (Obj.cells #[.int .i64 0, .int .i64 0] 41) = x6 at *
            clear hX
            have z0 := Z6.out.cell 0 _ rfl
            have z1 := Z6.out.cell 1 _ rfl
            go_wp2_with fail
            go_ret
            exact ⟨rfl, B6.out⟩
        · by_cases hz : k = 0
          · subst hz
            rw [show (((0 : Nat) : Int) - 1) = (-1 : Int) by omega]
            have t0 : decide ((-1 : Int) ≤ (L.length : Int)) = true := decide_eq_true (by omega)
            clear hk hin hend
            go_wp2_with fail
            refine (HOS.out.spOut (-1) (Or.inl (by omega)) _ HS.out.b4).mono ?_
            rintro e w6 ⟨rfl, b6⟩
            have B6 := Lib.hid (b6.alloc b6.size (.cells #[.int .i64 0, .int .i64 0] 41))
            have Z6 := Lib.hid (CellsAt.new w6 [.int .i64 0, .int .i64 0] 41)
            clear b6
            go_upto_region 9 with fail
            generalize hX : w6.alloc (Obj.cells #[.int .i64 0, .int .i64 0] 41) = x6 at *
            clear hX
            have S6 := Lib.hid (HS.out.step B6.out)
            go_wp2_with fail
            refine (HOS.out.flOut (-1) (Or.inl (by omega)) _ S6.out.b4).mono ?_
            rintro e w7 ⟨rfl, b7⟩
            have B7 := Lib.hid (B6.out.trans ((b7.alloc b7.size (.cells #[.int .i64 0, .int .i64 0] 41)).mono B6.out.size))
            have Z7 := Lib.hid ((Z6.out.step b7).step ((Below.refl _ _).alloc (Nat.le_refl _) (.cells #[.int .i64 0, .int .i64 0] 41)))
            have Y7 := Lib.hid (CellsAt.new w7 [.int .i64 0, .int .i64 0] 41)
            clear b7 Z6 S6 B6
            go_upto_region 12 with fail
            generalize hX : w7.alloc (Obj.cells #[.int .i64 0, .int .i64 0] 41) = x7 at *
            clear hX
            have S7 := Lib.hid (HS.out.step B7.out)
            have z0 := Z7.out.cell 0 _ rfl
            have z1 := Z7.out.cell 1 _ rfl
            have y0 := Y7.out.cell 0 _ rfl
            have y1 := Y7.out.cell 1 _ rfl
            go_wp2_with fail
            refine ⟨⟨1, by omega, rfl, S7.out⟩, ?_⟩
            rw [e2, e2]
            omega
          · obtain rfl : k = L.length + 1 := by omega
            rw [show (((L.length + 1 : Nat) : Int) - 1) = (L.length : Int) by omega]
            have t0 : decide (L.length ≤ L.length) = true := decide_eq_true (Nat.le_refl _)
            have t1 : decide (L.length < L.length) = false := decide_eq_false (Nat.lt_irrefl _)
            clear hk hin hend hz
            go_wp2_with fail
            refine (HOS.out.spOut (L.length : Int) (Or.inr (Int.le_refl _)) _ HS.out.b4).mono ?_
            rintro e w6 ⟨rfl, b6⟩
            have B6 := Lib.hid (b6.alloc b6.size (.cells #[.int .i64 0, .int .i64 0] 41))
            have Z6 := Lib.hid (CellsAt.new w6 [.int .i64 0, .int .i64 0] 41)
            clear b6
            go_upto_region 9 with fail
            generalize hX : w6.alloc (Obj.cells #[.int .i64 0, .int .i64 0] 41) = x6 at *
            clear hX
            have S6 := Lib.hid (HS.out.step B6.out)
            go_wp2_with fail
            refine (HOS.out.flOut (L.length : Int) (Or.inr (Int.le_refl _)) _ S6.out.b4).mono ?_
            rintro e w7 ⟨rfl, b7⟩
            have B7 := Lib.hid (B6.out.trans ((b7.alloc b7.size (.cells #[.int .i64 0, .int .i64 0] 41)).mono B6.out.size))
            have Z7 := Lib.hid ((Z6.out.step b7).step ((Below.refl _ _).alloc (Nat.le_refl _) (.cells #[.int .i64 0, .int .i64 0] 41)))
            have Y7 := Lib.hid (CellsAt.new w7 [.int .i64 0, .int .i64 0] 41)
            clear b7 Z6 S6 B6
            go_upto_region 12 with fail
            generalize hX : w7.alloc (Obj.cells #[.int .i64 0, .int .i64 0] 41) = x7 at *
            clear hX
            have S7 := Lib.hid (HS.out.step B7.out)
            have z0 := Z7.out.cell 0 _ rfl
            have z1 := Z7.out.cell 1 _ rfl
            have y0 := Y7.out.cell 0 _ rfl
            have y1 := Y7.out.cell 1 _ rfl
            go_wp2_with fail
            have e0 : wrap64 ((L.length : Int) + 1) = ((L.length + 2 : Nat) : Int) - 1 := by have := HLL.out; unfold wrap64; omega
            rw [e0]
            refine ⟨⟨L.length + 2, Nat.le_refl _, rfl, S7.out⟩, ?_⟩
            rw [e2, e2]
            omega
end
section
open Go.RowKit
theorem eff_len (ks : List KeyL) (m : Nat) (t : Int) : (effL ks m t).length ≤ ks.length + 1 := by
  unfold effL dflt
  rw [List.length_map]
  split
  · simp
  · omega
theorem spans_ok (o : Opt) (ks : List KeyL) (ka : Option Addr) (kcp : Nat) (fa : Option Addr) (fn fc : Nat) (s : ByteArray) (i : Int) (w : World) (hmm : o.mods < 65536) (hm : ∀ k ∈ ks, k.m < 65536) (hk : SlAt w w.heap.size (.slice ka ks.length kcp) 6 ks.length (ksV ks)) (hkl : ks.length ≤ 1048576) (hs : s.size ≤ 1048576) (T : Tabs w) :
    Calls Tryz.prog 8 #[optV o (.slice ka ks.length kcp) (.slice fa fn fc), .string s, .int .i64 i] w (RetBk w (.bool true)) := by
  have EFF : ∀ W : World, Below w.heap.size w W → Calls Tryz.prog 14 #[optV o (.slice ka ks.length kcp) (.slice fa fn fc)] W (RetKeys W (effL ks o.mods o.tab)) := fun W b => by
    have := mref_ok o ks (.slice ka ks.length kcp) (.slice fa fn fc) W ((hk.keep b (Nat.le_refl _)).mono b.size) (by omega) hmm
    have e : (dflt ks).map (own o) = effL ks o.mods o.tab := by unfold effL; exact List.map_congr_left (fun k _ => own_o3 o k)
    rw [e] at this
    exact this
  have ORD : ∀ W : World, Below w.heap.size w W → Calls Tryz.prog 13 #[optV o (.slice ka ks.length kcp) (.slice fa fn fc)] W (fun e w' => ∃ cp, e = .returned (.tuple #[.pointer cp, .bool true]) ∧ Below W.heap.size W w' ∧ OrdR2 W w' ks o cp) := fun W b =>
    ordered_any2 o ks _ _ W hmm hm ((hk.keep b (Nat.le_refl _)).mono b.size)
  have hL : (effL ks o.mods o.tab).length ≤ 1099511627776 := by have := eff_len ks o.mods o.tab; omega
  cases hd : docS ks o.mods o.tab with
  | false =>
    refine spans_g False o (effL ks o.mods o.tab) ka ks.length kcp fa fn fc s i w (fun _ => (0, 0)) (fun _ => ⟨#[]⟩) T hL (fun W b => ?_) EFF (fun h => h.elim) (fun h => h.elim)
    refine (ORD W b).mono ?_
    rintro e w' ⟨cp, rfl, b', h | h⟩
    · exact ⟨cp, rfl, b', Or.inl h.2⟩
    · rw [hd] at h; exact absurd h.1 (by decide)
  | true =>
    obtain ⟨oo, ht⟩ := docS_tab hd
    have EN : Nats (effL ks o.mods o.tab) := eff_nats hd
    refine spans_g True o (effL ks o.mods o.tab) ka ks.length kcp fa fn fc s i w (spL s oo (effL ks o.mods o.tab)) (flL s oo (effL ks o.mods o.tab)) T hL (fun W b => ?_) EFF (fun _ j hj W => ?_) (fun _ j hj W => ?_)
    · refine (ORD W b).mono ?_
      rintro e w' ⟨cp, rfl, b', h | ⟨_, P, gg, cap, rfl, h, h78⟩⟩
      · rw [hd] at h; exact absurd h.1 (by decide)
      · refine ⟨_, rfl, b', Or.inr ⟨trivial, P, rfl, ?_⟩⟩
        exact ord_s (oo := oo) (by rw [← ht]; exact h) h78 hs EN
    · have := mspan_at EN s oo hs j hj W
      rw [← ht] at this
      exact this
    · have := mfilter_at EN s oo hs j hj W
      rw [← ht] at this
      exact this
end
end Go.Proofs.YtgpcmlbmmcnkjaaGreatDoor
