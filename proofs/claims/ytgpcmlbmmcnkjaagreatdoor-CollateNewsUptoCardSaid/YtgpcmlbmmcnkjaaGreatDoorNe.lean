/- CollateNews: the walk, over contracts. -/
import Derived.Test.YtgpcmlbmmcnkjaaGreatDoorNr
import Derived.Test.YtgpcmlbmmcnkjaaGreatDoorKq
import Derived.Deep.Cut
import Derived.Deep.MidRow
import Derived.Deep.RegionHeld3
namespace Go.Proofs.YtgpcmlbmmcnkjaaGreatDoor
open Go.RowKit
set_option maxRecDepth 100000

/-- What an order is asked for, whatever has been written below B since. -/
structure OrdQ (B : Nat) (w4 : World) (P : Nat) (n : Nat) (s : ByteArray) (sp : Value) : Prop where
  lo : B ≤ P
  hi : P < w4.heap.size
  cnt : ∀ W : World, w4.heap.size ≤ W.heap.size → (∀ k, B ≤ k → k < w4.heap.size → W.heap[k]? = w4.heap[k]?) → Calls Tryz.prog 15 #[.pointer (some ⟨P, 0, none⟩)] W (RetBk W (.int .i64 (n : Int)))
  span : ∀ W : World, w4.heap.size ≤ W.heap.size → (∀ k, B ≤ k → k < w4.heap.size → W.heap[k]? = w4.heap[k]?) → Tabs W → Calls Tryz.prog 16 #[.pointer (some ⟨P, 0, none⟩), .string s, .int .i64 0] W (RetBk W sp)
def RetOQ (dd : Prop) (W : World) (n : Nat) (s : ByteArray) (sp : Value) (e : Ending) (w' : World) : Prop :=
  ∃ cp, e = .returned (.tuple #[.pointer cp, .bool true]) ∧ Below W.heap.size W w' ∧ (cp = none ∨ dd ∧ ∃ P, cp = some ⟨P, 0, none⟩ ∧ OrdQ W.heap.size w' P n s sp)
theorem sz_sets (b : Nat) : ∀ (vs : List Value) (o : Nat) (w : World), (w.setCells b o vs).heap.size = w.heap.size
  | [], _, _ => rfl
  | v :: r, o, w => by rw [World.setCells, sz_sets b r]; simp
theorem blk_sets (b : Nat) : ∀ (vs : List Value) (o : Nat) (w : World) (k : Nat), k ≠ b → (w.setCells b o vs).heap[k]? = w.heap[k]?
  | [], _, _, _, _ => rfl
  | v :: r, o, w, k, h => by
    rw [World.setCells, blk_sets b r _ _ k h]
    exact Below.heap_setCell _ _ _ _ h
theorem bel_sets {B b : Nat} (hB : B ≤ b) : ∀ (vs : List Value) (o : Nat) {a w : World}, Below B a w → Below B a (w.setCells b o vs)
  | [], _, _, _, h => h
  | v :: r, o, _, _, h => bel_sets hB r (o + 1) (h.setCell (p := ⟨b, o, none⟩) hB v)
/-- A whole block written over. -/
theorem CellsAt.over {w : World} {b : Nat} {vs xs : List Value} (h : CellsAt w b vs) (hl : xs.length = vs.length) : CellsAt (w.setCells b 0 xs) b xs := by
  have ht : w.there b 0 xs.length := by rw [hl]; exact h.there
  refine ⟨by rw [sz_sets]; exact h.lt, fun j v hv => ?_, fun j => by rw [World.frozen?_setCells]; exact h.free j⟩
  have := World.rangeAt_setCells_same w b 0 xs ht j v hv
  rwa [Nat.zero_add] at this
theorem CellsAt.apart {w : World} {b c o : Nat} {vs xs : List Value} (h : CellsAt w b vs) (hc : b ≠ c) : CellsAt (w.setCells c o xs) b vs :=
  ⟨by rw [sz_sets]; exact h.lt, fun j v hv => by rw [World.cell?_setCells_out _ _ _ _ _ (fun e => absurd e hc)]; exact h.cell j v hv, fun j => by rw [World.frozen?_setCells]; exact h.free j⟩
def zO : List Value := [.slice none 0 0, .int .u16 0, .int .i64 0, .bool false, .bool false, .bool false, .bool false, .int .u8 0, .string { data := #[] }, .bool false, .int .i64 0, .int .i64 0, .int .i64 0, .int .i64 0, .string { data := #[] }, .bool false, .string { data := #[] }, .slice none 0 0]
theorem optC_one1 (o : Opt) (a b : Option Addr) (n c m d : Nat) : (optC o (.slice a n c) (.slice b m d)).toArray.all (·.oneCell') = true := by simp [optC, Value.oneCell']
theorem start_p (w : World) (C : List Value) (hl : C.length = 18) :
    ((w.alloc (.cells C.toArray 28)).alloc (.cells #[.slice none 0 0, .int .u16 0, .int .i64 0, .bool false, .bool false, .bool false, .bool false, .int .u8 0, .string { data := #[] }, .bool false, .int .i64 0, .int .i64 0, .int .i64 0, .int .i64 0, .string { data := #[] }, .bool false, .string { data := #[] }, .slice none 0 0] 28)).there (w.heap.size + 1) 0 C.toArray.size ∧
    CellsAt (((w.alloc (.cells C.toArray 28)).alloc (.cells #[.slice none 0 0, .int .u16 0, .int .i64 0, .bool false, .bool false, .bool false, .bool false, .int .u8 0, .string { data := #[] }, .bool false, .int .i64 0, .int .i64 0, .int .i64 0, .int .i64 0, .string { data := #[] }, .bool false, .string { data := #[] }, .slice none 0 0] 28)).setCells (w.heap.size + 1) 0 C) w.heap.size C ∧
    CellsAt (((w.alloc (.cells C.toArray 28)).alloc (.cells #[.slice none 0 0, .int .u16 0, .int .i64 0, .bool false, .bool false, .bool false, .bool false, .int .u8 0, .string { data := #[] }, .bool false, .int .i64 0, .int .i64 0, .int .i64 0, .int .i64 0, .string { data := #[] }, .bool false, .string { data := #[] }, .slice none 0 0] 28)).setCells (w.heap.size + 1) 0 C) (w.heap.size + 1) C ∧
    Below w.heap.size w (((w.alloc (.cells C.toArray 28)).alloc (.cells #[.slice none 0 0, .int .u16 0, .int .i64 0, .bool false, .bool false, .bool false, .bool false, .int .u8 0, .string { data := #[] }, .bool false, .int .i64 0, .int .i64 0, .int .i64 0, .int .i64 0, .string { data := #[] }, .bool false, .string { data := #[] }, .slice none 0 0] 28)).setCells (w.heap.size + 1) 0 C) ∧
    (((w.alloc (.cells C.toArray 28)).alloc (.cells #[.slice none 0 0, .int .u16 0, .int .i64 0, .bool false, .bool false, .bool false, .bool false, .int .u8 0, .string { data := #[] }, .bool false, .int .i64 0, .int .i64 0, .int .i64 0, .int .i64 0, .string { data := #[] }, .bool false, .string { data := #[] }, .slice none 0 0] 28)).setCells (w.heap.size + 1) 0 C).heap.size = w.heap.size + 2 := by
  have e1 : (w.alloc (Obj.cells C.toArray 28)).heap.size = w.heap.size + 1 := by simp
  have Z0 := CellsAt.new (w.alloc (Obj.cells C.toArray 28)) zO 28
  rw [e1] at Z0
  have A1 := (CellsAt.new w C 28).step ((Below.refl _ _).alloc (Nat.le_refl _) (Obj.cells zO.toArray 28))
  have B1 := ((Below.refl w.heap.size w).alloc (Nat.le_refl _) (Obj.cells C.toArray 28)).alloc (by rw [e1]; omega) (Obj.cells zO.toArray 28)
  have hz : C.length = zO.length := hl
  refine ⟨?_, A1.apart (by omega), Z0.over hz, bel_sets (by omega) C 0 B1, by rw [sz_sets]; simp⟩
  have := Z0.there
  rw [show C.toArray.size = zO.length from by rw [← hz]; simp]
  exact this
theorem optC_ld (o : Opt) (kv fv : Value) : (Tryz.prog.info? 28).map (·.size) = some (optC o kv fv).length := by kernel_rfl
/-- The twin's keys from number k on. -/
structure TwAt (w w4 wr : World) (g1 : Nat) (ks : List KeyL) (k : Nat) : Prop where
  size : wr.heap.size = w4.heap.size
  rest : ∀ b, b ≠ g1 → wr.heap[b]? = w4.heap[b]?
  bel : Below w.heap.size w wr
  cells : ∀ j u, k * 6 ≤ j → (ksV ks)[j]? = some u → wr.cell? ⟨g1, j, none⟩ = some u
  there : ∀ j, j < ks.length * 6 → (wr.cell? ⟨g1, j, none⟩).isSome = true ∧ wr.frozen? ⟨g1, j, none⟩ = false

theorem own_slat {w : World} {B cp : Nat} {ao : Option Addr} {ks : List KeyL} (h : w.ownsRow B 35 6 (.slice ao ks.length cp) ks.length (ksV ks)) : SlAt w w.heap.size (.slice ao ks.length cp) 6 ks.length (ksV ks) := by
  refine ⟨ksV_len ks, ?_⟩
  by_cases hn : ks.length = 0
  · left
    refine ⟨?_, hn⟩
    rcases h.2 with ⟨e, _⟩ | ⟨g, cap, cur, e, _⟩
    · exact Or.inl e
    · exact Or.inr ⟨_, _, e.trans (by rw [hn])⟩
  · obtain ⟨g, c, e, _, hl, hr, _⟩ := own_row h hn
    exact Or.inr ⟨g, 0, c, e, hl, hr⟩
def GAt (w w2 w4 : World) (n g1 : Nat) (ao : Option Addr) : Prop := (n = 0 ∧ g1 = w4.heap.size) ∨ (ao = some ⟨g1, 0, none⟩ ∧ w.heap.size + 2 ≤ g1 ∧ g1 < w2.heap.size)
theorem tw_start {w w2 w4 : World} {cp : Nat} {ao : Option Addr} {ks : List KeyL} (h : w2.ownsRow (w.heap.size + 2) 35 6 (.slice ao ks.length cp) ks.length (ksV ks)) (b : Below w2.heap.size w2 w4) (bw : Below w.heap.size w w4) :
    ∃ g1, GAt w w2 w4 ks.length g1 ao ∧ TwAt w w4 w4 g1 ks 0 := by
  by_cases hn : ks.length = 0
  · have : ks = [] := List.eq_nil_of_length_eq_zero hn
    subst this
    exact ⟨w4.heap.size, Or.inl ⟨rfl, rfl⟩, rfl, fun _ _ => rfl, bw, fun j u _ hu => by simp [ksV] at hu, fun j hj => by simp at hj⟩
  · obtain ⟨g, c, e, hB, hl, hr, hf⟩ := own_row h hn
    injection e with e1
    have hc : ∀ j u, (ksV ks)[j]? = some u → w4.cell? ⟨g, j, none⟩ = some u := fun j u hu => by
      rw [b.cell (p := ⟨g, j, none⟩) hl]
      have := hr j u hu
      rwa [Nat.zero_add] at this
    refine ⟨g, Or.inr ⟨e1, hB, hl⟩, rfl, fun _ _ => rfl, bw, fun j u _ hu => hc j u hu, fun j hj => ?_⟩
    have hj' : j < (ksV ks).length := by rw [ksV_len]; exact hj
    rw [hc j _ (List.getElem?_eq_getElem hj'), b.frozen (p := ⟨g, j, none⟩) hl]
    exact ⟨rfl, hf j⟩
theorem TwAt.cell {w w4 wr : World} {g1 k b o : Nat} {ks : List KeyL} {u : Value} (h : TwAt w w4 wr g1 ks k) (hb : b ≠ g1) (hc : w4.cell? ⟨b, o, none⟩ = some u) : wr.cell? ⟨b, o, none⟩ = some u :=
  (World.cell?_of_block (a := ⟨b, o, none⟩) (h.rest b hb)).trans hc
theorem info35 : (Tryz.prog.info? 35).map (·.size) = some 6 := by kernel_rfl
def k7 : List Value := [.int .i64 7, .int .i64 7, .int .i64 0, .int .i64 0, .int .u16 0, .bool false]
theorem k7_one : k7.toArray.all (·.oneCell') = true := by simp [k7, Value.oneCell']
theorem TwAt.next {w w4 wr : World} {g1 k n : Nat} {ks : List KeyL} (h : TwAt w w4 wr g1 ks k) (hg : w.heap.size ≤ g1) : TwAt w w4 ((wr.drewN n).setCells g1 (k * 6) k7) g1 ks (k + 1) := by
  refine ⟨by rw [sz_sets]; exact h.size, fun b hb => (blk_sets _ _ _ _ _ hb).trans (h.rest b hb), bel_sets hg k7 _ (bdrewK h.bel n), fun j u hj hu => ?_, fun j hj => ?_⟩
  · rw [World.cell?_setCells_out _ _ _ _ _ (fun _ _ => Or.inr (by show k * 6 + 6 ≤ j; omega))]
    exact h.cells j u (by omega) hu
  · have := h.there j hj
    exact ⟨World.isSome_setCells _ _ _ _ _ this.1, by rw [World.frozen?_setCells]; exact this.2⟩
def TwRel (w w4 : World) (g1 : Nat) (ks : List KeyL) (i : Value) (wr : World) : Prop := ∃ k : Nat, k ≤ ks.length ∧ i = .int .i64 k ∧ TwAt w w4 wr g1 ks k
structure NewsAt (w W : World) (C : List Value) (g m : Nat) (K : KeyL) (t sp0 sp1 : Int) : Prop where
  tab : W.cell? ⟨w.heap.size, 2, none⟩ = some (.int .i64 t)
  key : W.cell? ⟨g, 0, none⟩ = some (.int .i64 K.f) ∧ W.cell? ⟨g, 1, none⟩ = some (.int .i64 K.c) ∧ W.cell? ⟨g, 2, none⟩ = some (.int .i64 K.ef) ∧ W.cell? ⟨g, 3, none⟩ = some (.int .i64 K.ec) ∧ W.cell? ⟨g, 4, none⟩ = some (.int .u16 K.m) ∧ W.cell? ⟨g, 5, none⟩ = some (.bool K.b)
  lo : w.heap.size < W.heap.size
  lg : g < W.heap.size
  bel : Below w.heap.size w W
  sp : CellsAt W m [.int .i64 sp0, .int .i64 sp1]
theorem NewsAt.step {w W W' : World} {C : List Value} {g m : Nat} {K : KeyL} {t sp0 sp1 : Int} (h : NewsAt w W C g m K t sp0 sp1) (b : Below W.heap.size W W') : NewsAt w W' C g m K t sp0 sp1 := by
  have q : ∀ j u, W.cell? ⟨g, j, none⟩ = some u → W'.cell? ⟨g, j, none⟩ = some u := fun j u hu => (b.cell (p := ⟨g, j, none⟩) h.lg).trans hu
  obtain ⟨k0, k1, k2, k3, k4, k5⟩ := h.key
  exact ⟨(b.cell (p := ⟨w.heap.size, 2, none⟩) h.lo).trans h.tab, ⟨q _ _ k0, q _ _ k1, q _ _ k2, q _ _ k3, q _ _ k4, q _ _ k5⟩, Nat.lt_of_lt_of_le h.lo b.size, Nat.lt_of_lt_of_le h.lg b.size, h.bel.trans (b.mono h.bel.size), h.sp.step b⟩
set_option maxHeartbeats 6400000 in
theorem news_g (dd : Prop) (o : Opt) (ks L : List KeyL) (kv : Value) (fa : Option Addr) (fn fc : Nat) (s : ByteArray) (w : World) (sp0 sp1 : Int) (hk : SlAt w w.heap.size kv 6 ks.length (ksV ks)) (hkl : ks.length ≤ 1048576) (T : Tabs w) (hL : L ≠ [])
    (ORD : ∀ (v : Value) (W : World), SlAt W W.heap.size v 6 ks.length (ksV ks) → Below w.heap.size w W →
      Calls Tryz.prog 13 #[optV o v (.slice fa fn fc)] W (RetOQ dd W L.length s (.agg #[.int .i64 sp0, .int .i64 sp1])))
    (EFF : ∀ W : World, Below w.heap.size w W → Calls Tryz.prog 14 #[optV o kv (.slice fa fn fc)] W (RetKeys W L))
    (MSP : dd → ∀ (K : KeyL) (W : World), L[0]? = some K → Calls Tryz.prog 17 #[.string s, .agg (kc K).toArray, .int .i64 o.tab] W (RetBk W (.agg #[.int .i64 sp0, .int .i64 sp1]))) :
    Calls Tryz.prog 6 #[optV o kv (.slice fa fn fc), .string s] w (RetBk w (.bool true)) := by
  obtain ⟨ak, ck, rfl⟩ := sl_shape hk
  obtain ⟨C, hC⟩ : ∃ C, C = optC o (.slice ak ks.length ck) (.slice fa fn fc) := ⟨_, rfl⟩
  have HC := Lib.hid hC
  obtain ⟨t0, a2, p2, b2, n2⟩ := start_p w C (by rw [hC]; rfl)
  have R0 := Lib.hid (CellsAt.new w C 28).range
  have T0 := Lib.hid t0
  have A2 := Lib.hid a2
  have P2 := Lib.hid p2
  have B2 := Lib.hid b2
  have N2 := Lib.hid n2
  have LD := Lib.hid (show (Tryz.prog.info? 28).map (·.size) = some C.length by rw [hC]; exact optC_ld _ _ _)
  have LD2 := Lib.hid (show (Tryz.prog.info? 28).map (·.size) = some C.toArray.size by rw [hC]; exact optC_ld _ _ _)
  have ON := Lib.hid (show C.toArray.all (·.oneCell') = true by rw [hC]; exact optC_one1 _ _ _ _ _ _ _)
  have HK := Lib.hid hk
  have HT := Lib.hid T
  have HKL := Lib.hid hkl
  have HLL := Lib.hid hL
  have HO := Lib.hid ORD
  have HE := Lib.hid EFF
  have HM := Lib.hid MSP
  clear hk T hkl hL ORD EFF MSP t0 a2 p2 b2 n2
  unfold optV at HO HE ⊢
  rw [← hC] at HE ⊢
  clear hC
  go_enter Tryz.func6, Tryz.ntmps6
  go_upto_region 2 with first
    | (guard_target =~ wpList _ _ _ (⟨some _, Op.load 28 _, _, _, _, _⟩ :: _) _ _; go_must (refine wpList_load_mid rfl 28 _ rfl w.heap.size 0 rfl C _ R0.out Tryz.underlying28 rfl LD.out ?_))
    | (guard_target =~ wpList _ _ _ (⟨none, Op.store 28 _ _, _, _, _, _⟩ :: _) _ _; go_must (refine wpList_store_mid rfl 28 _ _ rfl (w.heap.size + 1) 0 C.toArray rfl rfl T0.out LD2.out ON.out ?_; rw [List.toList_toArray]))
  clear T0 R0 ON LD2
  generalize (((w.alloc (Obj.cells C.toArray 28)).alloc (Obj.cells #[.slice none 0 0, .int .u16 0, .int .i64 0, .bool false, .bool false, .bool false, .bool false, .int .u8 0, .string { data := #[] }, .bool false, .int .i64 0, .int .i64 0, .int .i64 0, .int .i64 0, .string { data := #[] }, .bool false, .string { data := #[] }, .slice none 0 0] 28)).setCells (w.heap.size + 1) 0 C) = x at *
  have a0 := A2.out.cell 0 (.slice ak ks.length ck) (by rw [HC.out]; rfl)
  have p0 := P2.out.cell 0 (.slice ak ks.length ck) (by rw [HC.out]; rfl)
  have pf := P2.out.free 0
  go_wp2_with (at_builtin; refine wp_copyK rfl _ _ rfl (w.heap.size + 2) (by rw [N2.out]; exact Nat.le_refl _) rfl (.slice ak ks.length ck) rfl ks w.heap.size (HK.out.keep B2.out (Nat.le_refl _)) (by have := HKL.out; omega) ?_)
  intro v1 w1 h1 hb1
  obtain ⟨ao1, cp1, rfl⟩ := own_slice h1
  have V := Lib.hid (rfl : (Value.slice ao1 ks.length cp1) = .slice ao1 ks.length cp1)
  have hC' : C.set 0 (.slice ao1 ks.length cp1) = optC o (.slice ao1 ks.length cp1) (.slice fa fn fc) := by rw [HC.out]; rfl
  have A3 := Lib.hid ((A2.out.step hb1).other (show w.heap.size + 1 ≠ w.heap.size by omega) 0 (.slice ao1 ks.length cp1))
  have hp3 := (P2.out.step hb1).set 0 (.slice ao1 ks.length cp1) (by rw [HC.out]; exact Nat.succ_pos _)
  rw [hC'] at hp3
  have P3 := Lib.hid hp3
  have R3 := Lib.hid hp3.range
  have O3 := Lib.hid (own_set h1 (w.heap.size + 1) (by omega) 0 (.slice ao1 ks.length cp1))
  have B3 := Lib.hid ((B2.out.trans (hb1.mono (by rw [N2.out]; omega))).setCell (p := ⟨w.heap.size + 1, 0, none⟩) (by show w.heap.size ≤ w.heap.size + 1; omega) (.slice ao1 ks.length cp1))
  have N3 := Lib.hid (show w.heap.size + 2 ≤ (w1.setCell ⟨w.heap.size + 1, 0, none⟩ (.slice ao1 ks.length cp1)).heap.size by have := hb1.size; rw [N2.out] at this; simpa using this)
  have q0 := (P2.out.step hb1).cell 0 _ (show C[0]? = some (.slice ak ks.length ck) by rw [HC.out]; rfl)
  have qf := (P2.out.step hb1).free 0
  clear h1 hb1 hp3 hC' A2 P2 B2 N2 a0 p0 pf
  go_upto_region 3 with fail
  generalize w1.setCell ⟨w.heap.size + 1, 0, none⟩ (.slice ao1 ks.length cp1) = w2 at *
  clear q0 qf
  go_wp2_with first
    | (guard_target =~ wpList _ _ _ (⟨some _, Op.load 28 _, _, _, _, _⟩ :: _) _ _; go_must (refine wpList_load_mid rfl 28 _ rfl (w.heap.size + 1) 0 rfl (optC o (.slice ao1 ks.length cp1) (.slice fa fn fc)) _ R3.out Tryz.underlying28 rfl (optC_ld _ _ _) ?_))
    | (go_at_call 13; refine (HO.out _ _ (own_slat O3.out) B3.out).mono ?_)
  rintro e w4 ⟨cp, rfl, b4, h4⟩
  obtain ⟨g1, hg, ht⟩ := tw_start (cp := cp1) O3.out b4 (B3.out.trans (b4.mono (by have := N3.out; omega)))
  have A4 := Lib.hid (A3.out.step b4)
  have P4 := Lib.hid (P3.out.step b4)
  have HQ := Lib.hid h4
  have HG := Lib.hid hg
  have TW := Lib.hid ht
  have S4 := Lib.hid b4.size
  have K4 := Lib.hid (HK.out.keep (B3.out.trans (b4.mono (by have := N3.out; omega))) (Nat.le_refl _))
  clear b4 h4 hg ht A3 P3 R3 O3 HO
  have a0 := A4.out.cell 0 (.slice ak ks.length ck) (by rw [HC.out]; rfl)
  have p0 := P4.out.cell 0 (.slice ao1 ks.length cp1) rfl
  go_wp2_with fail
  clear a0 p0
  go_loopw [8] (fun i wr => TwRel w w4 g1 ks i wr) (fun i _ => ks.length - (intOf i).toNat)
  case atStart => exact ⟨0, Nat.zero_le _, rfl, TW.out⟩
  case round =>
    obtain ⟨k, hk, rfl, htw⟩ := hrel
    have gn0 : w.heap.size ≠ g1 := by
      have := S4.out; have := N3.out
      rcases HG.out with ⟨_, h⟩ | ⟨_, h, _⟩ <;> omega
    have gn1 : w.heap.size + 1 ≠ g1 := by
      have := S4.out; have := N3.out
      rcases HG.out with ⟨_, h⟩ | ⟨_, h, _⟩ <;> omega
    have a0 := htw.cell gn0 (A4.out.cell 0 (.slice ak ks.length ck) (by rw [HC.out]; rfl))
    have p0 := htw.cell gn1 (P4.out.cell 0 (.slice ao1 ks.length cp1) rfl)
    have HTW := Lib.hid htw
    clear htw TW
    by_cases hlt : k < ks.length
    · have t0 : decide (k < ks.length) = true := decide_eq_true hlt
      obtain ⟨rfl, hgl, hgh⟩ : ao1 = some ⟨g1, 0, none⟩ ∧ w.heap.size + 2 ≤ g1 ∧ g1 < w2.heap.size := by
        rcases HG.out with ⟨h, _⟩ | h
        · omega
        · exact h
      obtain ⟨b, off, rfl, hb, hc⟩ : ∃ b off, ak = some ⟨b, off, none⟩ ∧ b < w.heap.size ∧ ∀ j u, (ksV ks)[j]? = some u → w4.cell? ⟨b, off + j, none⟩ = some u := by
        rcases K4.out.2 with ⟨_, h0⟩ | ⟨b, off, c', h, hb, hc⟩
        · omega
        · injection h with h1
          exact ⟨b, off, h1, hb, hc⟩
      have tj : ∀ j u, (kc ks[k])[j]? = some u → wr.cell? ⟨g1, k * 6 + j, none⟩ = some u := fun j u hu => by
        have hj : j < 6 := (List.getElem?_eq_some_iff.1 hu).1
        exact HTW.out.cells _ _ (by omega) ((ksV_at ks k hlt j hj).trans hu)
      have oj : ∀ j u, (kc ks[k])[j]? = some u → wr.cell? ⟨b, off + (k * 6 + j), none⟩ = some u := fun j u hu => by
        have hj : j < 6 := (List.getElem?_eq_some_iff.1 hu).1
        exact HTW.out.cell (by omega) (hc _ _ ((ksV_at ks k hlt j hj).trans hu))
      have TH := Lib.hid (show wr.there g1 (k * 6) 6 from fun j hj => HTW.out.there _ (by omega))
      have t_0 := tj 0 _ rfl
      have t_1 := tj 1 _ rfl
      have t_2 := tj 2 _ rfl
      have t_3 := tj 3 _ rfl
      have t_4 := tj 4 _ rfl
      have t_5 := tj 5 _ rfl
      have o_0 := oj 0 _ rfl
      have o_1 := oj 1 _ rfl
      have o_2 := oj 2 _ rfl
      have o_3 := oj 3 _ rfl
      have o_4 := oj 4 _ rfl
      have o_5 := oj 5 _ rfl
      simp only [← Nat.add_assoc, Nat.add_zero] at t_0 o_0 o_1 o_2 o_3 o_4 o_5
      have GL := Lib.hid hgl
      clear tj oj hc hb hgl hgh
      generalize ks[k] = K at *
      go_upto_region 9 with fail
      go_quiet (fail)
      have p0' : (wr.drewN nq).cell? ⟨w.heap.size + 1, 0, none⟩ = some (.slice (some ⟨g1, 0, none⟩) ks.length cp1) := p0
      have HTH := Lib.hid (show (wr.drewN nq).there g1 (k * 6) 6 from TH.out)
      clear t_0 t_1 t_2 t_3 t_4 t_5 o_0 o_1 o_2 o_3 o_4 o_5 a0 p0
      go_wp2_with (guard_target =~ wpList _ _ _ (⟨none, Op.store 35 _ _, _, _, _, _⟩ :: _) _ _; go_must (refine wpList_store_mid rfl 35 _ _ rfl g1 (k * 6) k7.toArray rfl rfl HTH.out info35 k7_one ?_; rw [List.toList_toArray]))
      have e1 : wrap64 ((k : Int) + 1) = ((k + 1 : Nat) : Int) := by have := HKL.out; unfold wrap64; omega
      rw [e1]
      refine ⟨⟨k + 1, hlt, rfl, HTW.out.next (by have := GL.out; omega)⟩, ?_⟩
      have e2 : ∀ m : Nat, (intOf (.int .i64 (m : Int))).toNat = m := fun m => by show ((m : Int)).toNat = m; exact Int.toNat_natCast m
      rw [e2, e2]
      omega
    · have t0 : decide (k < ks.length) = false := decide_eq_false hlt
      have q0 := a0
      clear a0
      go_upto_region 12 with fail
      have gk : ∀ b, w2.heap.size ≤ b → b < w4.heap.size → b ≠ g1 := by
        intro b h1 h2
        rcases HG.out with ⟨_, h⟩ | ⟨_, _, h⟩ <;> omega
      have A5 := Lib.hid ((A4.out.agree (HTW.out.rest _ gn0) (by rw [HTW.out.size]; exact Nat.le_refl _)).range)
      have GK := Lib.hid gk
      have A4' := Lib.hid A4.out
      have hq := HQ.out
      clear gk HQ A4 P4 K4 q0 p0
      rcases hq with rfl | ⟨hd, P, rfl, OQ⟩
      · go_wp2_with fail
        go_ret
        exact ⟨rfl, HTW.out.bel⟩
      · have AG : ∀ W : World, Below wr.heap.size wr W → w4.heap.size ≤ W.heap.size ∧ (∀ k, w2.heap.size ≤ k → k < w4.heap.size → W.heap[k]? = w4.heap[k]?) := fun W b =>
          ⟨by rw [← HTW.out.size]; exact b.size, fun k h1 h2 => (b.block k (by rw [HTW.out.size]; exact h2)).trans (HTW.out.rest k (GK.out k h1 h2))⟩
        have HAG := Lib.hid AG
        have HOQ := Lib.hid OQ
        clear AG OQ
        go_wp2_with first
          | (guard_target =~ wpList _ _ _ (⟨some _, Op.load 28 _, _, _, _, _⟩ :: _) _ _; go_must (refine wpList_load_mid rfl 28 _ rfl w.heap.size 0 rfl C _ A5.out Tryz.underlying28 rfl LD.out ?_))
          | (go_at_call 14; refine (HE.out _ HTW.out.bel).mono ?_)
        rintro e w5 ⟨g, cl, rfl, hg5, hg6, hr5, b5⟩
        have G5 := Lib.hid hg5
        have G6 := Lib.hid hg6
        have R5 := Lib.hid hr5
        have B5 := Lib.hid b5
        have B5' := Lib.hid (HTW.out.bel.trans (b5.mono HTW.out.bel.size))
        clear hg5 hg6 hr5 b5
        go_wp2_with (go_at_call 15; refine (HOQ.out.cnt _ (HAG.out _ B5.out).1 (HAG.out _ B5.out).2).mono ?_)
        rintro e w6 ⟨rfl, b6⟩
        have B6 := Lib.hid (B5.out.trans (b6.mono B5.out.size))
        have B6' := Lib.hid (B5'.out.trans (b6.mono B5'.out.size))
        have R6 := Lib.hid (range_below R5.out b6 G6.out)
        have L6 := Lib.hid (Nat.lt_of_lt_of_le G6.out b6.size)
        clear b6 R5 G6
        go_wp2_with (go_at_call 16; refine (HOQ.out.span _ (HAG.out _ B6.out).1 (HAG.out _ B6.out).2 (HT.out.below B6'.out)).mono ?_)
        rintro e w7 ⟨rfl, b7⟩
        have B7 := Lib.hid (B6.out.trans (b7.mono B6.out.size))
        have B7' := Lib.hid (B6'.out.trans (b7.mono B6'.out.size))
        have R7 := Lib.hid (range_below R6.out b7 L6.out)
        have L7 := Lib.hid (Nat.lt_of_lt_of_le L6.out b7.size)
        clear b7 R6 L6
        obtain ⟨K0, L', rfl⟩ : ∃ K0 L', L = K0 :: L' := by
          cases L with
          | nil => exact absurd rfl HLL.out
          | cons a b => exact ⟨a, b, rfl⟩
        have hM := Lib.hid (show ∀ W, Calls Tryz.prog 17 #[.string s, .agg #[.int .i64 K0.f, .int .i64 K0.c, .int .i64 K0.ef, .int .i64 K0.ec, .int .u16 (K0.m : Int), .bool K0.b], .int .i64 o.tab] W (RetBk W (.agg #[.int .i64 sp0, .int .i64 sp1])) from fun W => HM.out hd K0 W rfl)
        have hA0 := (CellsAt.agree A4'.out (HTW.out.rest _ gn0) (by rw [HTW.out.size]; exact Nat.le_refl _)).step B7.out
        have hn0 : (0 : Int) < ((K0 :: L').length : Int) := by simp
        have hn1 : 0 < (K0 :: L').length := by simp
        have hR0 := R7.out
        have hX := CellsAt.new w7 [.int .i64 sp0, .int .i64 sp1] 41
        have bX : Below w7.heap.size w7 (w7.alloc (.cells #[.int .i64 sp0, .int .i64 sp1] 41)) := (Below.refl _ _).alloc (Nat.le_refl _) _
        have hA1 := Lib.hid (hA0.step bX)
        have hR1 := Lib.hid (range_below hR0 bX L7.out)
        have hW1 := Lib.hid (B7'.out.trans (bX.mono B7'.out.size))
        have hL1 := Lib.hid (Nat.lt_of_lt_of_le L7.out bX.size)
        have hX1 := Lib.hid hX
        clear hA0 hR0 hX bX HM HE HOQ HAG B7 B7' R7 L7 B5 B5' B6 B6' A5 G5 GK HTW gn0 gn1
        go_upto_region 17 with fail
        generalize (K0 :: L').length = n at *
        generalize hXX : w7.alloc (Obj.cells #[.int .i64 sp0, .int .i64 sp1] 41) = x at *
        clear hXX
        have hN0 : NewsAt w x C g w7.heap.size K0 o.tab sp0 sp1 := by
          have r := hR1.out
          have q : ∀ j u, (kc K0)[j]? = some u → x.cell? ⟨g, j, none⟩ = some u := fun j u hu => by
            have hj : j < 6 := (List.getElem?_eq_some_iff.1 hu).1
            have := r j u (by rw [← hu]; unfold ksV; rw [List.flatMap_cons, List.getElem?_append_left hj])
            rwa [Nat.zero_add] at this
          exact ⟨hA1.out.cell 2 (.int .i64 o.tab) (by rw [HC.out]; rfl), ⟨q 0 _ rfl, q 1 _ rfl, q 2 _ rfl, q 3 _ rfl, q 4 _ rfl, q 5 _ rfl⟩, hA1.out.lt, hL1.out, hW1.out, hX1.out⟩
        obtain ⟨k0, k1, k2, k3, k4, k5⟩ := hN0.key
        have c2 := hN0.tab
        have bd : Below x.heap.size x x.drew := (Below.refl _ _).drew
        have hD := hN0.step bd
        have hE0 := hN0.step ((Below.refl _ _).alloc (Nat.le_refl _) (.cells #[.int .i64 0, .int .i64 0] 41))
        have hE := hE0.step ((Below.refl _ _).drew)
        have hZ := (CellsAt.new x [.int .i64 0, .int .i64 0] 41).step ((Below.refl _ _).drew)
        have HD := Lib.hid hD
        have HE := Lib.hid hE
        have HZ := Lib.hid hZ
        have ne1 : w.heap.size ≠ x.heap.size := by have := hN0.lo; omega
        have ne2 : g ≠ x.heap.size := by have := hN0.lg; omega
        have ne3 := ne1.symm
        have ne4 := ne2.symm
        have ne5 : w7.heap.size ≠ x.heap.size := by have := hN0.sp.lt; omega
        have NE := Lib.hid (⟨ne1, ne2, ne5⟩ : _ ∧ _ ∧ _)
        have HX := Lib.hid (show w.heap.size ≤ x.heap.size by have := hN0.lo; omega)
        clear hA1 hR1 hW1 hL1 hX1 hN0 bd hD hE0 hE hZ
        go_region_held3 (fun w' => w'.cell? ⟨w.heap.size, 2, none⟩ = some (.int .i64 o.tab) ∧ w'.cell? ⟨g, 0, none⟩ = some (.int .i64 K0.f) ∧ w'.cell? ⟨g, 1, none⟩ = some (.int .i64 K0.c) ∧ w'.cell? ⟨g, 2, none⟩ = some (.int .i64 K0.ef) ∧ w'.cell? ⟨g, 3, none⟩ = some (.int .i64 K0.ec) ∧ w'.cell? ⟨g, 4, none⟩ = some (.int .u16 K0.m) ∧ w'.cell? ⟨g, 5, none⟩ = some (.bool K0.b))
          (first | go_keep)
          ((first
            | (go_at_call 17; ((with_reducible refine (hM.out x.drew).mono ?_); rintro ee w8 ⟨rfl, hbb⟩; have qq := HD.out.step hbb; have c2 := qq.tab; have k0 := qq.key.1; have k1 := qq.key.2.1; have k2 := qq.key.2.2.1; have k3 := qq.key.2.2.2.1; have k4 := qq.key.2.2.2.2.1; have k5 := qq.key.2.2.2.2.2))
            | (go_at_call 17; ((with_reducible refine (hM.out (x.alloc (.cells #[.int .i64 0, .int .i64 0] 41)).drew).mono ?_); rintro ee w8 ⟨rfl, hbb⟩; have qq := HE.out.step hbb; have c2 := qq.tab; have k0 := qq.key.1; have k1 := qq.key.2.1; have k2 := qq.key.2.2.1; have k3 := qq.key.2.2.2.1; have k4 := qq.key.2.2.2.2.1; have k5 := qq.key.2.2.2.2.2; have zz := HZ.out.step hbb; have z0 := zz.cell 0 _ rfl; have z1 := zz.cell 1 _ rfl; have y0 := zz.free 0; have y1 := zz.free 1))))
        · have sA := qq.sp.step ((Below.refl _ _).alloc (Nat.le_refl _) (.cells #[.int .i64 sp0, .int .i64 sp1] 41))
          have s0 := sA.cell 0 _ rfl
          have s1 := sA.cell 1 _ rfl
          have BF := Lib.hid (qq.bel.alloc qq.bel.size (.cells #[.int .i64 sp0, .int .i64 sp1] 41))
          have ne6 : w7.heap.size ≠ w8.heap.size := by have := qq.sp.lt; omega
          clear sA qq hbb
          go_wp2_with fail
          go_ret
          refine ⟨?_, BF.out⟩
          simp
        · have sA := (qq.sp.other NE.out.2.2.symm 0 (.int .i64 sp0)).other NE.out.2.2.symm 1 (.int .i64 sp1)
          have s0 := sA.cell 0 _ rfl
          have s1 := sA.cell 1 _ rfl
          have zA := (zz.set 0 (.int .i64 sp0) (by simp)).set 1 (.int .i64 sp1) (by simp)
          have z2 := zA.cell 0 _ rfl
          have z3 := zA.cell 1 _ rfl
          have BF := Lib.hid ((qq.bel.setCell (p := ⟨x.heap.size, 0, none⟩) (by show w.heap.size ≤ x.heap.size; exact HX.out) (.int .i64 sp0)).setCell (p := ⟨x.heap.size, 1, none⟩) (by show w.heap.size ≤ x.heap.size; exact HX.out) (.int .i64 sp1))
          clear sA qq hbb zA zz
          go_wp2_with fail
          go_ret
          refine ⟨?_, BF.out⟩
          simp
end Go.Proofs.YtgpcmlbmmcnkjaaGreatDoor
