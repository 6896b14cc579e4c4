/- CollateTurned: the walk. -/
import Derived.Test.YtgpcmlbmmcnkjaaGreatDoorTk
import Derived.Test.YtgpcmlbmmcnkjaaGreatDoorTx
import Derived.Deep.RegionHeld3
namespace Go.Proofs.YtgpcmlbmmcnkjaaGreatDoor
section
open Go.RowKit
set_option maxRecDepth 100000
/-- Nothing has been written from Lo on. -/
def Kept (Lo : Nat) (w' W2 : World) : Prop := w'.heap.size ≤ W2.heap.size ∧ ∀ k, Lo ≤ k → k < w'.heap.size → W2.heap[k]? = w'.heap[k]?
theorem Kept.refl (Lo : Nat) (w : World) : Kept Lo w w := ⟨Nat.le_refl _, fun _ _ _ => rfl⟩
theorem Kept.below {Lo : Nat} {w' W W2 : World} (h : Kept Lo w' W) (b : Below W.heap.size W W2) : Kept Lo w' W2 :=
  ⟨Nat.le_trans h.1 b.size, fun k h1 h2 => (b.block k (Nat.lt_of_lt_of_le h2 h.1)).trans (h.2 k h1 h2)⟩
theorem Kept.set {Lo p : Nat} {w' W : World} (h : Kept Lo w' W) (hp : p < Lo) (j : Nat) (v : Value) : Kept Lo w' (W.setCell ⟨p, j, none⟩ v) :=
  ⟨by simpa using h.1, fun k h1 h2 => (Below.heap_setCell W ⟨p, j, none⟩ v k (by show k ≠ p; omega)).trans (h.2 k h1 h2)⟩
structure OrdL (W : World) (Lo P gg cap : Nat) (b1 b2 : Bool) (D : List (KeyL × Value)) (t : Int) : Prop where
  k : OrdK W P gg cap b1 b2 D t
  lp : Lo ≤ P
  lg : Lo ≤ gg
  kh : ∀ i (h : i < D.length), ∃ B, Lo ≤ B ∧ KeyH W B (D[i].1.m &&& 512) (D[i].1.m &&& 496) (letsS D[i].1.m) (foldS D[i].1.m) D[i].2
theorem OrdL.kept {W W2 : World} {Lo P gg cap : Nat} {b1 b2 : Bool} {D : List (KeyL × Value)} {t : Int} (h : OrdL W Lo P gg cap b1 b2 D t) (k : Kept Lo W W2) : OrdK W2 P gg cap b1 b2 D t := by
  have hp : ∀ j, W2.cell? ⟨P, j, none⟩ = W.cell? ⟨P, j, none⟩ := fun j => World.cell?_of_block (a := ⟨P, j, none⟩) (k.2 P h.lp h.k.hP)
  have hg : ∀ j, W2.cell? ⟨gg, j, none⟩ = W.cell? ⟨gg, j, none⟩ := fun j => World.cell?_of_block (a := ⟨gg, j, none⟩) (k.2 gg h.lg h.k.hg)
  refine ⟨Nat.lt_of_lt_of_le h.k.hP k.1, Nat.lt_of_lt_of_le h.k.hg k.1, (hp 0).trans h.k.c0, (hp 1).trans h.k.c1, (hp 2).trans h.k.c2, fun i hi => ?_, fun i hi => (hg _).trans (h.k.c9 i hi), fun i hi => ?_⟩
  · obtain ⟨k0, k1, k2, k3, k4, k5, k6, k7⟩ := h.k.kc i hi
    exact ⟨(hg _).trans k0, (hg _).trans k1, (hg _).trans k2, (hg _).trans k3, (hg _).trans k4, (hg _).trans k5, (hg _).trans k6, Nat.lt_of_lt_of_le k7 k.1⟩
  · obtain ⟨B, hB, q⟩ := h.kh i hi
    exact ⟨B, q.agree k.1 (fun b h1 h2 => k.2 b (Nat.le_trans hB h1) h2)⟩
def RetD (dd : Bool) (a b : ByteArray) (x z : Int) (W : World) (e : Ending) (w' : World) : Prop :=
  Below W.heap.size W w' ∧ ((dd = false ∧ e = .returned (.tuple #[.pointer none, .bool true])) ∨ (dd = true ∧ ∃ P, e = .returned (.tuple #[.pointer (some ⟨P, 0, none⟩), .bool true]) ∧ ∀ W2, Kept W.heap.size w' W2 → Tbs W2 →
    Calls Tryz.prog 11 #[.pointer (some ⟨P, 0, none⟩), .string a, .string b] W2 (RetBk W2 (.int .i64 x)) ∧ Calls Tryz.prog 12 #[.pointer (some ⟨P, 0, none⟩), .string a, .string b] W2 (RetBk W2 (.int .i64 z))))
theorem mayD_ok (o : Opt) (ks : List KeyL) (kv fv : Value) (a b : ByteArray) (W : World) (hmm : o.mods < 65536) (hm : ∀ k ∈ ks, k.m < 65536) (hk : SlAt W W.heap.size kv 6 ks.length (ksV ks)) (hkl : ks.length ≤ 1048576) (ha : a.size ≤ 1048576) (hb : b.size ≤ 1048576) :
    Calls Tryz.prog 10 #[optV o kv fv] W (RetD (docS ks o.mods o.tab) a b (cpS (!o.stable && !o.unique) (!decide (o.mods &&& 512 = 0)) (tabO o.tab) (effL ks o.mods o.tab) a b) (kyS (tabO o.tab) (effL ks o.mods o.tab) a b) W) := by
  cases hd : docS ks o.mods o.tab with
  | false =>
    refine (may_out o ks kv fv W hmm hm hk hd).mono ?_
    rintro e w' ⟨rfl, hb'⟩
    exact ⟨hb', Or.inl ⟨rfl, rfl⟩⟩
  | true =>
    refine (may_in o ks kv fv W hmm hm hk hd).mono ?_
    rintro e w' ⟨W0, P, R, g, kv', fv', v, D, rfl, hD, hb0, hN⟩
    obtain ⟨oo, ht⟩ := docS_tab hd
    have EN : Nats (D.map Prod.fst) := by rw [hD]; exact eff_nats hd
    have hl : D.length = (effL ks o.mods o.tab).length := by rw [← hD, List.length_map]
    have hle : D.length ≤ 1099511627776 := by have := eff_lenT ks o.mods o.tab; omega
    have h0 : 0 < D.length := by rw [hl]; exact List.length_pos_iff.2 (eff_ne ks o.mods o.tab)
    obtain ⟨gg, cap, K⟩ := hN.ordK h0
    have hsl : ∃ cap', v = .slice (some ⟨gg, 0, none⟩) D.length cap' := by
      obtain ⟨g', cap', rfl, _⟩ := own_row hN.row (by omega)
      have e := K.c0
      rw [hN.ord.cell 0 _ rfl] at e
      injection e with e
      exact ⟨cap, e⟩
    obtain ⟨cap', rfl⟩ := hsl
    have l1 := hN.lo; have l2 := hb0.size; have l3 := (hN.row.lt gg rfl).1; have l4 := hN.mid
    have OL : OrdL w' W.heap.size P gg cap (!o.stable && !o.unique) (!decide (o.mods &&& 512 = 0)) D o.tab := by
      refine ⟨K, by omega, by omega, fun i hi => ?_⟩
      obtain ⟨B, h1, q⟩ := KeyF.now (hN.keys D[i] (List.getElem_mem hi))
      exact ⟨B, by omega, q⟩
    rw [tabO_of ht, ← hD]
    rw [ht] at OL
    exact ⟨hb0.trans (hN.bel.mono hb0.size), Or.inr ⟨rfl, P, rfl, fun W2 k T => ⟨(OL.kept k).compare EN hle a b ha hb T, (OL.kept k).keys EN hle a b ha hb T⟩⟩⟩
end
section
open Go.RowKit
set_option maxRecDepth 100000
def xM (o : Opt) : Opt := { o with mods := o.mods ^^^ 512 }
def kM (K : KeyL) (m : Nat) : KeyL := { K with m := m }
def k0 (K : KeyL) : KeyL := ⟨K.f, K.c, K.ef, K.ec, 0, false⟩
set_option maxHeartbeats 25600000 in
theorem turned_g (d1 d2 q1 : Bool) (o : Opt) (K : KeyL) (ak : Option Addr) (kn kp : Nat) (fa : Option Addr) (fn fc : Nat) (a b : ByteArray) (x1 z1 z2 x3 z3 x4 : Int) (w : World) (T : Tbs w)
    (hx : bits BinOp.xor IntKind.u16 (o.mods : Int) 512 = ((o.mods ^^^ 512 : Nat) : Int)) (hxk : bits BinOp.xor IntKind.u16 (K.m : Int) 512 = ((K.m ^^^ 512 : Nat) : Int))
    (hq : (bits BinOp.andNot IntKind.u16 (K.m : Int) 512 == 0) = q1) (r1 : -1 ≤ x1 ∧ x1 ≤ 1) (r3 : -1 ≤ z3 ∧ z3 ≤ 1)
    (M1 : Hid (∀ W g, Below w.heap.size w W → CellsAt W g (kc (k0 K)) → Calls Tryz.prog 10 #[optV o (.slice (some ⟨g, 0, none⟩) 1 1) (.slice fa fn fc)] W (RetD d1 a b x1 z1 W)))
    (M2 : Hid (∀ W g, Below w.heap.size w W → CellsAt W g (kc (k0 K)) → Calls Tryz.prog 10 #[optV (xM o) (.slice (some ⟨g, 0, none⟩) 1 1) (.slice fa fn fc)] W (RetC d1 a b (-x1) z2 W)))
    (M3 : Hid (∀ W g, Below w.heap.size w W → CellsAt W g (kc K) → Calls Tryz.prog 10 #[optV o (.slice (some ⟨g, 0, none⟩) 1 1) (.slice fa fn fc)] W (RetC d2 a b x3 z3 W)))
    (M4 : Hid (q1 = false ∨ K.b = true → ∀ W g, Below w.heap.size w W → CellsAt W g (kc (kM K (K.m ^^^ 512))) → Calls Tryz.prog 10 #[optV o (.slice (some ⟨g, 0, none⟩) 1 1) (.slice fa fn fc)] W (RetC d2 a b x4 (-z3) W))) :
    Calls Tryz.prog 5 #[optV o (.slice ak kn kp) (.slice fa fn fc), .agg #[.int .i64 K.f, .int .i64 K.c, .int .i64 K.ef, .int .i64 K.ec, .int .u16 (K.m : Int), .bool K.b], .string a, .string b] w (RetBk w (.bool true)) := by
  have HT := Lib.hid T
  have HXO := Lib.hid hx
  have HXK := Lib.hid hxk
  have HQ := Lib.hid hq
  have R1 := Lib.hid r1
  have R3 := Lib.hid r3
  clear hx hxk hq r1 r3 T
  have A0 := Lib.hid ((CellsAt.new w (optC o (.slice ak kn kp) (.slice fa fn fc)) 28).alloc (Obj.cells [.int .i64 K.f, .int .i64 K.c, .int .i64 K.ef, .int .i64 K.ec, .int .u16 (K.m : Int), .bool K.b].toArray 35))
  have E0 := CellsAt.new (w.alloc (Obj.cells (optC o (.slice ak kn kp) (.slice fa fn fc)).toArray 28)) [.int .i64 K.f, .int .i64 K.c, .int .i64 K.ef, .int .i64 K.ec, .int .u16 (K.m : Int), .bool K.b] 35
  rw [show (w.alloc (Obj.cells (optC o (.slice ak kn kp) (.slice fa fn fc)).toArray 28)).heap.size = w.heap.size + 1 by simp] at E0
  have F0 := Lib.hid E0
  have B0 := Lib.hid (((Below.refl w.heap.size w).alloc (Nat.le_refl _) (Obj.cells (optC o (.slice ak kn kp) (.slice fa fn fc)).toArray 28)).alloc (by simp) (Obj.cells [.int .i64 K.f, .int .i64 K.c, .int .i64 K.ef, .int .i64 K.ec, .int .u16 (K.m : Int), .bool K.b].toArray 35))
  clear E0
  unfold optV at M1 M2 M3 M4 ⊢
  go_enter Tryz.func5, Tryz.ntmps5
  go_upto_region 1 with fail
  generalize (w.alloc (Obj.cells (optC o (.slice ak kn kp) (.slice fa fn fc)).toArray 28)).alloc (Obj.cells #[.int .i64 K.f, .int .i64 K.c, .int .i64 K.ef, .int .i64 K.ec, .int .u16 (K.m : Int), .bool K.b] 35) = x0 at *
  have p0 := F0.out.cell 0 _ rfl
  have p1 := F0.out.cell 1 _ rfl
  have p2 := F0.out.cell 2 _ rfl
  have p3 := F0.out.cell 3 _ rfl
  have p4 := F0.out.cell 4 _ rfl
  have p5 := F0.out.cell 5 _ rfl
  have ac := A0.out.cell 0 _ rfl
  have af := A0.out.free 0
  have l0 := A0.out.lt
  have l1 := F0.out.lt
  have n1 : ¬ w.heap.size + 1 = w.heap.size := by omega
  have n2 : ¬ w.heap.size = w.heap.size + 1 := by omega
  have A1 := Lib.hid (show CellsAt ((World.setCell x0 ⟨w.heap.size, 0, none⟩ (.slice (some ⟨x0.heap.size, 0, none⟩) 1 1)).alloc (.cells #[.int .i64 K.f, .int .i64 K.c, .int .i64 K.ef, .int .i64 K.ec, .int .u16 (K.m : Int), .bool K.b] 35)) w.heap.size (optC o (.slice (some ⟨x0.heap.size, 0, none⟩) 1 1) (.slice fa fn fc)) from ky_opt [.int .i64 K.f, .int .i64 K.c, .int .i64 K.ef, .int .i64 K.ec, .int .u16 (K.m : Int), .bool K.b] A0.out (by rw [opt_len]; omega))
  have F1 := Lib.hid (show CellsAt ((World.setCell x0 ⟨w.heap.size, 0, none⟩ (.slice (some ⟨x0.heap.size, 0, none⟩) 1 1)).alloc (.cells #[.int .i64 K.f, .int .i64 K.c, .int .i64 K.ef, .int .i64 K.ec, .int .u16 (K.m : Int), .bool K.b] 35)) (w.heap.size + 1) [.int .i64 K.f, .int .i64 K.c, .int .i64 K.ef, .int .i64 K.ec, .int .u16 (K.m : Int), .bool K.b] from ky_other [.int .i64 K.f, .int .i64 K.c, .int .i64 K.ef, .int .i64 K.ec, .int .u16 (K.m : Int), .bool K.b] F0.out n2)
  have G1 := Lib.hid (show CellsAt ((World.setCell x0 ⟨w.heap.size, 0, none⟩ (.slice (some ⟨x0.heap.size, 0, none⟩) 1 1)).alloc (.cells #[.int .i64 K.f, .int .i64 K.c, .int .i64 K.ef, .int .i64 K.ec, .int .u16 (K.m : Int), .bool K.b] 35)) x0.heap.size [.int .i64 K.f, .int .i64 K.c, .int .i64 K.ef, .int .i64 K.ec, .int .u16 (K.m : Int), .bool K.b] from ky_row x0 w.heap.size [.int .i64 K.f, .int .i64 K.c, .int .i64 K.ef, .int .i64 K.ec, .int .u16 (K.m : Int), .bool K.b])
  have B1 := Lib.hid (show Below w.heap.size w ((World.setCell x0 ⟨w.heap.size, 0, none⟩ (.slice (some ⟨x0.heap.size, 0, none⟩) 1 1)).alloc (.cells #[.int .i64 K.f, .int .i64 K.c, .int .i64 K.ef, .int .i64 K.ec, .int .u16 (K.m : Int), .bool K.b] 35)) from B0.out.trans (ky_bel x0 w.heap.size w.heap.size [.int .i64 K.f, .int .i64 K.c, .int .i64 K.ef, .int .i64 K.ec, .int .u16 (K.m : Int), .bool K.b] (Nat.le_refl _) (Nat.le_of_lt l0)))
  go_upto_region 2 with fail
  generalize hx1 : ((World.setCell x0 ⟨w.heap.size, 0, none⟩ (.slice (some ⟨x0.heap.size, 0, none⟩) 1 1)).alloc (.cells #[.int .i64 K.f, .int .i64 K.c, .int .i64 K.ef, .int .i64 K.ec, .int .u16 (K.m : Int), .bool K.b] 35)) = y1 at *
  obtain ⟨g0, hg0⟩ : ∃ g0, g0 = x0.heap.size := ⟨_, rfl⟩
  rw [← hg0] at A1 G1
  have lg0 := Lib.hid (show w.heap.size + 1 < g0 by rw [hg0]; exact l1)
  clear hx1 hg0 p0 p1 p2 p3 p4 p5 ac af l0 l1 A0 F0 B0
  have q4 := F1.out.cell 4 _ rfl
  have q5 := F1.out.cell 5 _ rfl
  have r4 := F1.out.free 4
  have r5 := F1.out.free 5
  have n3 : ¬ w.heap.size + 1 = g0 := by have := lg0.out; omega
  have A2 := Lib.hid (((A1.out.other n1 4 (.int .u16 0)).other n1 5 (.bool false)))
  have G2 := Lib.hid (((G1.out.other n3 4 (.int .u16 0)).other n3 5 (.bool false)))
  have F2 := Lib.hid (show CellsAt ((World.setCell y1 ⟨w.heap.size + 1, 4, none⟩ (.int .u16 0)).setCell ⟨w.heap.size + 1, 5, none⟩ (.bool false)) (w.heap.size + 1) [.int .i64 K.f, .int .i64 K.c, .int .i64 K.ef, .int .i64 K.ec, .int .u16 0, .bool false] from (F1.out.set 4 (.int .u16 0) (by simp)).set 5 (.bool false) (by simp))
  have B2 := Lib.hid ((B1.out.setCell (p := ⟨w.heap.size + 1, 4, none⟩) (Nat.le_succ _) (.int .u16 0)).setCell (p := ⟨w.heap.size + 1, 5, none⟩) (Nat.le_succ _) (.bool false))
  go_upto_region 4 with fail
  generalize (World.setCell y1 ⟨w.heap.size + 1, 4, none⟩ (.int .u16 0)).setCell ⟨w.heap.size + 1, 5, none⟩ (.bool false) = y2 at *
  clear q4 q5 r4 r5 A1 G1 F1 B1
  have R2 := Lib.hid A2.out.range
  have T2 := Lib.hid (cp_there y2 (optC o (.slice (some ⟨g0, 0, none⟩) 1 1) (.slice fa fn fc)) (opt_len _ _ _))
  have N3 := Lib.hid (cp_new y2 (optC o (.slice (some ⟨g0, 0, none⟩) 1 1) (.slice fa fn fc)) (opt_len _ _ _))
  have D3 := Lib.hid (cp_bel y2 (optC o (.slice (some ⟨g0, 0, none⟩) 1 1) (.slice fa fn fc)))
  unfold cpW at N3 D3
  go_upto_region 5 with first
    | (guard_target =~ wpList _ _ _ (⟨some _, Op.load 28 _, _, _, _, _⟩ :: _) _ _; go_must (refine wpList_load_mid rfl 28 _ rfl w.heap.size 0 rfl (optC o (.slice (some ⟨g0, 0, none⟩) 1 1) (.slice fa fn fc)) _ R2.out Tryz.underlying28 rfl (opt_ld _ _ _) ?_))
    | (guard_target =~ wpList _ _ _ (⟨none, Op.store 28 _ _, _, _, _, _⟩ :: _) _ _; go_must (refine wpList_store_mid rfl 28 _ _ rfl y2.heap.size 0 (optC o (.slice (some ⟨g0, 0, none⟩) 1 1) (.slice fa fn fc)).toArray rfl rfl T2.out (opt_ld2 _ _ _) (opt_one _ _ _ _ _ _ _) ?_; rw [List.toList_toArray]))
  generalize World.setCells (y2.alloc _) _ _ _ = y3 at *
  have A3 := Lib.hid (A2.out.step D3.out)
  have F3 := Lib.hid (F2.out.step D3.out)
  have G3 := Lib.hid (G2.out.step D3.out)
  have B3 := Lib.hid (B2.out.trans (D3.out.mono B2.out.size))
  have la := Lib.hid (show w.heap.size < y2.heap.size from A2.out.lt)
  have lf := Lib.hid (show w.heap.size + 1 < y2.heap.size from F2.out.lt)
  have lg := Lib.hid (show g0 < y2.heap.size from G2.out.lt)
  obtain ⟨p, hp⟩ : ∃ p, p = y2.heap.size := ⟨_, rfl⟩
  rw [← hp] at N3 la lf lg ⊢
  clear R2 T2 A2 F2 G2 B2 D3 hp
  have na := la.out
  have nf := lf.out
  have ng := lg.out
  have m1 : ¬ p = w.heap.size := by omega
  have m2 : ¬ p = w.heap.size + 1 := by omega
  have m3 : ¬ p = g0 := by omega
  have A4 := Lib.hid (show CellsAt ((World.setCell y3 ⟨p, 0, none⟩ (.slice (some ⟨y3.heap.size, 0, none⟩) 1 1)).alloc (.cells #[.int .i64 K.f, .int .i64 K.c, .int .i64 K.ef, .int .i64 K.ec, .int .u16 0, .bool false] 35)) w.heap.size (optC o (.slice (some ⟨g0, 0, none⟩) 1 1) (.slice fa fn fc)) from ky_other [.int .i64 K.f, .int .i64 K.c, .int .i64 K.ef, .int .i64 K.ec, .int .u16 0, .bool false] A3.out m1)
  have F4 := Lib.hid (show CellsAt ((World.setCell y3 ⟨p, 0, none⟩ (.slice (some ⟨y3.heap.size, 0, none⟩) 1 1)).alloc (.cells #[.int .i64 K.f, .int .i64 K.c, .int .i64 K.ef, .int .i64 K.ec, .int .u16 0, .bool false] 35)) (w.heap.size + 1) [.int .i64 K.f, .int .i64 K.c, .int .i64 K.ef, .int .i64 K.ec, .int .u16 0, .bool false] from ky_other [.int .i64 K.f, .int .i64 K.c, .int .i64 K.ef, .int .i64 K.ec, .int .u16 0, .bool false] F3.out m2)
  have G4 := Lib.hid (show CellsAt ((World.setCell y3 ⟨p, 0, none⟩ (.slice (some ⟨y3.heap.size, 0, none⟩) 1 1)).alloc (.cells #[.int .i64 K.f, .int .i64 K.c, .int .i64 K.ef, .int .i64 K.ec, .int .u16 0, .bool false] 35)) g0 [.int .i64 K.f, .int .i64 K.c, .int .i64 K.ef, .int .i64 K.ec, .int .u16 (K.m : Int), .bool K.b] from ky_other [.int .i64 K.f, .int .i64 K.c, .int .i64 K.ef, .int .i64 K.ec, .int .u16 0, .bool false] G3.out m3)
  have N4 := Lib.hid (show CellsAt ((World.setCell y3 ⟨p, 0, none⟩ (.slice (some ⟨y3.heap.size, 0, none⟩) 1 1)).alloc (.cells #[.int .i64 K.f, .int .i64 K.c, .int .i64 K.ef, .int .i64 K.ec, .int .u16 0, .bool false] 35)) p (optC o (.slice (some ⟨y3.heap.size, 0, none⟩) 1 1) (.slice fa fn fc)) from ky_opt [.int .i64 K.f, .int .i64 K.c, .int .i64 K.ef, .int .i64 K.ec, .int .u16 0, .bool false] N3.out (by rw [opt_len]; omega))
  have Q4 := Lib.hid (show CellsAt ((World.setCell y3 ⟨p, 0, none⟩ (.slice (some ⟨y3.heap.size, 0, none⟩) 1 1)).alloc (.cells #[.int .i64 K.f, .int .i64 K.c, .int .i64 K.ef, .int .i64 K.ec, .int .u16 0, .bool false] 35)) y3.heap.size [.int .i64 K.f, .int .i64 K.c, .int .i64 K.ef, .int .i64 K.ec, .int .u16 0, .bool false] from ky_row y3 p [.int .i64 K.f, .int .i64 K.c, .int .i64 K.ef, .int .i64 K.ec, .int .u16 0, .bool false])
  have B4 := Lib.hid (show Below w.heap.size w ((World.setCell y3 ⟨p, 0, none⟩ (.slice (some ⟨y3.heap.size, 0, none⟩) 1 1)).alloc (.cells #[.int .i64 K.f, .int .i64 K.c, .int .i64 K.ef, .int .i64 K.ec, .int .u16 0, .bool false] 35)) from B3.out.trans (ky_bel y3 p w.heap.size [.int .i64 K.f, .int .i64 K.c, .int .i64 K.ef, .int .i64 K.ec, .int .u16 0, .bool false] (Nat.le_of_lt na) (Nat.le_of_lt A3.out.lt)))
  have p0 := F3.out.cell 0 _ rfl
  have p1 := F3.out.cell 1 _ rfl
  have p2 := F3.out.cell 2 _ rfl
  have p3 := F3.out.cell 3 _ rfl
  have p4 := F3.out.cell 4 _ rfl
  have p5 := F3.out.cell 5 _ rfl
  have ac := N3.out.cell 0 _ rfl
  have af := N3.out.free 0
  have l3 := N3.out.lt
  have l4 := F3.out.lt
  clear na nf ng
  go_upto_region 6 with fail
  generalize ((World.setCell y3 ⟨p, 0, none⟩ (.slice (some ⟨y3.heap.size, 0, none⟩) 1 1)).alloc (.cells #[.int .i64 K.f, .int .i64 K.c, .int .i64 K.ef, .int .i64 K.ec, .int .u16 0, .bool false] 35)) = y4 at *
  obtain ⟨g4, hg4⟩ : ∃ g4, g4 = y3.heap.size := ⟨_, rfl⟩
  rw [← hg4] at N4 Q4
  have lp4 := Lib.hid (show p < g4 by rw [hg4]; exact l3)
  clear hg4 p0 p1 p2 p3 p4 p5 ac af l3 l4 A3 F3 G3 N3 B3
  have R4 := Lib.hid N4.out.range
  have lpy := Lib.hid (show p < y4.heap.size from N4.out.lt)
  go_wp2_with first
    | (guard_target =~ wpList _ _ _ (⟨some _, Op.load 28 _, _, _, _, _⟩ :: _) _ _; go_must (refine wpList_load_mid rfl 28 _ rfl p 0 rfl (optC o (.slice (some ⟨g4, 0, none⟩) 1 1) (.slice fa fn fc)) _ R4.out Tryz.underlying28 rfl (opt_ld _ _ _) ?_))
  refine (M1.out _ g4 B4.out Q4.out).mono ?_
  rintro e w5 ⟨bb, hd1⟩
  have BB5 := Lib.hid bb
  clear bb
  obtain ⟨cp5, he1, H5⟩ : ∃ cp5, e = .returned (.tuple #[.pointer cp5, .bool true]) ∧ Hid ((d1 = false ∧ cp5 = none) ∨ (d1 = true ∧ ∃ P, cp5 = some ⟨P, 0, none⟩ ∧ ∀ W2, Kept y4.heap.size w5 W2 → Tbs W2 → Calls Tryz.prog 11 #[.pointer (some ⟨P, 0, none⟩), .string a, .string b] W2 (RetBk W2 (.int .i64 x1)) ∧ Calls Tryz.prog 12 #[.pointer (some ⟨P, 0, none⟩), .string a, .string b] W2 (RetBk W2 (.int .i64 z1)))) := by
    rcases hd1 with ⟨q, rfl⟩ | ⟨q, P, rfl, CC⟩
    · exact ⟨none, rfl, Lib.hid (Or.inl ⟨q, rfl⟩)⟩
    · exact ⟨_, rfl, Lib.hid (Or.inr ⟨q, P, rfl, fun W2 b t => CC W2 b t⟩)⟩
  subst he1
  clear hd1
  have A5 := Lib.hid (A4.out.step BB5.out)
  have G5 := Lib.hid (G4.out.step BB5.out)
  have N5 := Lib.hid (N4.out.step BB5.out)
  have Q5 := Lib.hid (Q4.out.step BB5.out)
  have B5 := Lib.hid (B4.out.trans (BB5.out.mono B4.out.size))
  clear A4 F4 G4 N4 Q4 B4 R4 BB5 M1
  have c1 := N5.out.cell 1 _ rfl
  have cf := N5.out.free 1
  have l5 := N5.out.lt
  have hxo := HXO.out
  have m4 : ¬ p = g4 := by have := lp4.out; omega
  have A6 := Lib.hid (A5.out.other m1 1 (.int .u16 ((o.mods ^^^ 512 : Nat) : Int)))
  have G6 := Lib.hid (G5.out.other m3 1 (.int .u16 ((o.mods ^^^ 512 : Nat) : Int)))
  have Q6 := Lib.hid (Q5.out.other m4 1 (.int .u16 ((o.mods ^^^ 512 : Nat) : Int)))
  have N6 := Lib.hid (show CellsAt (World.setCell w5 ⟨p, 1, none⟩ (.int .u16 ((o.mods ^^^ 512 : Nat) : Int))) p (optC (xM o) (.slice (some ⟨g4, 0, none⟩) 1 1) (.slice fa fn fc)) from N5.out.set 1 (.int .u16 ((o.mods ^^^ 512 : Nat) : Int)) (by rw [opt_len]; omega))
  have K6 := Lib.hid ((Kept.refl y4.heap.size w5).set lpy.out 1 (.int .u16 ((o.mods ^^^ 512 : Nat) : Int)))
  have B6 := Lib.hid (B5.out.setCell (p := ⟨p, 1, none⟩) (Nat.le_of_lt la.out) (.int .u16 ((o.mods ^^^ 512 : Nat) : Int)))
  go_upto_region 8 with fail
  generalize World.setCell w5 ⟨p, 1, none⟩ (.int .u16 ((o.mods ^^^ 512 : Nat) : Int)) = y6 at *
  clear c1 cf l5 hxo A5 G5 N5 Q5 B5 lpy
  have R6 := Lib.hid N6.out.range
  go_wp2_with first
    | (guard_target =~ wpList _ _ _ (⟨some _, Op.load 28 _, _, _, _, _⟩ :: _) _ _; go_must (refine wpList_load_mid rfl 28 _ rfl p 0 rfl (optC (xM o) (.slice (some ⟨g4, 0, none⟩) 1 1) (.slice fa fn fc)) _ R6.out Tryz.underlying28 rfl (opt_ld _ _ _) ?_))
  refine (M2.out _ g4 B6.out Q6.out).mono ?_
  rintro e w7 ⟨bb, hd1⟩
  have BB7 := Lib.hid bb
  clear bb
  obtain ⟨cp7, he1, H7⟩ : ∃ cp7, e = .returned (.tuple #[.pointer cp7, .bool true]) ∧ Hid ((d1 = false ∧ cp7 = none) ∨ (d1 = true ∧ ∃ P, cp7 = some ⟨P, 0, none⟩ ∧ ∀ W2, Below w7.heap.size w7 W2 → Calls Tryz.prog 11 #[.pointer (some ⟨P, 0, none⟩), .string a, .string b] W2 (RetBk W2 (.int .i64 (-x1))) ∧ Calls Tryz.prog 12 #[.pointer (some ⟨P, 0, none⟩), .string a, .string b] W2 (RetBk W2 (.int .i64 z2)))) := by
    rcases hd1 with ⟨q, rfl⟩ | ⟨q, P, rfl, CC⟩
    · exact ⟨none, rfl, Lib.hid (Or.inl ⟨q, rfl⟩)⟩
    · exact ⟨_, rfl, Lib.hid (Or.inr ⟨q, P, rfl, fun W2 b => CC W2 b⟩)⟩
  subst he1
  clear hd1
  have A7 := Lib.hid (A6.out.step BB7.out)
  have G7 := Lib.hid (G6.out.step BB7.out)
  have B7 := Lib.hid (B6.out.trans (BB7.out.mono B6.out.size))
  have K7 := Lib.hid (K6.out.below BB7.out)
  clear A6 G6 N6 Q6 B6 R6 BB7 M2 K6 m4
  cases d1 with
  | false =>
    obtain rfl : cp5 = none := by rcases H5.out with h | h; exact h.2; cases h.1
    obtain rfl : cp7 = none := by rcases H7.out with h | h; exact h.2; cases h.1
    clear H5 H7 K7 HXO R1
    have A9 := A7
    have G9 := G7
    have B9 := B7
    clear A7 G7 B7
    go_upto_region 16 with fail
    generalize w7 = w9 at *
    have R9 := Lib.hid A9.out.range
    go_wp2_with first
      | (guard_target =~ wpList _ _ _ (⟨some _, Op.load 28 _, _, _, _, _⟩ :: _) _ _; go_must (refine wpList_load_mid rfl 28 _ rfl w.heap.size 0 rfl (optC o (.slice (some ⟨g0, 0, none⟩) 1 1) (.slice fa fn fc)) _ R9.out Tryz.underlying28 rfl (opt_ld _ _ _) ?_))
    refine (M3.out _ g0 B9.out G9.out).mono ?_
    rintro e u1 ⟨bb, hd1⟩
    have BB9 := Lib.hid bb
    clear bb
    obtain ⟨cp9, he1, H9⟩ : ∃ cp9, e = .returned (.tuple #[.pointer cp9, .bool true]) ∧ Hid ((d2 = false ∧ cp9 = none) ∨ (d2 = true ∧ ∃ P, cp9 = some ⟨P, 0, none⟩ ∧ ∀ W2, Below u1.heap.size u1 W2 → Calls Tryz.prog 11 #[.pointer (some ⟨P, 0, none⟩), .string a, .string b] W2 (RetBk W2 (.int .i64 x3)) ∧ Calls Tryz.prog 12 #[.pointer (some ⟨P, 0, none⟩), .string a, .string b] W2 (RetBk W2 (.int .i64 z3)))) := by
      rcases hd1 with ⟨q, rfl⟩ | ⟨q, P, rfl, CC⟩
      · exact ⟨none, rfl, Lib.hid (Or.inl ⟨q, rfl⟩)⟩
      · exact ⟨_, rfl, Lib.hid (Or.inr ⟨q, P, rfl, fun W2 b => CC W2 b⟩)⟩
    subst he1
    clear hd1
    have Au := Lib.hid (A9.out.step BB9.out)
    have Gu := Lib.hid (G9.out.step BB9.out)
    have Bu := Lib.hid (B9.out.trans (BB9.out.mono B9.out.size))
    clear A9 G9 B9 R9 BB9 M3
    have Ru := Lib.hid Au.out.range
    have Tu := Lib.hid (cp_there u1 (optC o (.slice (some ⟨g0, 0, none⟩) 1 1) (.slice fa fn fc)) (opt_len _ _ _))
    have Nu := Lib.hid (cp_new u1 (optC o (.slice (some ⟨g0, 0, none⟩) 1 1) (.slice fa fn fc)) (opt_len _ _ _))
    have Du := Lib.hid (cp_bel u1 (optC o (.slice (some ⟨g0, 0, none⟩) 1 1) (.slice fa fn fc)))
    unfold cpW at Nu Du
    go_upto_region 18 with first
      | (guard_target =~ wpList _ _ _ (⟨some _, Op.load 28 _, _, _, _, _⟩ :: _) _ _; go_must (refine wpList_load_mid rfl 28 _ rfl w.heap.size 0 rfl (optC o (.slice (some ⟨g0, 0, none⟩) 1 1) (.slice fa fn fc)) _ Ru.out Tryz.underlying28 rfl (opt_ld _ _ _) ?_))
      | (guard_target =~ wpList _ _ _ (⟨none, Op.store 28 _ _, _, _, _, _⟩ :: _) _ _; go_must (refine wpList_store_mid rfl 28 _ _ rfl u1.heap.size 0 (optC o (.slice (some ⟨g0, 0, none⟩) 1 1) (.slice fa fn fc)).toArray rfl rfl Tu.out (opt_ld2 _ _ _) (opt_one _ _ _ _ _ _ _) ?_; rw [List.toList_toArray]))
    generalize World.setCells (u1.alloc _) _ _ _ = u2 at *
    have Av := Lib.hid (Au.out.step Du.out)
    have Gv := Lib.hid (Gu.out.step Du.out)
    have Bv := Lib.hid (Bu.out.trans (Du.out.mono Bu.out.size))
    have lw := Lib.hid (show w.heap.size < u1.heap.size from Au.out.lt)
    have lgu := Lib.hid (show g0 < u1.heap.size from Gu.out.lt)
    clear Tu Ru Au Gu Bu
    have nw := lw.out
    have ng := lgu.out
    have s1 : ¬ u1.heap.size = w.heap.size := by omega
    have s3 : ¬ u1.heap.size = g0 := by omega
    have Aw := Lib.hid (show CellsAt ((World.setCell u2 ⟨u1.heap.size, 0, none⟩ (.slice (some ⟨u2.heap.size, 0, none⟩) 1 1)).alloc (.cells #[.int .i64 K.f, .int .i64 K.c, .int .i64 K.ef, .int .i64 K.ec, .int .u16 (K.m : Int), .bool K.b] 35)) w.heap.size (optC o (.slice (some ⟨g0, 0, none⟩) 1 1) (.slice fa fn fc)) from ky_other [.int .i64 K.f, .int .i64 K.c, .int .i64 K.ef, .int .i64 K.ec, .int .u16 (K.m : Int), .bool K.b] Av.out s1)
    have Gw := Lib.hid (show CellsAt ((World.setCell u2 ⟨u1.heap.size, 0, none⟩ (.slice (some ⟨u2.heap.size, 0, none⟩) 1 1)).alloc (.cells #[.int .i64 K.f, .int .i64 K.c, .int .i64 K.ef, .int .i64 K.ec, .int .u16 (K.m : Int), .bool K.b] 35)) g0 [.int .i64 K.f, .int .i64 K.c, .int .i64 K.ef, .int .i64 K.ec, .int .u16 (K.m : Int), .bool K.b] from ky_other [.int .i64 K.f, .int .i64 K.c, .int .i64 K.ef, .int .i64 K.ec, .int .u16 (K.m : Int), .bool K.b] Gv.out s3)
    have Nw := Lib.hid (show CellsAt ((World.setCell u2 ⟨u1.heap.size, 0, none⟩ (.slice (some ⟨u2.heap.size, 0, none⟩) 1 1)).alloc (.cells #[.int .i64 K.f, .int .i64 K.c, .int .i64 K.ef, .int .i64 K.ec, .int .u16 (K.m : Int), .bool K.b] 35)) u1.heap.size (optC o (.slice (some ⟨u2.heap.size, 0, none⟩) 1 1) (.slice fa fn fc)) from ky_opt [.int .i64 K.f, .int .i64 K.c, .int .i64 K.ef, .int .i64 K.ec, .int .u16 (K.m : Int), .bool K.b] Nu.out (by rw [opt_len]; omega))
    have Qw := Lib.hid (show CellsAt ((World.setCell u2 ⟨u1.heap.size, 0, none⟩ (.slice (some ⟨u2.heap.size, 0, none⟩) 1 1)).alloc (.cells #[.int .i64 K.f, .int .i64 K.c, .int .i64 K.ef, .int .i64 K.ec, .int .u16 (K.m : Int), .bool K.b] 35)) u2.heap.size [.int .i64 K.f, .int .i64 K.c, .int .i64 K.ef, .int .i64 K.ec, .int .u16 (K.m : Int), .bool K.b] from ky_row u2 u1.heap.size [.int .i64 K.f, .int .i64 K.c, .int .i64 K.ef, .int .i64 K.ec, .int .u16 (K.m : Int), .bool K.b])
    have Dw := Lib.hid (show Below u1.heap.size u1 ((World.setCell u2 ⟨u1.heap.size, 0, none⟩ (.slice (some ⟨u2.heap.size, 0, none⟩) 1 1)).alloc (.cells #[.int .i64 K.f, .int .i64 K.c, .int .i64 K.ef, .int .i64 K.ec, .int .u16 (K.m : Int), .bool K.b] 35)) from Du.out.trans (ky_bel u2 u1.heap.size u1.heap.size [.int .i64 K.f, .int .i64 K.c, .int .i64 K.ef, .int .i64 K.ec, .int .u16 (K.m : Int), .bool K.b] (Nat.le_refl _) (Nat.le_of_lt Nu.out.lt)))
    have Bw := Lib.hid (show Below w.heap.size w ((World.setCell u2 ⟨u1.heap.size, 0, none⟩ (.slice (some ⟨u2.heap.size, 0, none⟩) 1 1)).alloc (.cells #[.int .i64 K.f, .int .i64 K.c, .int .i64 K.ef, .int .i64 K.ec, .int .u16 (K.m : Int), .bool K.b] 35)) from Bv.out.trans (ky_bel u2 u1.heap.size w.heap.size [.int .i64 K.f, .int .i64 K.c, .int .i64 K.ef, .int .i64 K.ec, .int .u16 (K.m : Int), .bool K.b] (Nat.le_of_lt nw) (Nat.le_of_lt Av.out.lt)))
    have p0 := Gv.out.cell 0 _ rfl
    have p1 := Gv.out.cell 1 _ rfl
    have p2 := Gv.out.cell 2 _ rfl
    have p3 := Gv.out.cell 3 _ rfl
    have p4 := Gv.out.cell 4 _ rfl
    have p5 := Gv.out.cell 5 _ rfl
    have ac := Nu.out.cell 0 _ rfl
    have af := Nu.out.free 0
    have a0 := Av.out.cell 0 _ rfl
    have l3 := Nu.out.lt
    have l4 := Gv.out.lt
    go_upto_region 19 with fail
    generalize ((World.setCell u2 ⟨u1.heap.size, 0, none⟩ (.slice (some ⟨u2.heap.size, 0, none⟩) 1 1)).alloc (.cells #[.int .i64 K.f, .int .i64 K.c, .int .i64 K.ef, .int .i64 K.ec, .int .u16 (K.m : Int), .bool K.b] 35)) = u3 at *
    obtain ⟨g8, hg8⟩ : ∃ g8, g8 = u2.heap.size := ⟨_, rfl⟩
    rw [← hg8] at Nw Qw
    obtain ⟨q, hqq⟩ : ∃ q, q = u1.heap.size := ⟨_, rfl⟩
    have lq8 := Lib.hid (show q < g8 by rw [hg8, hqq]; exact l3)
    have lqw := Lib.hid (show w.heap.size < q by rw [hqq]; exact nw)
    have lqg := Lib.hid (show g0 < q by rw [hqq]; exact ng)
    rw [← hqq] at Nw ⊢
    have Dx := Dw
    clear hg8 p0 p1 p2 p3 p4 p5 ac af a0 l3 l4 Av Gv Bv Nu Du nw ng s1 s3 lw lgu
    have hxk := HXK.out
    have qc := Nw.out.cell 0 _ rfl
    have k4 := Qw.out.cell 4 _ rfl
    have kf := Qw.out.free 4
    have lx := Qw.out.lt
    have k4d : u3.drew.cell? ⟨g8, 4, none⟩ = some (.int .u16 (K.m : Int)) := k4
    have v1 : ¬ q = g8 := by have := lq8.out; omega
    have v2 : ¬ g8 = q := by have := lq8.out; omega
    have v3 : ¬ g8 = w.heap.size := by have := lq8.out; have := lqw.out; omega
    have v4 : ¬ g8 = g0 := by have := lq8.out; have := lqg.out; omega
    have Ax := Lib.hid (Aw.out.other v3 4 (.int .u16 ((K.m ^^^ 512 : Nat) : Int)))
    have Gx := Lib.hid (Gw.out.other v4 4 (.int .u16 ((K.m ^^^ 512 : Nat) : Int)))
    have Nx := Lib.hid (Nw.out.other v2 4 (.int .u16 ((K.m ^^^ 512 : Nat) : Int)))
    have Qx := Lib.hid (show CellsAt (World.setCell u3 ⟨g8, 4, none⟩ (.int .u16 ((K.m ^^^ 512 : Nat) : Int))) g8 [.int .i64 K.f, .int .i64 K.c, .int .i64 K.ef, .int .i64 K.ec, .int .u16 ((K.m ^^^ 512 : Nat) : Int), .bool K.b] from Qw.out.set 4 (.int .u16 ((K.m ^^^ 512 : Nat) : Int)) (by simp))
    have Ex := Lib.hid (show Below u1.heap.size u1 (World.setCell u3 ⟨g8, 4, none⟩ (.int .u16 ((K.m ^^^ 512 : Nat) : Int))) from Dw.out.setCell (p := ⟨g8, 4, none⟩) (by show u1.heap.size ≤ g8; rw [← hqq]; exact Nat.le_of_lt lq8.out) _)
    have Bx := Lib.hid (Bw.out.setCell (p := ⟨g8, 4, none⟩) (by show w.heap.size ≤ g8; have := lq8.out; have := lqw.out; omega) (.int .u16 ((K.m ^^^ 512 : Nat) : Int)))
    clear Dw Dx hqq
    have qcd : u3.drew.cell? ⟨q, 0, none⟩ = some (.slice (some ⟨g8, 0, none⟩) 1 1) := qc
    have kfd : u3.drew.frozen? ⟨g8, 4, none⟩ = false := kf
    go_region
    have Ay := Lib.hid (drewC Ax.out)
    have Gy := Lib.hid (drewC Gx.out)
    have Ny := Lib.hid (drewC Nx.out)
    have Qy := Lib.hid (drewC Qx.out)
    have Ey := Lib.hid (Ex.out.trans ((Below.refl _ _).drew.mono Ex.out.size))
    have By := Lib.hid (Bx.out.trans ((Below.refl _ _).drew.mono Bx.out.size))
    generalize (World.setCell u3 ⟨g8, 4, none⟩ (.int .u16 ((K.m ^^^ 512 : Nat) : Int))).drew = u4 at *
    clear hxk qc qcd k4 k4d kf kfd lx Ax Gx Nx Qx Ex Bx Aw Gw Nw Qw Bw
    have a0 := Ay.out.cell 0 _ rfl
    have g4c := Gy.out.cell 4 _ rfl
    have g5c := Gy.out.cell 5 _ rfl
    have la4 := Ay.out.lt
    have lg4 := Gy.out.lt
    have hq := HQ.out
    cases hq1 : q1 with
    | false =>
      have M5 := Lib.hid (M4.out (Or.inl hq1))
      have Ry := Lib.hid Ny.out.range
      rw [hq1] at hq
      clear hq1 M4
      go_wp2_with first
        | (guard_target =~ wpList _ _ _ (⟨some _, Op.load 28 _, _, _, _, _⟩ :: _) _ _; go_must (refine wpList_load_mid rfl 28 _ rfl q 0 rfl (optC o (.slice (some ⟨g8, 0, none⟩) 1 1) (.slice fa fn fc)) _ Ry.out Tryz.underlying28 rfl (opt_ld _ _ _) ?_))
      refine (M5.out _ g8 By.out Qy.out).mono ?_
      rintro e u5 ⟨bb, hd1⟩
      have BB11 := Lib.hid bb
      clear bb
      obtain ⟨cp11, he1, H11⟩ : ∃ cp11, e = .returned (.tuple #[.pointer cp11, .bool true]) ∧ Hid ((d2 = false ∧ cp11 = none) ∨ (d2 = true ∧ ∃ P, cp11 = some ⟨P, 0, none⟩ ∧ ∀ W2, Below u5.heap.size u5 W2 → Calls Tryz.prog 11 #[.pointer (some ⟨P, 0, none⟩), .string a, .string b] W2 (RetBk W2 (.int .i64 x4)) ∧ Calls Tryz.prog 12 #[.pointer (some ⟨P, 0, none⟩), .string a, .string b] W2 (RetBk W2 (.int .i64 (-z3))))) := by
        rcases hd1 with ⟨q, rfl⟩ | ⟨q, P, rfl, CC⟩
        · exact ⟨none, rfl, Lib.hid (Or.inl ⟨q, rfl⟩)⟩
        · exact ⟨_, rfl, Lib.hid (Or.inr ⟨q, P, rfl, fun W2 b => CC W2 b⟩)⟩
      subst he1
      clear hd1
      have Bz := Lib.hid (By.out.trans (BB11.out.mono By.out.size))
      have Ez := Lib.hid (Ey.out.trans (BB11.out.mono Ey.out.size))
      cases d2 with
      | false =>
        obtain rfl : cp9 = none := by rcases H9.out with h | h; exact h.2; cases h.1
        obtain rfl : cp11 = none := by rcases H11.out with h | h; exact h.2; cases h.1
        clear H9 H11 Ez Ey Ay Gy Ny Qy
        go_wp2_with fail
        go_ret
        exact ⟨rfl, Bz.out⟩
      | true =>
        obtain ⟨P9, rfl, q9⟩ : ∃ P, cp9 = some ⟨P, 0, none⟩ ∧ Hid (∀ W2, Below u1.heap.size u1 W2 → Calls Tryz.prog 12 #[.pointer (some ⟨P, 0, none⟩), .string a, .string b] W2 (RetBk W2 (.int .i64 z3))) := by
          rcases H9.out with h | ⟨_, P, h, k⟩
          · cases h.1
          · exact ⟨P, h, Lib.hid fun W2 b => (k W2 b).2⟩
        obtain ⟨P11, rfl, q11⟩ : ∃ P, cp11 = some ⟨P, 0, none⟩ ∧ Hid (∀ W2, Below u5.heap.size u5 W2 → Calls Tryz.prog 12 #[.pointer (some ⟨P, 0, none⟩), .string a, .string b] W2 (RetBk W2 (.int .i64 (-z3)))) := by
          rcases H11.out with h | ⟨_, P, h, k⟩
          · cases h.1
          · exact ⟨P, h, Lib.hid fun W2 b => (k W2 b).2⟩
        obtain ⟨y3', hy3⟩ : ∃ y, y = -z3 := ⟨_, rfl⟩
        rw [← hy3] at q11
        have f1 : wrap64 (0 - y3') = z3 := by have := R3.out; unfold wrap64; omega
        have f2 : wrap64 (-y3') = z3 := by have := R3.out; unfold wrap64; omega
        clear H9 H11 hy3 Ey Ay Gy Ny Qy
        go_wp2_with fail
        refine (q9.out _ Ez.out).mono ?_
        rintro e t1 ⟨rfl, k1⟩
        go_wp2_with fail
        refine (q11.out _ k1).mono ?_
        rintro e t2 ⟨rfl, k2⟩
        have Bf := Lib.hid ((Bz.out.trans (k1.mono Bz.out.size)).trans (k2.mono (Bz.out.trans (k1.mono Bz.out.size)).size))
        clear k1 k2 q9 q11
        go_wp2_with fail
        go_ret
        exact ⟨by simp, Bf.out⟩
    | true =>
      rw [hq1] at hq
      cases hkb : K.b with
      | false =>
        rw [hkb] at g5c
        clear M4 H9 Ey HXK R3 hq1 hkb
        go_wp2_with fail
        go_ret
        exact ⟨rfl, By.out⟩
      | true =>
        have M5 := Lib.hid (M4.out (Or.inr hkb))
        have Ry := Lib.hid Ny.out.range
        rw [hkb] at g5c
        clear hq1 M4 hkb
        go_wp2_with first
          | (guard_target =~ wpList _ _ _ (⟨some _, Op.load 28 _, _, _, _, _⟩ :: _) _ _; go_must (refine wpList_load_mid rfl 28 _ rfl q 0 rfl (optC o (.slice (some ⟨g8, 0, none⟩) 1 1) (.slice fa fn fc)) _ Ry.out Tryz.underlying28 rfl (opt_ld _ _ _) ?_))
        refine (M5.out _ g8 By.out Qy.out).mono ?_
        rintro e u5 ⟨bb, hd1⟩
        have BB11 := Lib.hid bb
        clear bb
        obtain ⟨cp11, he1, H11⟩ : ∃ cp11, e = .returned (.tuple #[.pointer cp11, .bool true]) ∧ Hid ((d2 = false ∧ cp11 = none) ∨ (d2 = true ∧ ∃ P, cp11 = some ⟨P, 0, none⟩ ∧ ∀ W2, Below u5.heap.size u5 W2 → Calls Tryz.prog 11 #[.pointer (some ⟨P, 0, none⟩), .string a, .string b] W2 (RetBk W2 (.int .i64 x4)) ∧ Calls Tryz.prog 12 #[.pointer (some ⟨P, 0, none⟩), .string a, .string b] W2 (RetBk W2 (.int .i64 (-z3))))) := by
          rcases hd1 with ⟨q, rfl⟩ | ⟨q, P, rfl, CC⟩
          · exact ⟨none, rfl, Lib.hid (Or.inl ⟨q, rfl⟩)⟩
          · exact ⟨_, rfl, Lib.hid (Or.inr ⟨q, P, rfl, fun W2 b => CC W2 b⟩)⟩
        subst he1
        clear hd1
        have Bz := Lib.hid (By.out.trans (BB11.out.mono By.out.size))
        have Ez := Lib.hid (Ey.out.trans (BB11.out.mono Ey.out.size))
        cases d2 with
        | false =>
          obtain rfl : cp9 = none := by rcases H9.out with h | h; exact h.2; cases h.1
          obtain rfl : cp11 = none := by rcases H11.out with h | h; exact h.2; cases h.1
          clear H9 H11 Ez Ey Ay Gy Ny Qy
          go_wp2_with fail
          go_ret
          exact ⟨rfl, Bz.out⟩
        | true =>
          obtain ⟨P9, rfl, q9⟩ : ∃ P, cp9 = some ⟨P, 0, none⟩ ∧ Hid (∀ W2, Below u1.heap.size u1 W2 → Calls Tryz.prog 12 #[.pointer (some ⟨P, 0, none⟩), .string a, .string b] W2 (RetBk W2 (.int .i64 z3))) := by
            rcases H9.out with h | ⟨_, P, h, k⟩
            · cases h.1
            · exact ⟨P, h, Lib.hid fun W2 b => (k W2 b).2⟩
          obtain ⟨P11, rfl, q11⟩ : ∃ P, cp11 = some ⟨P, 0, none⟩ ∧ Hid (∀ W2, Below u5.heap.size u5 W2 → Calls Tryz.prog 12 #[.pointer (some ⟨P, 0, none⟩), .string a, .string b] W2 (RetBk W2 (.int .i64 (-z3)))) := by
            rcases H11.out with h | ⟨_, P, h, k⟩
            · cases h.1
            · exact ⟨P, h, Lib.hid fun W2 b => (k W2 b).2⟩
          obtain ⟨y3', hy3⟩ : ∃ y, y = -z3 := ⟨_, rfl⟩
          rw [← hy3] at q11
          have f1 : wrap64 (0 - y3') = z3 := by have := R3.out; unfold wrap64; omega
          have f2 : wrap64 (-y3') = z3 := by have := R3.out; unfold wrap64; omega
          clear H9 H11 hy3 Ey Ay Gy Ny Qy
          go_wp2_with fail
          refine (q9.out _ Ez.out).mono ?_
          rintro e t1 ⟨rfl, k1⟩
          go_wp2_with fail
          refine (q11.out _ k1).mono ?_
          rintro e t2 ⟨rfl, k2⟩
          have Bf := Lib.hid ((Bz.out.trans (k1.mono Bz.out.size)).trans (k2.mono (Bz.out.trans (k1.mono Bz.out.size)).size))
          clear k1 k2 q9 q11
          go_wp2_with fail
          go_ret
          exact ⟨by simp, Bf.out⟩
  | true =>
    obtain ⟨P5, rfl, q5⟩ : ∃ P, cp5 = some ⟨P, 0, none⟩ ∧ Hid (∀ W2, Kept y4.heap.size w5 W2 → Tbs W2 → Calls Tryz.prog 11 #[.pointer (some ⟨P, 0, none⟩), .string a, .string b] W2 (RetBk W2 (.int .i64 x1))) := by
      rcases H5.out with h | ⟨_, P, h, k⟩
      · cases h.1
      · exact ⟨P, h, Lib.hid fun W2 b t => (k W2 b t).1⟩
    obtain ⟨P7, rfl, q7⟩ : ∃ P, cp7 = some ⟨P, 0, none⟩ ∧ Hid (∀ W2, Below w7.heap.size w7 W2 → Calls Tryz.prog 11 #[.pointer (some ⟨P, 0, none⟩), .string a, .string b] W2 (RetBk W2 (.int .i64 (-x1)))) := by
      rcases H7.out with h | ⟨_, P, h, k⟩
      · cases h.1
      · exact ⟨P, h, Lib.hid fun W2 b => (k W2 b).1⟩
    obtain ⟨y1', hy1⟩ : ∃ y, y = -x1 := ⟨_, rfl⟩
    rw [← hy1] at q7
    have f1 : wrap64 (0 - y1') = x1 := by have := R1.out; unfold wrap64; omega
    have f2 : wrap64 (-y1') = x1 := by have := R1.out; unfold wrap64; omega
    clear H5 H7 hy1 HXO R1
    go_wp2_with fail
    refine (q5.out _ K7.out (HT.out.below B7.out)).mono ?_
    rintro e t1 ⟨rfl, k1⟩
    go_wp2_with fail
    refine (q7.out _ k1).mono ?_
    rintro e w9 ⟨rfl, k2⟩
    have A9 := Lib.hid ((A7.out.step k1).step k2)
    have G9 := Lib.hid ((G7.out.step k1).step k2)
    have B9 := Lib.hid ((B7.out.trans (k1.mono B7.out.size)).trans (k2.mono (B7.out.trans (k1.mono B7.out.size)).size))
    clear A7 G7 B7 k1 k2 q5 q7 K7
    go_upto_region 16 with fail
    clear f1 f2
    have R9 := Lib.hid A9.out.range
    go_wp2_with first
      | (guard_target =~ wpList _ _ _ (⟨some _, Op.load 28 _, _, _, _, _⟩ :: _) _ _; go_must (refine wpList_load_mid rfl 28 _ rfl w.heap.size 0 rfl (optC o (.slice (some ⟨g0, 0, none⟩) 1 1) (.slice fa fn fc)) _ R9.out Tryz.underlying28 rfl (opt_ld _ _ _) ?_))
    refine (M3.out _ g0 B9.out G9.out).mono ?_
    rintro e u1 ⟨bb, hd1⟩
    have BB9 := Lib.hid bb
    clear bb
    obtain ⟨cp9, he1, H9⟩ : ∃ cp9, e = .returned (.tuple #[.pointer cp9, .bool true]) ∧ Hid ((d2 = false ∧ cp9 = none) ∨ (d2 = true ∧ ∃ P, cp9 = some ⟨P, 0, none⟩ ∧ ∀ W2, Below u1.heap.size u1 W2 → Calls Tryz.prog 11 #[.pointer (some ⟨P, 0, none⟩), .string a, .string b] W2 (RetBk W2 (.int .i64 x3)) ∧ Calls Tryz.prog 12 #[.pointer (some ⟨P, 0, none⟩), .string a, .string b] W2 (RetBk W2 (.int .i64 z3)))) := by
      rcases hd1 with ⟨q, rfl⟩ | ⟨q, P, rfl, CC⟩
      · exact ⟨none, rfl, Lib.hid (Or.inl ⟨q, rfl⟩)⟩
      · exact ⟨_, rfl, Lib.hid (Or.inr ⟨q, P, rfl, fun W2 b => CC W2 b⟩)⟩
    subst he1
    clear hd1
    have Au := Lib.hid (A9.out.step BB9.out)
    have Gu := Lib.hid (G9.out.step BB9.out)
    have Bu := Lib.hid (B9.out.trans (BB9.out.mono B9.out.size))
    clear A9 G9 B9 R9 BB9 M3
    have Ru := Lib.hid Au.out.range
    have Tu := Lib.hid (cp_there u1 (optC o (.slice (some ⟨g0, 0, none⟩) 1 1) (.slice fa fn fc)) (opt_len _ _ _))
    have Nu := Lib.hid (cp_new u1 (optC o (.slice (some ⟨g0, 0, none⟩) 1 1) (.slice fa fn fc)) (opt_len _ _ _))
    have Du := Lib.hid (cp_bel u1 (optC o (.slice (some ⟨g0, 0, none⟩) 1 1) (.slice fa fn fc)))
    unfold cpW at Nu Du
    go_upto_region 18 with first
      | (guard_target =~ wpList _ _ _ (⟨some _, Op.load 28 _, _, _, _, _⟩ :: _) _ _; go_must (refine wpList_load_mid rfl 28 _ rfl w.heap.size 0 rfl (optC o (.slice (some ⟨g0, 0, none⟩) 1 1) (.slice fa fn fc)) _ Ru.out Tryz.underlying28 rfl (opt_ld _ _ _) ?_))
      | (guard_target =~ wpList _ _ _ (⟨none, Op.store 28 _ _, _, _, _, _⟩ :: _) _ _; go_must (refine wpList_store_mid rfl 28 _ _ rfl u1.heap.size 0 (optC o (.slice (some ⟨g0, 0, none⟩) 1 1) (.slice fa fn fc)).toArray rfl rfl Tu.out (opt_ld2 _ _ _) (opt_one _ _ _ _ _ _ _) ?_; rw [List.toList_toArray]))
    generalize World.setCells (u1.alloc _) _ _ _ = u2 at *
    have Av := Lib.hid (Au.out.step Du.out)
    have Gv := Lib.hid (Gu.out.step Du.out)
    have Bv := Lib.hid (Bu.out.trans (Du.out.mono Bu.out.size))
    have lw := Lib.hid (show w.heap.size < u1.heap.size from Au.out.lt)
    have lgu := Lib.hid (show g0 < u1.heap.size from Gu.out.lt)
    clear Tu Ru Au Gu Bu
    have nw := lw.out
    have ng := lgu.out
    have s1 : ¬ u1.heap.size = w.heap.size := by omega
    have s3 : ¬ u1.heap.size = g0 := by omega
    have Aw := Lib.hid (show CellsAt ((World.setCell u2 ⟨u1.heap.size, 0, none⟩ (.slice (some ⟨u2.heap.size, 0, none⟩) 1 1)).alloc (.cells #[.int .i64 K.f, .int .i64 K.c, .int .i64 K.ef, .int .i64 K.ec, .int .u16 (K.m : Int), .bool K.b] 35)) w.heap.size (optC o (.slice (some ⟨g0, 0, none⟩) 1 1) (.slice fa fn fc)) from ky_other [.int .i64 K.f, .int .i64 K.c, .int .i64 K.ef, .int .i64 K.ec, .int .u16 (K.m : Int), .bool K.b] Av.out s1)
    have Gw := Lib.hid (show CellsAt ((World.setCell u2 ⟨u1.heap.size, 0, none⟩ (.slice (some ⟨u2.heap.size, 0, none⟩) 1 1)).alloc (.cells #[.int .i64 K.f, .int .i64 K.c, .int .i64 K.ef, .int .i64 K.ec, .int .u16 (K.m : Int), .bool K.b] 35)) g0 [.int .i64 K.f, .int .i64 K.c, .int .i64 K.ef, .int .i64 K.ec, .int .u16 (K.m : Int), .bool K.b] from ky_other [.int .i64 K.f, .int .i64 K.c, .int .i64 K.ef, .int .i64 K.ec, .int .u16 (K.m : Int), .bool K.b] Gv.out s3)
    have Nw := Lib.hid (show CellsAt ((World.setCell u2 ⟨u1.heap.size, 0, none⟩ (.slice (some ⟨u2.heap.size, 0, none⟩) 1 1)).alloc (.cells #[.int .i64 K.f, .int .i64 K.c, .int .i64 K.ef, .int .i64 K.ec, .int .u16 (K.m : Int), .bool K.b] 35)) u1.heap.size (optC o (.slice (some ⟨u2.heap.size, 0, none⟩) 1 1) (.slice fa fn fc)) from ky_opt [.int .i64 K.f, .int .i64 K.c, .int .i64 K.ef, .int .i64 K.ec, .int .u16 (K.m : Int), .bool K.b] Nu.out (by rw [opt_len]; omega))
    have Qw := Lib.hid (show CellsAt ((World.setCell u2 ⟨u1.heap.size, 0, none⟩ (.slice (some ⟨u2.heap.size, 0, none⟩) 1 1)).alloc (.cells #[.int .i64 K.f, .int .i64 K.c, .int .i64 K.ef, .int .i64 K.ec, .int .u16 (K.m : Int), .bool K.b] 35)) u2.heap.size [.int .i64 K.f, .int .i64 K.c, .int .i64 K.ef, .int .i64 K.ec, .int .u16 (K.m : Int), .bool K.b] from ky_row u2 u1.heap.size [.int .i64 K.f, .int .i64 K.c, .int .i64 K.ef, .int .i64 K.ec, .int .u16 (K.m : Int), .bool K.b])
    have Dw := Lib.hid (show Below u1.heap.size u1 ((World.setCell u2 ⟨u1.heap.size, 0, none⟩ (.slice (some ⟨u2.heap.size, 0, none⟩) 1 1)).alloc (.cells #[.int .i64 K.f, .int .i64 K.c, .int .i64 K.ef, .int .i64 K.ec, .int .u16 (K.m : Int), .bool K.b] 35)) from Du.out.trans (ky_bel u2 u1.heap.size u1.heap.size [.int .i64 K.f, .int .i64 K.c, .int .i64 K.ef, .int .i64 K.ec, .int .u16 (K.m : Int), .bool K.b] (Nat.le_refl _) (Nat.le_of_lt Nu.out.lt)))
    have Bw := Lib.hid (show Below w.heap.size w ((World.setCell u2 ⟨u1.heap.size, 0, none⟩ (.slice (some ⟨u2.heap.size, 0, none⟩) 1 1)).alloc (.cells #[.int .i64 K.f, .int .i64 K.c, .int .i64 K.ef, .int .i64 K.ec, .int .u16 (K.m : Int), .bool K.b] 35)) from Bv.out.trans (ky_bel u2 u1.heap.size w.heap.size [.int .i64 K.f, .int .i64 K.c, .int .i64 K.ef, .int .i64 K.ec, .int .u16 (K.m : Int), .bool K.b] (Nat.le_of_lt nw) (Nat.le_of_lt Av.out.lt)))
    have p0 := Gv.out.cell 0 _ rfl
    have p1 := Gv.out.cell 1 _ rfl
    have p2 := Gv.out.cell 2 _ rfl
    have p3 := Gv.out.cell 3 _ rfl
    have p4 := Gv.out.cell 4 _ rfl
    have p5 := Gv.out.cell 5 _ rfl
    have ac := Nu.out.cell 0 _ rfl
    have af := Nu.out.free 0
    have a0 := Av.out.cell 0 _ rfl
    have l3 := Nu.out.lt
    have l4 := Gv.out.lt
    go_upto_region 19 with fail
    generalize ((World.setCell u2 ⟨u1.heap.size, 0, none⟩ (.slice (some ⟨u2.heap.size, 0, none⟩) 1 1)).alloc (.cells #[.int .i64 K.f, .int .i64 K.c, .int .i64 K.ef, .int .i64 K.ec, .int .u16 (K.m : Int), .bool K.b] 35)) = u3 at *
    obtain ⟨g8, hg8⟩ : ∃ g8, g8 = u2.heap.size := ⟨_, rfl⟩
    rw [← hg8] at Nw Qw
    obtain ⟨q, hqq⟩ : ∃ q, q = u1.heap.size := ⟨_, rfl⟩
    have lq8 := Lib.hid (show q < g8 by rw [hg8, hqq]; exact l3)
    have lqw := Lib.hid (show w.heap.size < q by rw [hqq]; exact nw)
    have lqg := Lib.hid (show g0 < q by rw [hqq]; exact ng)
    rw [← hqq] at Nw ⊢
    have Dx := Dw
    clear hg8 p0 p1 p2 p3 p4 p5 ac af a0 l3 l4 Av Gv Bv Nu Du nw ng s1 s3 lw lgu
    have hxk := HXK.out
    have qc := Nw.out.cell 0 _ rfl
    have k4 := Qw.out.cell 4 _ rfl
    have kf := Qw.out.free 4
    have lx := Qw.out.lt
    have k4d : u3.drew.cell? ⟨g8, 4, none⟩ = some (.int .u16 (K.m : Int)) := k4
    have v1 : ¬ q = g8 := by have := lq8.out; omega
    have v2 : ¬ g8 = q := by have := lq8.out; omega
    have v3 : ¬ g8 = w.heap.size := by have := lq8.out; have := lqw.out; omega
    have v4 : ¬ g8 = g0 := by have := lq8.out; have := lqg.out; omega
    have Ax := Lib.hid (Aw.out.other v3 4 (.int .u16 ((K.m ^^^ 512 : Nat) : Int)))
    have Gx := Lib.hid (Gw.out.other v4 4 (.int .u16 ((K.m ^^^ 512 : Nat) : Int)))
    have Nx := Lib.hid (Nw.out.other v2 4 (.int .u16 ((K.m ^^^ 512 : Nat) : Int)))
    have Qx := Lib.hid (show CellsAt (World.setCell u3 ⟨g8, 4, none⟩ (.int .u16 ((K.m ^^^ 512 : Nat) : Int))) g8 [.int .i64 K.f, .int .i64 K.c, .int .i64 K.ef, .int .i64 K.ec, .int .u16 ((K.m ^^^ 512 : Nat) : Int), .bool K.b] from Qw.out.set 4 (.int .u16 ((K.m ^^^ 512 : Nat) : Int)) (by simp))
    have Ex := Lib.hid (show Below u1.heap.size u1 (World.setCell u3 ⟨g8, 4, none⟩ (.int .u16 ((K.m ^^^ 512 : Nat) : Int))) from Dw.out.setCell (p := ⟨g8, 4, none⟩) (by show u1.heap.size ≤ g8; rw [← hqq]; exact Nat.le_of_lt lq8.out) _)
    have Bx := Lib.hid (Bw.out.setCell (p := ⟨g8, 4, none⟩) (by show w.heap.size ≤ g8; have := lq8.out; have := lqw.out; omega) (.int .u16 ((K.m ^^^ 512 : Nat) : Int)))
    clear Dw Dx hqq
    have qcd : u3.drew.cell? ⟨q, 0, none⟩ = some (.slice (some ⟨g8, 0, none⟩) 1 1) := qc
    have kfd : u3.drew.frozen? ⟨g8, 4, none⟩ = false := kf
    go_region
    have Ay := Lib.hid (drewC Ax.out)
    have Gy := Lib.hid (drewC Gx.out)
    have Ny := Lib.hid (drewC Nx.out)
    have Qy := Lib.hid (drewC Qx.out)
    have Ey := Lib.hid (Ex.out.trans ((Below.refl _ _).drew.mono Ex.out.size))
    have By := Lib.hid (Bx.out.trans ((Below.refl _ _).drew.mono Bx.out.size))
    generalize (World.setCell u3 ⟨g8, 4, none⟩ (.int .u16 ((K.m ^^^ 512 : Nat) : Int))).drew = u4 at *
    clear hxk qc qcd k4 k4d kf kfd lx Ax Gx Nx Qx Ex Bx Aw Gw Nw Qw Bw
    have a0 := Ay.out.cell 0 _ rfl
    have g4c := Gy.out.cell 4 _ rfl
    have g5c := Gy.out.cell 5 _ rfl
    have la4 := Ay.out.lt
    have lg4 := Gy.out.lt
    have hq := HQ.out
    cases hq1 : q1 with
    | false =>
      have M5 := Lib.hid (M4.out (Or.inl hq1))
      have Ry := Lib.hid Ny.out.range
      rw [hq1] at hq
      clear hq1 M4
      go_wp2_with first
        | (guard_target =~ wpList _ _ _ (⟨some _, Op.load 28 _, _, _, _, _⟩ :: _) _ _; go_must (refine wpList_load_mid rfl 28 _ rfl q 0 rfl (optC o (.slice (some ⟨g8, 0, none⟩) 1 1) (.slice fa fn fc)) _ Ry.out Tryz.underlying28 rfl (opt_ld _ _ _) ?_))
      refine (M5.out _ g8 By.out Qy.out).mono ?_
      rintro e u5 ⟨bb, hd1⟩
      have BB11 := Lib.hid bb
      clear bb
      obtain ⟨cp11, he1, H11⟩ : ∃ cp11, e = .returned (.tuple #[.pointer cp11, .bool true]) ∧ Hid ((d2 = false ∧ cp11 = none) ∨ (d2 = true ∧ ∃ P, cp11 = some ⟨P, 0, none⟩ ∧ ∀ W2, Below u5.heap.size u5 W2 → Calls Tryz.prog 11 #[.pointer (some ⟨P, 0, none⟩), .string a, .string b] W2 (RetBk W2 (.int .i64 x4)) ∧ Calls Tryz.prog 12 #[.pointer (some ⟨P, 0, none⟩), .string a, .string b] W2 (RetBk W2 (.int .i64 (-z3))))) := by
        rcases hd1 with ⟨q, rfl⟩ | ⟨q, P, rfl, CC⟩
        · exact ⟨none, rfl, Lib.hid (Or.inl ⟨q, rfl⟩)⟩
        · exact ⟨_, rfl, Lib.hid (Or.inr ⟨q, P, rfl, fun W2 b => CC W2 b⟩)⟩
      subst he1
      clear hd1
      have Bz := Lib.hid (By.out.trans (BB11.out.mono By.out.size))
      have Ez := Lib.hid (Ey.out.trans (BB11.out.mono Ey.out.size))
      cases d2 with
      | false =>
        obtain rfl : cp9 = none := by rcases H9.out with h | h; exact h.2; cases h.1
        obtain rfl : cp11 = none := by rcases H11.out with h | h; exact h.2; cases h.1
        clear H9 H11 Ez Ey Ay Gy Ny Qy
        go_wp2_with fail
        go_ret
        exact ⟨rfl, Bz.out⟩
      | true =>
        obtain ⟨P9, rfl, q9⟩ : ∃ P, cp9 = some ⟨P, 0, none⟩ ∧ Hid (∀ W2, Below u1.heap.size u1 W2 → Calls Tryz.prog 12 #[.pointer (some ⟨P, 0, none⟩), .string a, .string b] W2 (RetBk W2 (.int .i64 z3))) := by
          rcases H9.out with h | ⟨_, P, h, k⟩
          · cases h.1
          · exact ⟨P, h, Lib.hid fun W2 b => (k W2 b).2⟩
        obtain ⟨P11, rfl, q11⟩ : ∃ P, cp11 = some ⟨P, 0, none⟩ ∧ Hid (∀ W2, Below u5.heap.size u5 W2 → Calls Tryz.prog 12 #[.pointer (some ⟨P, 0, none⟩), .string a, .string b] W2 (RetBk W2 (.int .i64 (-z3)))) := by
          rcases H11.out with h | ⟨_, P, h, k⟩
          · cases h.1
          · exact ⟨P, h, Lib.hid fun W2 b => (k W2 b).2⟩
        obtain ⟨y3', hy3⟩ : ∃ y, y = -z3 := ⟨_, rfl⟩
        rw [← hy3] at q11
        have f1 : wrap64 (0 - y3') = z3 := by have := R3.out; unfold wrap64; omega
        have f2 : wrap64 (-y3') = z3 := by have := R3.out; unfold wrap64; omega
        clear H9 H11 hy3 Ey Ay Gy Ny Qy
        go_wp2_with fail
        refine (q9.out _ Ez.out).mono ?_
        rintro e t1 ⟨rfl, k1⟩
        go_wp2_with fail
        refine (q11.out _ k1).mono ?_
        rintro e t2 ⟨rfl, k2⟩
        have Bf := Lib.hid ((Bz.out.trans (k1.mono Bz.out.size)).trans (k2.mono (Bz.out.trans (k1.mono Bz.out.size)).size))
        clear k1 k2 q9 q11
        go_wp2_with fail
        go_ret
        exact ⟨by simp, Bf.out⟩
    | true =>
      rw [hq1] at hq
      cases hkb : K.b with
      | false =>
        rw [hkb] at g5c
        clear M4 H9 Ey HXK R3 hq1 hkb
        go_wp2_with fail
        go_ret
        exact ⟨rfl, By.out⟩
      | true =>
        have M5 := Lib.hid (M4.out (Or.inr hkb))
        have Ry := Lib.hid Ny.out.range
        rw [hkb] at g5c
        clear hq1 M4 hkb
        go_wp2_with first
          | (guard_target =~ wpList _ _ _ (⟨some _, Op.load 28 _, _, _, _, _⟩ :: _) _ _; go_must (refine wpList_load_mid rfl 28 _ rfl q 0 rfl (optC o (.slice (some ⟨g8, 0, none⟩) 1 1) (.slice fa fn fc)) _ Ry.out Tryz.underlying28 rfl (opt_ld _ _ _) ?_))
        refine (M5.out _ g8 By.out Qy.out).mono ?_
        rintro e u5 ⟨bb, hd1⟩
        have BB11 := Lib.hid bb
        clear bb
        obtain ⟨cp11, he1, H11⟩ : ∃ cp11, e = .returned (.tuple #[.pointer cp11, .bool true]) ∧ Hid ((d2 = false ∧ cp11 = none) ∨ (d2 = true ∧ ∃ P, cp11 = some ⟨P, 0, none⟩ ∧ ∀ W2, Below u5.heap.size u5 W2 → Calls Tryz.prog 11 #[.pointer (some ⟨P, 0, none⟩), .string a, .string b] W2 (RetBk W2 (.int .i64 x4)) ∧ Calls Tryz.prog 12 #[.pointer (some ⟨P, 0, none⟩), .string a, .string b] W2 (RetBk W2 (.int .i64 (-z3))))) := by
          rcases hd1 with ⟨q, rfl⟩ | ⟨q, P, rfl, CC⟩
          · exact ⟨none, rfl, Lib.hid (Or.inl ⟨q, rfl⟩)⟩
          · exact ⟨_, rfl, Lib.hid (Or.inr ⟨q, P, rfl, fun W2 b => CC W2 b⟩)⟩
        subst he1
        clear hd1
        have Bz := Lib.hid (By.out.trans (BB11.out.mono By.out.size))
        have Ez := Lib.hid (Ey.out.trans (BB11.out.mono Ey.out.size))
        cases d2 with
        | false =>
          obtain rfl : cp9 = none := by rcases H9.out with h | h; exact h.2; cases h.1
          obtain rfl : cp11 = none := by rcases H11.out with h | h; exact h.2; cases h.1
          clear H9 H11 Ez Ey Ay Gy Ny Qy
          go_wp2_with fail
          go_ret
          exact ⟨rfl, Bz.out⟩
        | true =>
          obtain ⟨P9, rfl, q9⟩ : ∃ P, cp9 = some ⟨P, 0, none⟩ ∧ Hid (∀ W2, Below u1.heap.size u1 W2 → Calls Tryz.prog 12 #[.pointer (some ⟨P, 0, none⟩), .string a, .string b] W2 (RetBk W2 (.int .i64 z3))) := by
            rcases H9.out with h | ⟨_, P, h, k⟩
            · cases h.1
            · exact ⟨P, h, Lib.hid fun W2 b => (k W2 b).2⟩
          obtain ⟨P11, rfl, q11⟩ : ∃ P, cp11 = some ⟨P, 0, none⟩ ∧ Hid (∀ W2, Below u5.heap.size u5 W2 → Calls Tryz.prog 12 #[.pointer (some ⟨P, 0, none⟩), .string a, .string b] W2 (RetBk W2 (.int .i64 (-z3)))) := by
            rcases H11.out with h | ⟨_, P, h, k⟩
            · cases h.1
            · exact ⟨P, h, Lib.hid fun W2 b => (k W2 b).2⟩
          obtain ⟨y3', hy3⟩ : ∃ y, y = -z3 := ⟨_, rfl⟩
          rw [← hy3] at q11
          have f1 : wrap64 (0 - y3') = z3 := by have := R3.out; unfold wrap64; omega
          have f2 : wrap64 (-y3') = z3 := by have := R3.out; unfold wrap64; omega
          clear H9 H11 hy3 Ey Ay Gy Ny Qy
          go_wp2_with fail
          refine (q9.out _ Ez.out).mono ?_
          rintro e t1 ⟨rfl, k1⟩
          go_wp2_with fail
          refine (q11.out _ k1).mono ?_
          rintro e t2 ⟨rfl, k2⟩
          have Bf := Lib.hid ((Bz.out.trans (k1.mono Bz.out.size)).trans (k2.mono (Bz.out.trans (k1.mono Bz.out.size)).size))
          clear k1 k2 q9 q11
          go_wp2_with fail
          go_ret
          exact ⟨by simp, Bf.out⟩
end
end Go.Proofs.YtgpcmlbmmcnkjaaGreatDoor
