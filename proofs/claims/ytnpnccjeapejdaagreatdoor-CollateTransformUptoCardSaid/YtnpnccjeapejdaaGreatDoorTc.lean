/- An order in memory with all that its keys keep; what it answers; may, of any options. -/
import Derived.Test.YtnpnccjeapejdaaGreatDoorTb
import Derived.Test.YtnpnccjeapejdaaGreatDoorNr
namespace Go.Proofs.YtnpnccjeapejdaaGreatDoor
open Go.RowKit
set_option maxRecDepth 100000
structure OrdK (W : World) (P gg cap : Nat) (b1 b2 : Bool) (D : List (KeyL × Value)) (t : Int) : Prop where
  hP : P < W.heap.size
  hg : gg < W.heap.size
  c0 : W.cell? ⟨P, 0, none⟩ = some (.slice (some ⟨gg, 0, none⟩) D.length cap)
  c1 : W.cell? ⟨P, 1, none⟩ = some (.bool b1)
  c2 : W.cell? ⟨P, 2, none⟩ = some (.bool b2)
  kc : ∀ i (h : i < D.length), KcAt W gg (i * 10) D[i].1.f D[i].1.c D[i].1.ef D[i].1.ec D[i].1.m D[i].1.b t
  c9 : ∀ i (h : i < D.length), W.cell? ⟨gg, i * 10 + 9, none⟩ = some D[i].2
  kh : ∀ i (h : i < D.length), ∃ B, KeyH W B (D[i].1.m &&& 512) (D[i].1.m &&& 496) (letsS D[i].1.m) (foldS D[i].1.m) D[i].2
theorem OrdK.step {W W' : World} {P gg cap : Nat} {b1 b2 : Bool} {D : List (KeyL × Value)} {t : Int} (h : OrdK W P gg cap b1 b2 D t) (b : Below W.heap.size W W') : OrdK W' P gg cap b1 b2 D t :=
  ⟨Nat.lt_of_lt_of_le h.hP b.size, Nat.lt_of_lt_of_le h.hg b.size, (b.cell (p := ⟨P, 0, none⟩) h.hP).trans h.c0, (b.cell (p := ⟨P, 1, none⟩) h.hP).trans h.c1, (b.cell (p := ⟨P, 2, none⟩) h.hP).trans h.c2,
    fun i hi => (h.kc i hi).below b, fun i hi => (b.cell (p := ⟨gg, i * 10 + 9, none⟩) h.hg).trans (h.c9 i hi), fun i hi => by obtain ⟨B, k⟩ := h.kh i hi; exact ⟨B, k.step b⟩⟩
theorem NlIn.ordK {w wr : World} {R P g : Nat} {o : Opt} {kv fv v : Value} {b1 b2 : Bool} {L : List KeyL} {D : List (KeyL × Value)} (h : NlIn w wr R P g o kv fv b1 b2 L v D) (h0 : 0 < D.length) :
    ∃ gg cap, OrdK wr P gg cap b1 b2 D o.tab := by
  obtain ⟨gg, cap, rfl, _, hl, hr, _⟩ := own_row h.row (by omega)
  have q : ∀ i (hi : i < D.length), ∀ j, j < 10 → ∀ u, (kyC o.tab D[i].1 D[i].2)[j]? = some u → wr.cell? ⟨gg, i * 10 + j, none⟩ = some u := fun i hi j hj u hu => by
    have := hr (i * 10 + j) u (by rw [kysV_at o.tab D i hi j hj]; exact hu)
    rwa [Nat.zero_add] at this
  refine ⟨gg, cap, h.ord.lt, hl, h.ord.cell 0 _ rfl, h.ord.cell 1 _ rfl, h.ord.cell 2 _ rfl, fun i hi => ?_, fun i hi => q i hi 9 (by omega) _ rfl, fun i hi => ?_⟩
  · exact ⟨q i hi 0 (by omega) _ rfl, q i hi 1 (by omega) _ rfl, q i hi 2 (by omega) _ rfl, q i hi 3 (by omega) _ rfl, q i hi 4 (by omega) _ rfl, q i hi 5 (by omega) _ rfl, q i hi 6 (by omega) _ rfl, hl⟩
  · obtain ⟨B, _, k⟩ := KeyF.now (h.keys D[i] (List.getElem_mem hi))
    exact ⟨B, k⟩
section
variable {W : World} {P gg cap : Nat} {b1 b2 : Bool} {D : List (KeyL × Value)} {oo : Option UInt8}
theorem cutL_size (s : ByteArray) (oo : Option UInt8) (L : List KeyL) (i : Nat) (hs : s.size ≤ 1048576) : (cutL s oo L i).size ≤ 1048576 := by
  have := Lib.size_eq (cutL s oo L i)
  have h2 : (cutL s oo L i).data.size ≤ s.data.size := by
    unfold cutL
    rw [ByteArray.data_extract, Array.size_extract]
    omega
  have e1 : (cutL s oo L i).size = (cutL s oo L i).data.size := rfl
  have e2 : s.size = s.data.size := rfl
  omega
theorem OrdK.cut (K : OrdK W P gg cap b1 b2 D (tabI oo)) (EN : Nats (D.map Prod.fst)) (s : ByteArray) (hs : s.size ≤ 1048576) (i : Nat) (hi : i < D.length) (W' : World) (b : Below W.heap.size W W') (T : Tabs W') :
    Calls Tryz.prog 34 #[.pointer (some ⟨gg, i * 10, none⟩), .string s] W' (RetBk W' (.string (cutL s oo (D.map Prod.fst) i))) := by
  have hi' : i < (D.map Prod.fst).length := by rw [List.length_map]; exact hi
  have KS : ∀ W2, Below W'.heap.size W' W2 → Calls Tryz.prog 51 #[.pointer (some ⟨gg, i * 10, none⟩), .string s] W2 (RetBk W2 (.agg #[.int .i64 ((spL s oo (D.map Prod.fst) i).1 : Int), .int .i64 ((spL s oo (D.map Prod.fst) i).2 : Int)])) := fun W2 b2 => by
    obtain ⟨f, c, ef, ec, e1, e2, e3, e4, hf, hc, hef, hec, hm⟩ := EN (D.map Prod.fst)[i] (List.getElem_mem hi')
    rw [spL_at hi', e1, e2, e3, e4]
    rw [List.getElem_map] at e1 e2 e3 e4 hm ⊢
    have hk := (K.step (b.trans (b2.mono b.size))).kc i hi
    rw [e1, e2, e3, e4] at hk
    exact kspan_ok s oo gg (i * 10) f c ef ec _ _ W2 hf hc hef hec hm (by omega) hk (T.below b2)
  have hle : (spL s oo (D.map Prod.fst) i).1 ≤ (spL s oo (D.map Prod.fst) i).2 ∧ (spL s oo (D.map Prod.fst) i).2 ≤ s.size := by rw [spL_at hi']; exact spanP_le s oo _ _ _ _ _ _
  exact cut_g s _ _ _ W' hle.1 hle.2 (Lib.hid KS)
theorem OrdK.keys (K : OrdK W P gg cap b1 b2 D (tabI oo)) (EN : Nats (D.map Prod.fst)) (hD : D.length ≤ 1099511627776) (a b : ByteArray) (ha : a.size ≤ 1048576) (hb : b.size ≤ 1048576) (T : Tbs W) :
    Calls Tryz.prog 22 #[.pointer (some ⟨P, 0, none⟩), .string a, .string b] W (RetBk W (.int .i64 (kyS oo (D.map Prod.fst) a b))) := by
  have H : ∀ i : Nat, ∃ p : Nat × Array Value × Array Value, ∀ hi : i < D.length, D[i].2 = .func (.func p.1) p.2.1 p.2.2 ∧ (∀ (xs : Array Value) (W : World), Sem.run Tryz.prog (callFunc p.1 xs) W = .ok (.enter p.1 xs) W) ∧
      ∀ (x y : ByteArray) (W2 : World), x.size ≤ 1048576 → y.size ≤ 1048576 → Below W.heap.size W W2 → Tbs W2 →
        Calls Tryz.prog p.1 (p.2.1 ++ (#[.string x, .string y] ++ p.2.2)) W2 (RetBk W2 (.int .i64 (zK D[i].1.m x.data.toList y.data.toList))) := fun i => by
    by_cases hi : i < D.length
    · obtain ⟨B, k⟩ := K.kh i hi
      obtain ⟨n, bs, cs, e, CF, CM⟩ := keyH_ok k
      exact ⟨(n, bs, cs), fun _ => ⟨e, CF, CM⟩⟩
    · exact ⟨(0, #[], #[]), fun h => absurd h hi⟩
  obtain ⟨f, hf⟩ := Classical.axiomOfChoice H
  have e : kyS oo (D.map Prod.fst) a b = firstN (fun i => zK (mL (D.map Prod.fst) i) (cutL a oo (D.map Prod.fst) i).data.toList (cutL b oo (D.map Prod.fst) i).data.toList) D.length 0 := by
    unfold kyS; rw [List.length_map]
  rw [e]
  refine keys_g a b P gg D.length cap (cutL a oo (D.map Prod.fst)) (cutL b oo (D.map Prod.fst)) _ (fun i => (f i).1) (fun i => (f i).2.1) (fun i => (f i).2.2) W hD K.c0 K.hP K.hg (fun i hi => ?_)
    (Lib.hid fun i hi => (hf i hi).2.1) (Lib.hid fun i hi W2 b2 => K.cut EN a ha i hi W2 b2 (T.cls.below b2)) (Lib.hid fun i hi W2 b2 => K.cut EN b hb i hi W2 b2 (T.cls.below b2)) (Lib.hid fun i hi W2 b2 => ?_)
  · rw [K.c9 i hi, (hf i hi).1]
  · have hi' : i < (D.map Prod.fst).length := by rw [List.length_map]; exact hi
    have := (hf i hi).2.2 (cutL a oo (D.map Prod.fst) i) (cutL b oo (D.map Prod.fst) i) W2 (cutL_size a oo _ i ha) (cutL_size b oo _ i hb) b2 (T.below b2)
    rw [mL_at hi', List.getElem_map]
    exact this
theorem OrdK.compare (K : OrdK W P gg cap b1 b2 D (tabI oo)) (EN : Nats (D.map Prod.fst)) (hD : D.length ≤ 1099511627776) (a b : ByteArray) (ha : a.size ≤ 1048576) (hb : b.size ≤ 1048576) (T : Tbs W) :
    Calls Tryz.prog 9 #[.pointer (some ⟨P, 0, none⟩), .string a, .string b] W (RetBk W (.int .i64 (cpS b1 b2 oo (D.map Prod.fst) a b))) :=
  compare_g a b P b1 b2 _ W K.c1 K.c2 K.hP (Lib.hid (K.keys EN hD a b ha hb T))
end
theorem optC_lenM (o : Opt) (kv fv : Value) : (Tryz.prog.info? 28).map (·.size) = some (optC o kv fv).length := by kernel_rfl
set_option maxHeartbeats 3200000 in
theorem may_in (o : Opt) (ks : List KeyL) (kv fv : Value) (w : World) (hmm : o.mods < 65536) (hm : ∀ k ∈ ks, k.m < 65536) (hk : SlAt w w.heap.size kv 6 ks.length (ksV ks)) (hd : docS ks o.mods o.tab = true) :
    Calls Tryz.prog 6 #[optV o kv fv] w (fun e w' => ∃ W0 P R g kv' fv' v D, e = .returned (.tuple #[.pointer (some ⟨P, 0, none⟩), .bool true]) ∧ D.map Prod.fst = effL ks o.mods o.tab ∧ Below w.heap.size w W0 ∧ NlIn W0 w' R P g o kv' fv' (!o.stable && !o.unique) (!decide (o.mods &&& 512 = 0)) (effL ks o.mods o.tab) v D) := by
  have A0 := Lib.hid (CellsAt.new w (optC o kv fv) 28)
  have B0 := Lib.hid ((Below.refl w.heap.size w).alloc (Nat.le_refl _) (Obj.cells (optC o kv fv).toArray 28))
  have R0 := Lib.hid A0.out.range
  have hDE : dcE ks o.mods o.tab = 0 := by unfold dcE; rw [hd]; rfl
  have NW := Lib.hid (fun (W : World) (b : Below w.heap.size w W) => new_in o ks kv fv W hmm hm ((hk.keep b (Nat.le_refl _)).mono b.size) hd)
  have CH := Lib.hid (fun (W : World) (b : Below w.heap.size w W) => mcheck_ok o ks kv fv W hmm hm ((hk.keep b (Nat.le_refl _)).mono b.size))
  rw [hDE] at CH
  unfold optV at NW CH ⊢
  clear hk hm hd hDE
  go_enter Tryz.func6, Tryz.ntmps6
  go_wp2_with first
    | (guard_target =~ wpList _ _ _ (⟨some _, Op.load 28 _, _, _, _, _⟩ :: _) _ _; go_must (refine wpList_load_mid rfl 28 _ rfl w.heap.size 0 rfl (optC o kv fv) _ R0.out Tryz.underlying28 rfl (optC_lenM _ _ _) ?_))
  refine (CH.out _ B0.out).mono ?_
  rintro e w1 ⟨rfl, b1⟩
  have A1 := Lib.hid (A0.out.step b1)
  have R1 := Lib.hid A1.out.range
  have B1 := Lib.hid (B0.out.trans (b1.mono B0.out.size))
  clear b1 CH R0 A0 B0
  go_wp2_with first
    | (guard_target =~ wpList _ _ _ (⟨some _, Op.load 28 _, _, _, _, _⟩ :: _) _ _; go_must (refine wpList_load_mid rfl 28 _ rfl w.heap.size 0 rfl (optC o kv fv) _ R1.out Tryz.underlying28 rfl (optC_lenM _ _ _) ?_))
  refine (NW.out _ B1.out).mono ?_
  rintro e w2 ⟨P, R, g, kv', fv', v, D, rfl, hD, N⟩
  have HN := Lib.hid N
  have HD := Lib.hid hD
  clear N hD NW A1 R1
  go_wp2_with fail
  refine (num_ok 0 w2).mono ?_
  rintro e w3 ⟨rfl, rfl⟩
  go_wp2_with fail
  go_ret2
  exact ⟨_, P, R, g, kv', fv', v, D, rfl, HD.out, B1.out, HN.out⟩
set_option maxHeartbeats 3200000 in
theorem may_out (o : Opt) (ks : List KeyL) (kv fv : Value) (w : World) (hmm : o.mods < 65536) (hm : ∀ k ∈ ks, k.m < 65536) (hk : SlAt w w.heap.size kv 6 ks.length (ksV ks)) (hd : docS ks o.mods o.tab = false) :
    Calls Tryz.prog 6 #[optV o kv fv] w (RetBk w (.tuple #[.pointer none, .bool true])) := by
  have A0 := Lib.hid (CellsAt.new w (optC o kv fv) 28)
  have B0 := Lib.hid ((Below.refl w.heap.size w).alloc (Nat.le_refl _) (Obj.cells (optC o kv fv).toArray 28))
  have R0 := Lib.hid A0.out.range
  have CH := Lib.hid (fun (W : World) (b : Below w.heap.size w W) => mcheck_ok o ks kv fv W hmm hm ((hk.keep b (Nat.le_refl _)).mono b.size))
  rw [dc_no hd] at CH
  unfold optV at CH ⊢
  clear hk hm hd
  go_enter Tryz.func6, Tryz.ntmps6
  go_wp2_with first
    | (guard_target =~ wpList _ _ _ (⟨some _, Op.load 28 _, _, _, _, _⟩ :: _) _ _; go_must (refine wpList_load_mid rfl 28 _ rfl w.heap.size 0 rfl (optC o kv fv) _ R0.out Tryz.underlying28 rfl (optC_lenM _ _ _) ?_))
  refine (CH.out _ B0.out).mono ?_
  rintro e w1 ⟨rfl, b1⟩
  have B1 := Lib.hid (B0.out.trans (b1.mono B0.out.size))
  clear b1 CH R0 A0 B0
  go_wp2_with fail
  go_ret2
  exact ⟨rfl, B1.out⟩
/-- What may gives of any options. -/
def MayR (w w' : World) (ks : List KeyL) (o : Opt) (cp : Option Addr) : Prop :=
  (docS ks o.mods o.tab = false ∧ cp = none) ∨ (docS ks o.mods o.tab = true ∧ ∃ P gg cap D, cp = some ⟨P, 0, none⟩ ∧ D.map Prod.fst = effL ks o.mods o.tab ∧ w.heap.size ≤ P ∧ w.heap.size ≤ gg ∧ OrdK w' P gg cap (!o.stable && !o.unique) (!decide (o.mods &&& 512 = 0)) D o.tab)
theorem may_any (o : Opt) (ks : List KeyL) (kv fv : Value) (w : World) (hmm : o.mods < 65536) (hm : ∀ k ∈ ks, k.m < 65536) (hk : SlAt w w.heap.size kv 6 ks.length (ksV ks)) :
    Calls Tryz.prog 6 #[optV o kv fv] w (fun e w' => ∃ cp, e = .returned (.tuple #[.pointer cp, .bool true]) ∧ Below w.heap.size w w' ∧ MayR w w' ks o cp) := by
  cases hd : docS ks o.mods o.tab with
  | false =>
    refine (may_out o ks kv fv w hmm hm hk hd).mono ?_
    rintro e w' ⟨rfl, hb⟩
    exact ⟨none, rfl, hb, Or.inl ⟨hd, rfl⟩⟩
  | true =>
    refine (may_in o ks kv fv w hmm hm hk hd).mono ?_
    rintro e w' ⟨W0, P, R, g, kv', fv', v, D, rfl, hD, hb, hN⟩
    have hl : D.length = (effL ks o.mods o.tab).length := by rw [← hD, List.length_map]
    have hne := eff_ne ks o.mods o.tab
    have h0 : 0 < D.length := by rw [hl]; exact List.length_pos_iff.2 hne
    obtain ⟨gg, cap, K⟩ := hN.ordK h0
    have hsl : ∃ cap', v = .slice (some ⟨gg, 0, none⟩) D.length cap' := by
      obtain ⟨g', cap', rfl, _⟩ := own_row hN.row (by omega)
      have e := K.c0
      rw [hN.ord.cell 0 _ rfl] at e
      injection e with e
      exact ⟨cap, e⟩
    obtain ⟨cap', rfl⟩ := hsl
    refine ⟨some ⟨P, 0, none⟩, rfl, hb.trans (hN.bel.mono hb.size), Or.inr ⟨hd, P, gg, cap, D, rfl, hD, ?_, ?_, K⟩⟩
    · have := hN.lo; have := hb.size; omega
    · have := (hN.row.lt gg rfl).1; have := hN.lo; have := hN.mid; have := hb.size; omega
end Go.Proofs.YtnpnccjeapejdaaGreatDoor
