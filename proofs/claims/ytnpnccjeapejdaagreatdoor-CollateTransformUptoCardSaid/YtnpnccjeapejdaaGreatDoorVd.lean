/- An order with its filters; one key's image, of any key of an order. -/
import Derived.Test.YtnpnccjeapejdaaGreatDoorVc
import Derived.Test.YtnpnccjeapejdaaGreatDoorVa
import Derived.Test.YtnpnccjeapejdaaGreatDoorTk
namespace Go.Proofs.YtnpnccjeapejdaaGreatDoor
open Num (RetBelow)
open Go.RowKit
set_option maxRecDepth 100000
structure OrdT (W : World) (P gg cap : Nat) (b1 b2 : Bool) (D : List (KeyL × Value)) (t : Int) : Prop where
  ord : OrdK W P gg cap b1 b2 D t
  c7 : ∀ i (h : i < D.length), W.cell? ⟨gg, i * 10 + 7, none⟩ = some (.int .u8 (letsS D[i].1.m : Int))
  c8 : ∀ i (h : i < D.length), W.cell? ⟨gg, i * 10 + 8, none⟩ = some (.bool (foldS D[i].1.m))
theorem OrdT.step {W W' : World} {P gg cap : Nat} {b1 b2 : Bool} {D : List (KeyL × Value)} {t : Int} (h : OrdT W P gg cap b1 b2 D t) (b : Below W.heap.size W W') : OrdT W' P gg cap b1 b2 D t :=
  ⟨h.ord.step b, fun i hi => (b.cell (p := ⟨gg, i * 10 + 7, none⟩) h.ord.hg).trans (h.c7 i hi), fun i hi => (b.cell (p := ⟨gg, i * 10 + 8, none⟩) h.ord.hg).trans (h.c8 i hi)⟩
theorem NlIn.ordT {w wr : World} {R P g : Nat} {o : Opt} {kv fv v : Value} {b1 b2 : Bool} {L : List KeyL} {D : List (KeyL × Value)} (h : NlIn w wr R P g o kv fv b1 b2 L v D) (h0 : 0 < D.length) :
    ∃ gg cap, OrdT wr P gg cap b1 b2 D o.tab := by
  obtain ⟨gg, cap, K⟩ := h.ordK h0
  obtain ⟨g', cap', rfl, _, hl, hr, _⟩ := own_row h.row (by omega)
  have e := K.c0
  rw [h.ord.cell 0 _ rfl] at e
  injection e with e
  injection e with e1 e2 e3
  injection e1 with e1
  injection e1 with e1
  subst e1
  have q : ∀ i (hi : i < D.length), ∀ j, j < 10 → ∀ u, (kyC o.tab D[i].1 D[i].2)[j]? = some u → wr.cell? ⟨g', i * 10 + j, none⟩ = some u := fun i hi j hj u hu => by
    have := hr (i * 10 + j) u (by rw [kysV_at o.tab D i hi j hj]; exact hu)
    rwa [Nat.zero_add] at this
  exact ⟨g', cap, K, fun i hi => q i hi 7 (by omega) _ rfl, fun i hi => q i hi 8 (by omega) _ rfl⟩
def MayT (w' : World) (ks : List KeyL) (o : Opt) (cp : Option Addr) : Prop :=
  (docS ks o.mods o.tab = false ∧ cp = none) ∨ (docS ks o.mods o.tab = true ∧ ∃ P gg cap D, cp = some ⟨P, 0, none⟩ ∧ D.map Prod.fst = effL ks o.mods o.tab ∧ OrdT w' P gg cap (!o.stable && !o.unique) (!decide (o.mods &&& 512 = 0)) D o.tab)
theorem may_T (o : Opt) (ks : List KeyL) (kv fv : Value) (w : World) (hmm : o.mods < 65536) (hm : ∀ k ∈ ks, k.m < 65536) (hk : SlAt w w.heap.size kv 6 ks.length (ksV ks)) :
    Calls Tryz.prog 6 #[optV o kv fv] w (fun e w' => ∃ cp, e = .returned (.tuple #[.pointer cp, .bool true]) ∧ Below w.heap.size w w' ∧ MayT w' ks o cp) := by
  cases hd : docS ks o.mods o.tab with
  | false =>
    refine (may_out o ks kv fv w hmm hm hk hd).mono ?_
    rintro e w' ⟨rfl, hb⟩
    exact ⟨none, rfl, hb, Or.inl ⟨hd, rfl⟩⟩
  | true =>
    refine (may_in o ks kv fv w hmm hm hk hd).mono ?_
    rintro e w' ⟨W0, P, R, g, kv', fv', v, D, rfl, hD, hb, hN⟩
    have hl : D.length = (effL ks o.mods o.tab).length := by rw [← hD, List.length_map]
    have hne := eff_ne ks o.mods o.tab
    have h0 : 0 < D.length := by rw [hl]; exact List.length_pos_iff.2 hne
    obtain ⟨gg, cap, K⟩ := hN.ordT h0
    exact ⟨some ⟨P, 0, none⟩, rfl, hb.trans (hN.bel.mono hb.size), Or.inr ⟨hd, P, gg, cap, D, rfl, hD, K⟩⟩
theorem imB_len (m : Nat) (x : ByteArray) (hx : x.size ≤ 1048576) : (imB m x.data.toList).length ≤ 8 * x.size + 128 ∧ 0 < (imB m x.data.toList).length := by
  unfold imB
  split
  · have h1 := filt_len (letsS m) (foldS m) x.data.toList
    rw [← Lib.size_eq] at h1
    have h2 := Num.embS_len8 (m &&& 496) (bs (filtS (letsS m) (foldS m) x.data.toList)) (by rw [bs_size]; omega)
    rw [bs_list, bs_size] at h2
    exact ⟨by omega, h2.2⟩
  · exact Num.embS_len8 (m &&& 496) x (by omega)
theorem turnL_im (m : Nat) (x : List UInt8) : turnL (((m &&& 512 : Nat) : Int) != 0) (imB m x) = imK m x := by
  unfold turnL imK
  by_cases h : m &&& 512 = 0
  · rw [if_pos h, h]; simp
  · rw [if_neg h, if_pos (by rw [bne_iff_ne]; omega)]
theorem imK_len (m : Nat) (x : ByteArray) (hx : x.size ≤ 1048576) : (imK m x.data.toList).length ≤ 8 * x.size + 128 := by
  have := (imB_len m x hx).1
  unfold imK
  split
  · exact this
  · rw [List.length_map]; exact this
theorem im_ok (m : Nat) (x : ByteArray) (b : Bool) (B : Nat) (v : Value) (l : List UInt8) (hx : x.size ≤ 1048576) (hl : l.length ≤ 50000000000000) (hb : (((m &&& 512 : Nat) : Int) != 0) = b) :
    ∀ W, OwnB W B v l → Calls Tryz.prog 20 #[v, .string (bs (imB m x.data.toList)), .bool b] W (RetRow B W (l ++ imK m x.data.toList)) := fun W h => by
  have h1 := imB_len m x hx
  have := image_ok B v l (bs (imB m x.data.toList)) b W h (by rw [bs_size]; omega) (by rw [bs_size]; exact h1.2)
  rw [bs_list, ← hb, turnL_im] at this
  rw [← hb]
  exact this
theorem emb_ok (kind : Nat) (s : ByteArray) (W : World) (hs : s.size ≤ 1048576) (T : Tbs W) : Calls Tryz.prog 21 #[.int .u16 (kind : Int), .string s] W (RetBelow W (.string (bs (Num.embS kind s.data.toList)))) :=
  Num.embed_ok kind s W (by omega) T.num
theorem keyT_ok {W0 : World} {P gg cap : Nat} {b1 b2 : Bool} {D : List (KeyL × Value)} {oo : Option UInt8} (K : OrdT W0 P gg cap b1 b2 D (tabI oo)) (EN : Nats (D.map Prod.fst)) (s : ByteArray) (hs : s.size ≤ 1048576) (i : Nat) (hi : i < D.length)
    (T0 : Tbs W0) (B : Nat) (hB : W0.heap.size ≤ B) (W : World) (b : Below W0.heap.size W0 W) (v : Value) (l : List UInt8) (hown : OwnB W B v l) (hl : l.length ≤ 50000000000000) :
    Calls Tryz.prog 19 #[.pointer (some ⟨gg, i * 10, none⟩), v, .string s] W (RetRow B W (l ++ imK (mL (D.map Prod.fst) i) (cutL s oo (D.map Prod.fst) i).data.toList)) := by
  have hi' : i < (D.map Prod.fst).length := by rw [List.length_map]; exact hi
  obtain ⟨_, _, _, _, _, _, _, _, _, _, _, _, hm⟩ := EN (D.map Prod.fst)[i] (List.getElem_mem hi')
  have em : mL (D.map Prod.fst) i = D[i].1.m := by rw [mL_at hi', List.getElem_map]
  rw [List.getElem_map] at hm
  rw [em]
  have KW := K.step b
  have TW := T0.below b
  have hc := cutL_size s oo (D.map Prod.fst) i hs
  have CU := Lib.hid (fun (W' : World) (b' : Below W.heap.size W W') => KW.ord.cut EN s hs i hi W' b' (TW.below b').cls)
  have c4 := (KW.ord.kc i hi).c4
  have c7 := KW.c7 i hi
  have c8 := KW.c8 i hi
  have A0 : AtIn W W gg (i * 10) D[i].1.m (letsS D[i].1.m) (foldS D[i].1.m) B v l := ⟨c4, c7, c8, KW.ord.hg, Nat.lt_of_lt_of_le K.ord.hg hB, hown, Below.refl _ _⟩
  generalize cutL s oo (D.map Prod.fst) i = x at *
  generalize D[i].1.m = m at *
  have b512 : bits BinOp.and IntKind.u16 (m : Int) 512 = ((m &&& 512 : Nat) : Int) := and_nat m 512 hm (by omega)
  have KI := Lib.hid (fun W => kind_ok m hm W)
  have FL := Lib.hid (fun (W' : World) (b' : Below W.heap.size W W') => apply_ok (letsS m) (lets_any m) (foldS m) x hc W' (TW.below b').cls)
  have hf : (bs (filtS (letsS m) (foldS m) x.data.toList)).size ≤ 1048576 := by
    have h1 := filt_len (letsS m) (foldS m) x.data.toList
    rw [← Lib.size_eq] at h1
    rw [bs_size]; omega
  have EF : ∀ W', Below W.heap.size W W' → Calls Tryz.prog 21 #[.int .u16 ((m &&& 496 : Nat) : Int), .string (bs (filtS (letsS m) (foldS m) x.data.toList))] W' (RetBelow W' (.string (bs (Num.embS (m &&& 496) (filtS (letsS m) (foldS m) x.data.toList))))) := fun W' b' => by
    have := emb_ok (m &&& 496) _ W' hf (TW.below b')
    rwa [bs_list] at this
  have AT := Lib.hid (im_ok m x _ B v l hc hl rfl)
  by_cases h0 : m &&& 496 = 0
  · have e : imB m x.data.toList = Num.embS (m &&& 496) (filtS (letsS m) (foldS m) x.data.toList) := by unfold imB; rw [if_pos (Or.inl h0)]
    rw [e] at AT
    exact appendTo_0 gg (i * 10) m (m &&& 496) (m &&& 512) (letsS m) (foldS m) _ s x _ _ v l _ B W A0 (by rw [h0]; rfl) b512 rfl KI CU FL (Lib.hid EF) AT
  · by_cases h1 : m &&& 496 = 256
    · have e : imB m x.data.toList = Num.embS (m &&& 496) (filtS (letsS m) (foldS m) x.data.toList) := by unfold imB; rw [if_pos (Or.inr h1)]
      rw [e] at AT
      exact appendTo_1 gg (i * 10) m (m &&& 496) (m &&& 512) (letsS m) (foldS m) _ s x _ _ v l _ B W A0 (by rw [h1]; rfl) (by rw [h1]; rfl) b512 rfl KI CU FL (Lib.hid EF) AT
    · have e : imB m x.data.toList = Num.embS (m &&& 496) x.data.toList := by unfold imB; rw [if_neg (by omega)]
      rw [e] at AT
      exact appendTo_2 gg (i * 10) m (m &&& 496) (m &&& 512) (letsS m) (foldS m) _ s x _ v l _ B W A0 (by rw [beq_eq_false_iff_ne]; omega) (by rw [beq_eq_false_iff_ne]; omega) b512 rfl KI CU (Lib.hid fun W' b' => emb_ok (m &&& 496) x W' hc (TW.below b')) AT
end Go.Proofs.YtnpnccjeapejdaaGreatDoor
