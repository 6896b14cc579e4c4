/- Blocks of options and of keys that the law itself makes. -/
import Derived.Test.YtgpcmlbmmcnkjaaGreatDoorTi
import Derived.Test.YtgpcmlbmmcnkjaaGreatDoorTf
namespace Go.Proofs.YtgpcmlbmmcnkjaaGreatDoor
open Go.RowKit
set_option maxRecDepth 100000
/-- The world behind a struct that is copied into a block of its own. -/
def cpW (W : World) (C : List Value) : World :=
  (W.alloc (.cells #[.slice none 0 0, .int .u16 0, .int .i64 0, .bool false, .bool false, .bool false, .bool false, .int .u8 0, .string { data := #[] }, .bool false, .int .i64 0, .int .i64 0, .int .i64 0, .int .i64 0, .string { data := #[] }, .bool false, .string { data := #[] }, .slice none 0 0] 28)).setCells W.heap.size 0 C
theorem cp_there (W : World) (C : List Value) (hC : C.length = 18) :
    (W.alloc (.cells #[.slice none 0 0, .int .u16 0, .int .i64 0, .bool false, .bool false, .bool false, .bool false, .int .u8 0, .string { data := #[] }, .bool false, .int .i64 0, .int .i64 0, .int .i64 0, .int .i64 0, .string { data := #[] }, .bool false, .string { data := #[] }, .slice none 0 0] 28)).there W.heap.size 0 C.toArray.size := by
  have Z := (CellsAt.new W zOB 28).there
  rw [show C.toArray.size = zOB.length by rw [List.size_toArray, hC]; rfl]
  exact Z
theorem cp_new (W : World) (C : List Value) (hC : C.length = 18) : CellsAt (cpW W C) W.heap.size C := (CellsAt.new W zOB 28).overB (by rw [hC]; rfl)
theorem cp_bel (W : World) (C : List Value) : Below W.heap.size W (cpW W C) := bel_setsB (Nat.le_refl _) _ _ ((Below.refl _ _).alloc (Nat.le_refl _) (Obj.cells zOB.toArray 28))
theorem cp_size (W : World) (C : List Value) : (cpW W C).heap.size = W.heap.size + 1 := by unfold cpW; rw [sz_setsB]; simp
/-- A list of one key, laid into a block of options. -/
def kyW (W : World) (p : Nat) (vs : List Value) : World :=
  (W.setCell ⟨p, 0, none⟩ (.slice (some ⟨W.heap.size, 0, none⟩) 1 1)).alloc (.cells vs.toArray 35)
theorem ky_row (W : World) (p : Nat) (vs : List Value) : CellsAt (kyW W p vs) W.heap.size vs := by
  have h := CellsAt.new (W.setCell ⟨p, 0, none⟩ (.slice (some ⟨W.heap.size, 0, none⟩) 1 1)) vs 35
  rw [show (W.setCell ⟨p, 0, none⟩ (.slice (some ⟨W.heap.size, 0, none⟩) 1 1)).heap.size = W.heap.size by simp] at h
  exact h
theorem ky_opt {W : World} {p : Nat} (vs : List Value) {C : List Value} (h : CellsAt W p C) (hC : 0 < C.length) : CellsAt (kyW W p vs) p (C.set 0 (.slice (some ⟨W.heap.size, 0, none⟩) 1 1)) :=
  (h.set 0 _ hC).alloc _
theorem ky_bel (W : World) (p B : Nat) (vs : List Value) (hB : B ≤ p) (hB2 : B ≤ W.heap.size) : Below B W (kyW W p vs) :=
  ((Below.refl B W).setCell (p := ⟨p, 0, none⟩) hB _).alloc (by simpa using hB2) _
theorem ky_other {W : World} {p b : Nat} (vs : List Value) {C : List Value} (h : CellsAt W b C) (hb : p ≠ b) : CellsAt (kyW W p vs) b C :=
  (h.other hb 0 _).alloc _
theorem ky_sl {W : World} {g B : Nat} {K : KeyL} (h : CellsAt W g (kc K)) (hg : g < B) : SlAt W B (.slice (some ⟨g, 0, none⟩) 1 1) 6 [K].length (ksV [K]) := by
  refine ⟨rfl, Or.inr ⟨g, 0, 1, rfl, hg, fun j u hu => ?_⟩⟩
  rw [Nat.zero_add]
  refine h.cell j u ?_
  rw [show ksV [K] = kc K from by simp [ksV]] at hu
  exact hu
/-- What may gives of options, by what a comparison of two lines then gives. -/
def RetC (dd : Bool) (a b : ByteArray) (x z : Int) (W : World) (e : Ending) (w' : World) : Prop :=
  Below W.heap.size W w' ∧ ((dd = false ∧ e = .returned (.tuple #[.pointer none, .bool true])) ∨ (dd = true ∧ ∃ P, e = .returned (.tuple #[.pointer (some ⟨P, 0, none⟩), .bool true]) ∧ ∀ W2, Below w'.heap.size w' W2 →
    Calls Tryz.prog 11 #[.pointer (some ⟨P, 0, none⟩), .string a, .string b] W2 (RetBk W2 (.int .i64 x)) ∧ Calls Tryz.prog 12 #[.pointer (some ⟨P, 0, none⟩), .string a, .string b] W2 (RetBk W2 (.int .i64 z))))
/-- The separator of options that may be. -/
def tabO (t : Int) : Option UInt8 := if t < 0 then none else some (UInt8.ofNat t.toNat)
theorem tabO_of {t : Int} {oo : Option UInt8} (h : t = tabI oo) : tabO t = oo := by
  subst h
  unfold tabO tabI
  cases oo with
  | none => simp
  | some c =>
    have := c.toNat_lt
    simp
theorem mayC_ok (o : Opt) (ks : List KeyL) (kv fv : Value) (a b : ByteArray) (W : World) (hmm : o.mods < 65536) (hm : ∀ k ∈ ks, k.m < 65536) (hk : SlAt W W.heap.size kv 6 ks.length (ksV ks)) (hkl : ks.length ≤ 1048576) (ha : a.size ≤ 1048576) (hb : b.size ≤ 1048576) (T : Tbs W) :
    Calls Tryz.prog 10 #[optV o kv fv] W (RetC (docS ks o.mods o.tab) a b (cpS (!o.stable && !o.unique) (!decide (o.mods &&& 512 = 0)) (tabO o.tab) (effL ks o.mods o.tab) a b) (kyS (tabO o.tab) (effL ks o.mods o.tab) a b) W) := by
  refine (may_any o ks kv fv W hmm hm hk).mono ?_
  rintro e w' ⟨cp, rfl, hb', h | ⟨hd, P, gg, cap, D, rfl, hD, _, _, K⟩⟩
  · rw [h.2]
    exact ⟨hb', Or.inl ⟨h.1, rfl⟩⟩
  · obtain ⟨oo, ht⟩ := docS_tab hd
    have EN : Nats (D.map Prod.fst) := by rw [hD]; exact eff_nats hd
    have hl : D.length ≤ 1099511627776 := by
      have h1 : D.length = (effL ks o.mods o.tab).length := by rw [← hD, List.length_map]
      have := eff_lenT ks o.mods o.tab
      omega
    rw [tabO_of ht, ← hD]
    rw [ht] at K
    exact ⟨hb', Or.inr ⟨hd, P, rfl, fun W2 b2 => ⟨(K.step b2).compare EN hl a b ha hb ((T.below hb').below b2), (K.step b2).keys EN hl a b ha hb ((T.below hb').below b2)⟩⟩⟩
end Go.Proofs.YtgpcmlbmmcnkjaaGreatDoor
