/- Blocks of options and of keys that the law itself makes. -/
import Derived.Test.YtnpnccjeapejdaaGreatDoorTc
import Derived.Deep.MidRow
import Derived.Test.YtnpnccjeapejdaaGreatDoorTf
namespace Go.Proofs.YtnpnccjeapejdaaGreatDoor
open Go.RowKit
set_option maxRecDepth 100000
/-- What may gives of options, by what a comparison of two lines then gives. -/
def RetC (dd : Bool) (a b : ByteArray) (x z : Int) (W : World) (e : Ending) (w' : World) : Prop :=
  Below W.heap.size W w' ∧ ((dd = false ∧ e = .returned (.tuple #[.pointer none, .bool true])) ∨ (dd = true ∧ ∃ P, e = .returned (.tuple #[.pointer (some ⟨P, 0, none⟩), .bool true]) ∧ ∀ W2, Below w'.heap.size w' W2 →
    Calls Tryz.prog 9 #[.pointer (some ⟨P, 0, none⟩), .string a, .string b] W2 (RetBk W2 (.int .i64 x)) ∧ Calls Tryz.prog 22 #[.pointer (some ⟨P, 0, none⟩), .string a, .string b] W2 (RetBk W2 (.int .i64 z))))
/-- The separator of options that may be. -/
def tabO (t : Int) : Option UInt8 := if t < 0 then none else some (UInt8.ofNat t.toNat)
theorem tabO_of {t : Int} {oo : Option UInt8} (h : t = tabI oo) : tabO t = oo := by
  subst h
  unfold tabO tabI
  cases oo with
  | none => simp
  | some c =>
    have := c.toNat_lt
    simp
theorem mayC_ok (o : Opt) (ks : List KeyL) (kv fv : Value) (a b : ByteArray) (W : World) (hmm : o.mods < 65536) (hm : ∀ k ∈ ks, k.m < 65536) (hk : SlAt W W.heap.size kv 6 ks.length (ksV ks)) (hkl : ks.length ≤ 1048576) (ha : a.size ≤ 1048576) (hb : b.size ≤ 1048576) (T : Tbs W) :
    Calls Tryz.prog 6 #[optV o kv fv] W (RetC (docS ks o.mods o.tab) a b (cpS (!o.stable && !o.unique) (!decide (o.mods &&& 512 = 0)) (tabO o.tab) (effL ks o.mods o.tab) a b) (kyS (tabO o.tab) (effL ks o.mods o.tab) a b) W) := by
  refine (may_any o ks kv fv W hmm hm hk).mono ?_
  rintro e w' ⟨cp, rfl, hb', h | ⟨hd, P, gg, cap, D, rfl, hD, _, _, K⟩⟩
  · rw [h.2]
    exact ⟨hb', Or.inl ⟨h.1, rfl⟩⟩
  · obtain ⟨oo, ht⟩ := docS_tab hd
    have EN : Nats (D.map Prod.fst) := by rw [hD]; exact eff_nats hd
    have hl : D.length ≤ 1099511627776 := by
      have h1 : D.length = (effL ks o.mods o.tab).length := by rw [← hD, List.length_map]
      have := eff_lenT ks o.mods o.tab
      omega
    rw [tabO_of ht, ← hD]
    rw [ht] at K
    exact ⟨hb', Or.inr ⟨hd, P, rfl, fun W2 b2 => ⟨(K.step b2).compare EN hl a b ha hb ((T.below hb').below b2), (K.step b2).keys EN hl a b ha hb ((T.below hb').below b2)⟩⟩⟩
end Go.Proofs.YtnpnccjeapejdaaGreatDoor
