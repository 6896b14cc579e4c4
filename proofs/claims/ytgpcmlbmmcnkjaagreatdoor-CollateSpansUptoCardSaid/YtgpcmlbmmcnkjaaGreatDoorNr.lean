/- ordered of any options: what is known of the order that it gives. -/
import Derived.Test.YtgpcmlbmmcnkjaaGreatDoorNq
import Derived.Test.YtgpcmlbmmcnkjaaGreatDoorOo
namespace Go.Proofs.YtgpcmlbmmcnkjaaGreatDoor
open Go.RowKit

/-- What stands of an order: its three cells and its row of keys, from B on. -/
def OrdAt (w : World) (B P gg cap : Nat) (L : List KeyL) (t : Int) : Prop :=
  B ≤ P ∧ B ≤ gg ∧ P < w.heap.size ∧ w.cell? ⟨P, 0, none⟩ = some (.slice (some ⟨gg, 0, none⟩) L.length cap) ∧ ∀ i (h : i < L.length), KcAt w gg (i * 10) L[i].f L[i].c L[i].ef L[i].ec L[i].m L[i].b t
def OrdR (w w' : World) (ks : List KeyL) (o : Opt) (cp : Option Addr) : Prop :=
  (docS ks o.mods o.tab = false ∧ cp = none) ∨ (docS ks o.mods o.tab = true ∧ ∃ P gg cap, cp = some ⟨P, 0, none⟩ ∧ OrdAt w' w.heap.size P gg cap (effL ks o.mods o.tab) o.tab)
theorem ordered_any (o : Opt) (ks : List KeyL) (kv fv : Value) (w : World) (hmm : o.mods < 65536) (hm : ∀ k ∈ ks, k.m < 65536) (hk : SlAt w w.heap.size kv 6 ks.length (ksV ks)) :
    Calls Tryz.prog 13 #[optV o kv fv] w (fun e w' => ∃ cp, e = .returned (.tuple #[.pointer cp, .bool true]) ∧ Below w.heap.size w w' ∧ OrdR w w' ks o cp) := by
  cases hd : docS ks o.mods o.tab with
  | false =>
    refine (ordered_out o ks kv fv w hmm hm hk hd).mono ?_
    rintro e w' ⟨rfl, hb⟩
    exact ⟨none, rfl, hb, Or.inl ⟨hd, rfl⟩⟩
  | true =>
    refine (ordered_in o ks kv fv w hmm hm hk hd).mono ?_
    rintro e w' ⟨W0, P, R, g, kv', fv', v, D, rfl, hD, hb, hN⟩
    have hl : D.length = (effL ks o.mods o.tab).length := by rw [← hD, List.length_map]
    have hne := eff_ne ks o.mods o.tab
    have h0 : 0 < D.length := by rw [hl]; exact List.length_pos_iff.2 hne
    obtain ⟨gg, cap, rfl, K⟩ := key_at hN 0 h0
    refine ⟨some ⟨P, 0, none⟩, rfl, hb.trans (hN.bel.mono hb.size), Or.inr ⟨hd, P, gg, cap, rfl, ?_, ?_, hN.ord.lt, ?_, ?_⟩⟩
    · have := hN.lo; have := hb.size; omega
    · have := (hN.row.lt gg rfl).1; have := hN.lo; have := hN.mid; have := hb.size; omega
    · rw [← hl]; exact hN.ord.cell 0 _ rfl
    · intro i hi
      have hi' : i < D.length := by omega
      obtain ⟨gg', cap', e, K'⟩ := key_at hN i hi'
      injection e with e1
      injection e1 with e1
      injection e1 with e1
      subst e1
      have : (effL ks o.mods o.tab)[i] = D[i].1 := by
        have := congrArg (fun l => l[i]?) hD
        simp only [List.getElem?_map, List.getElem?_eq_getElem hi', List.getElem?_eq_getElem hi, Option.map_some, Option.some.injEq] at this
        exact this.symm
      rw [this]
      exact K'
end Go.Proofs.YtgpcmlbmmcnkjaaGreatDoor
