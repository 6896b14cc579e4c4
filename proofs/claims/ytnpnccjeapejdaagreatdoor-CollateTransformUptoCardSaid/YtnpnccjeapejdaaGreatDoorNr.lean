/- ordered of any options: what is known of the order that it gives. -/
import Derived.Test.YtnpnccjeapejdaaGreatDoorRc
import Derived.Test.YtnpnccjeapejdaaGreatDoorOs
namespace Go.Proofs.YtnpnccjeapejdaaGreatDoor
section
open Go.RowKit

theorem shK_nat {k : KeyL} (h : shK k = true) : ∃ f c ef ec : Nat, k.f = f ∧ k.c = c ∧ k.ef = ef ∧ k.ec = ec ∧ (1 ≤ f ∧ f ≤ 2147483647) ∧ (1 ≤ c ∧ c ≤ 2147483647) ∧ ef ≤ 2147483647 ∧ ec ≤ 2147483647 ∧ k.m < 1024 := by
  unfold shK shB at h
  simp only [Bool.and_eq_true, Bool.not_eq_true', decide_eq_false_iff_not, decide_eq_true_eq] at h
  obtain ⟨h1, h2, h3, h4, h5, h6, h7, h8, _, h9⟩ := h
  exact ⟨k.f.toNat, k.c.toNat, k.ef.toNat, k.ec.toNat, by omega, by omega, by omega, by omega, by omega, by omega, by omega, by omega, by omega⟩
theorem turn_nums (k : KeyL) (m : Nat) (b : Bool) : (turn k m b).f = k.f ∧ (turn k m b).c = k.c ∧ (turn k m b).ef = k.ef ∧ (turn k m b).ec = k.ec := by
  unfold turn; exact ⟨rfl, rfl, rfl, rfl⟩
theorem own_nums (o : Opt) (k : KeyL) : (own o k).f = k.f ∧ (own o k).c = k.c ∧ (own o k).ef = k.ef ∧ (own o k).ec = k.ec := by
  unfold own
  split
  · exact turn_nums _ _ _
  · exact ⟨rfl, rfl, rfl, rfl⟩
theorem docS_parts {ks : List KeyL} {m : Nat} {t : Int} (h : docS ks m t = true) : ks.length ≤ 16 ∧ (-1 ≤ t ∧ t ≤ 255) ∧ m < 1024 ∧ ks.all shK = true := by
  unfold docS at h
  simp only [Bool.and_eq_true, decide_eq_true_eq] at h
  exact ⟨h.1, h.2.1, h.2.2.1, h.2.2.2.1⟩
theorem docS_tab {ks : List KeyL} {m : Nat} {t : Int} (h : docS ks m t = true) : ∃ oo, t = tabI oo := by
  obtain ⟨_, ⟨h1, h2⟩, _⟩ := docS_parts h
  by_cases e : t = -1
  · exact ⟨none, e⟩
  · refine ⟨some (UInt8.ofNat t.toNat), ?_⟩
    unfold tabI
    simp only [UInt8.toNat_ofNat']
    omega
theorem eff_nats {ks : List KeyL} {m : Nat} {t : Int} (h : docS ks m t = true) : ∀ K ∈ effL ks m t, ∃ f c ef ec : Nat, K.f = f ∧ K.c = c ∧ K.ef = ef ∧ K.ec = ec ∧ (1 ≤ f ∧ f ≤ 2147483647) ∧ (1 ≤ c ∧ c ≤ 2147483647) ∧ ef ≤ 2147483647 ∧ ec ≤ 2147483647 ∧ K.m < 65536 := by
  obtain ⟨_, _, h3, h4⟩ := docS_parts h
  intro K hK
  have hm := eff_m (t := t) h3 h4 K hK
  unfold effL at hK
  rw [List.mem_map] at hK
  obtain ⟨a, ha, rfl⟩ := hK
  obtain ⟨e1, e2, e3, e4⟩ := own_nums (o3 m t) a
  have ha' : shK a = true ∨ a = ⟨1, 1, 0, 0, 0, false⟩ := by
    unfold dflt at ha
    split at ha
    · right; simpa using ha
    · left; exact List.all_eq_true.1 h4 a ha
  have hs : shK a = true := by
    rcases ha' with h | rfl
    · exact h
    · decide
  obtain ⟨f, c, ef, ec, q1, q2, q3, q4, r1, r2, r3, r4, _⟩ := shK_nat hs
  exact ⟨f, c, ef, ec, e1.trans q1, e2.trans q2, e3.trans q3, e4.trans q4, r1, r2, r3, r4, by omega⟩
theorem eff_ne (ks : List KeyL) (m : Nat) (t : Int) : effL ks m t ≠ [] := by
  unfold effL dflt
  split
  · simp
  · rename_i h; simpa using h
end
section
section
open Go.RowKit
set_option maxRecDepth 100000
end
section
open Go.RowKit

end
end
end Go.Proofs.YtnpnccjeapejdaaGreatDoor
