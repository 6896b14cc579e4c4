/- Bytes appended onto a row of the call's own. -/
import Derived.Test.YtlbekgcfafofdaaDoorBo
namespace Go.Proofs.YtlbekgcfafofdaaDoor
open Go.RowKit
set_option maxRecDepth 100000
/-- A slice of bytes is appended onto a row of the call's own. -/
theorem wp_appv {w : World} {ops : Array Oper} {rest : List Oper} {o : Oper} {a : Act} {Q : Exit → Act → World → Prop} (hgd : o.guard = none) (s x : Operand)
    (ho : o.op = .call { callee := .builtin .append, args := #[s, x], argTypes := #[29, 29] })
    (B : Nat) (v : Value) (l : List UInt8) (hs : a.eval s = v) (hown : OwnB w B v l) (u : Value) (c : List UInt8) (hx : a.eval x = u) (hc : SlB w u c) (hlen : l.length + c.length ≤ 140737488355328)
    (h : ∀ v' w', OwnB w' B v' (l ++ c) → Below B w w' → KeepB w w' → wpList Tryd.prog ops Q rest (a.put o.dst v') w') :
    wpList Tryd.prog ops Q (o :: rest) a w := by
  obtain ⟨i0, hi, hz0, hz1, hz2⟩ := info_parts info5
  have hB := hown.2
  have key : ∀ (ad : Addr) (cp : Nat), a.eval x = .slice (some ad) c.length cp → (∀ j u, (byV c)[j]? = some u → w.cell? (ad.add j) = some u) → wpList Tryd.prog ops Q (o :: rest) a w := by
    intro ad cp hx2 hcell
    refine wpList_append_own _ hgd s x 29 ho B 5 i0 (.int .u8 0) 1 1 Tryd.underlying29 hi hz0 hz1 hz2 rfl (by decide) v l.length (byV l) hs hown.1 ad c.length cp (byV c) hx2 (by rw [byV_len]; simp) hcell ?_ ?_ ?_ hB ?_
    · intro u hu
      obtain ⟨c', _, rfl⟩ := List.mem_map.1 hu
      rfl
    · unfold maxLen; omega
    · omega
    · intro v' w' h1 h2 _
      have hsz := h2.size
      refine h v' w' ⟨?_, Nat.le_trans hB hsz⟩ (hown.grown h2) (hown.keeps h2)
      rw [List.length_append, byV_app]; exact h1
  obtain ⟨ad, cp, rfl, hnn, hcs⟩ := hc
  cases ad with
  | none =>
    obtain rfl := hnn rfl
    rcases hcs with rfl | ⟨b, off, hb, _⟩
    · refine wpList_append_own_none hgd s x 29 ho B 5 i0 1 Tryd.underlying29 hi v l.length (byV l) hs hown.1 hx ?_
      have := h v w (by rw [List.append_nil]; exact hown) (Below.refl _ _) (KeepB.refl _)
      exact this
    · cases hb
  | some ad =>
    refine key ad cp hx ?_
    rcases hcs with rfl | ⟨b, off, hb, _, hcell⟩
    · intro j u hu; cases hu
    · cases hb
      intro j u hu
      rw [add_plain]
      unfold byV at hu
      rw [List.getElem?_map] at hu
      cases hcj : c[j]? with
      | none => rw [hcj] at hu; cases hu
      | some y => rw [hcj] at hu; cases hu; exact hcell j y hcj

end Go.Proofs.YtlbekgcfafofdaaDoor
