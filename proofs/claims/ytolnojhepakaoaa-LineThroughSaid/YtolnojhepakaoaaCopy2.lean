/- copy into a row of the call's own, inside a region that draws its order; for whatever program. -/
import Derived.Test.YtolnojhepakaoaaCopy
namespace Go.Proofs.Ytolnojhepakaoaa
open Go.RowKit

/-- The same, inside a region that draws its order. -/
theorem step_copy_in {P : Program} {ops : Array Oper} {o : Oper} {a : Act} {w : World} {K : Act → World → Prop} {Q : Exit → Act → World → Prop} {E : Prop} (hgd : o.guard = none) (d s : Operand) (dT sT : TypeId)
    (ho : o.op = .call { callee := .builtin .copy, args := #[d, s], argTypes := #[dT, sT] }) (elem : TypeId) (hu : P.underlying dT = some (.slice elem)) (hsz : (P.info? elem).map (·.size) = some 1)
    (dp sp : Option Addr) (dLen dCap sLen sCap : Nat) (hd : a.eval d = .slice dp dLen dCap) (hs : a.eval s = .slice sp sLen sCap)
    (B : Nat) (v : Value) (n : Nat) (xs : List Value) (off : Nat) (cs : List Value) (hc : CopyIn w B elem v n xs off dp sp dLen sLen cs)
    (h : ∀ w', w'.ownsRow B elem 1 v n (splice xs off cs) → Keeps v.ownBlock.toList w w' → K (a.put o.dst (goInt cs.length)) w') :
    if Region.wanted o (yielded ops a.tmps) = true then Oper.wp P o a w K Q else E := by
  have hw : Region.wanted o (yielded ops a.tmps) = true := by simp [Region.wanted, hgd]
  rw [if_pos hw]
  have hxl : xs.length = n := by have := hc.own.1; simpa using this
  by_cases h0 : cs.length = 0
  · obtain rfl : cs = [] := List.eq_nil_of_length_eq_zero h0
    have hrun := run_copy_none (P := P) w dT sT o.type elem dp sp dLen dCap sLen sCap hu hsz (by simpa using hc.len.symm)
    unfold Oper.wp
    simp [execOp, ho, resolve, invoke, builtin, hd, hs, hrun, Result.andThen]
    exact h w (by simpa [splice] using hc.own) (Keeps.refl _ _)
  · obtain ⟨⟨g, hg, rfl⟩, ad, rfl, hsrc⟩ := hc.pos (by omega)
    rcases hc.own.2 with ⟨rfl, hn0⟩ | ⟨g', cap, cur, rfl, hB, hgg, hn, hcm, hcs, ht⟩
    · have := hc.fit; omega
    · simp [Value.ownBlock] at hg
      subst hg
      rw [Nat.mul_one] at hcs ht
      have hrun := run_copy_row (P := P) w dT sT o.type elem g' off dLen dCap ad sLen sCap cur elem cs hu hsz hgg hc.len hsrc (by have := hc.fit; omega) hc.one
      unfold Oper.wp
      simp [execOp, ho, resolve, invoke, builtin, hd, hs, hrun, Result.andThen]
      exact h _ (row_spliced hgg hB hn hcm hcs ht hc.fit hxl) (by simpa [Value.ownBlock] using keeps_setRow w g' _)
end Go.Proofs.Ytolnojhepakaoaa
