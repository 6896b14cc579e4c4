/- copy into a row of the call's own, with what it leaves alone; for whatever program. -/
import Derived.Test.YtolnojhepakaoaaOwn
import Derived.Laws.CopyOwn
namespace Go.Proofs.Ytolnojhepakaoaa
open Go.RowKit

/-- A row behind a store of some of its cells. -/
theorem row_spliced {w : World} {B n g cap : Nat} {e : TypeId} {cur : Array Value} {xs cs : List Value} {off : Nat} (hg : w.heap[g]? = some (.cells cur e (0, 0))) (hB : B ≤ g) (hn : n ≤ cap) (hc : cap ≤ maxLen) (hs : cur.size = cap) (ht : cur.toList.take n = xs) (hfit : off + cs.length ≤ n) (hx : xs.length = n) :
    (w.setRow g (cur.toList.take off ++ (cs ++ cur.toList.drop (off + cs.length))).toArray).ownsRow B e 1 (.slice (some ⟨g, 0, none⟩) n cap) n (splice xs off cs) := by
  have hl : cur.toList.length = cap := by simpa using hs
  refine ⟨by rw [length_splice _ _ _ (by omega)]; omega, .inr ⟨g, cap, _, rfl, hB, setRow_heap w g _ _ e _ hg, hn, hc, by simp; omega, ?_⟩⟩
  rw [Nat.mul_one, ← ht]
  unfold splice
  apply List.ext_getElem?
  intro i
  simp only [List.getElem?_take, List.getElem?_append, List.getElem?_drop, List.length_take]
  by_cases h1 : i < n
  · rw [if_pos h1]
    by_cases h2 : i < off
    · have h3 : i < min off cur.toList.length := by omega
      have h4 : i < min off (min n cur.toList.length) := by omega
      rw [if_pos h3, if_pos h4]
      simp [h1, h2]
    · have h3 : ¬ i < min off cur.toList.length := by omega
      have h4 : ¬ i < min off (min n cur.toList.length) := by omega
      have h5 : min off cur.toList.length = off := by omega
      have h6 : min off (min n cur.toList.length) = off := by omega
      rw [if_neg h3, if_neg h4, h5, h6]
      by_cases h7 : i - off < cs.length
      · rw [if_pos h7, if_pos h7]
      · rw [if_neg h7, if_neg h7]
        have h8 : off + cs.length + (i - off - cs.length) < n := by omega
        rw [if_pos h8]
  · rw [if_neg h1]
    have h3 : ¬ i < min off (min n cur.toList.length) := by omega
    have h6 : min off (min n cur.toList.length) = off := by omega
    have h7 : ¬ i - off < cs.length := by omega
    have h8 : ¬ off + cs.length + (i - off - cs.length) < n := by omega
    rw [if_neg h3, h6, if_neg h7, if_neg h8]

theorem keeps_setRow (w : World) (g : Nat) (cs : Array Value) : Keeps [g] w (w.setRow g cs) :=
  ⟨rfl, rfl, rfl, by simp [World.setRow], fun k _ hk => setRow_other w g k cs (by simpa using hk)⟩

/-- What is asked of a copy into a row of the call's own. -/
structure CopyIn (w : World) (B : Nat) (e : TypeId) (v : Value) (n : Nat) (xs : List Value) (off : Nat) (dp sp : Option Addr) (dLen sLen : Nat) (cs : List Value) : Prop where
  own : w.ownsRow B e 1 v n xs
  len : cs.length = Nat.min sLen dLen
  pos : 0 < cs.length → (∃ g, v.ownBlock = some g ∧ dp = some ⟨g, off, none⟩) ∧ ∃ ad, sp = some ad ∧ ∀ j u, cs[j]? = some u → w.cell? (ad.add j) = some u
  fit : off + cs.length ≤ n
  one : ∀ u ∈ cs, u.oneCell' = true

theorem wpList_copy_in {P : Program} {w : World} {ops : Array Oper} {rest : List Oper} {o : Oper} {a : Act} {Q : Exit → Act → World → Prop} (hgd : o.guard = none) (d s : Operand) (dT sT : TypeId)
    (ho : o.op = .call { callee := .builtin .copy, args := #[d, s], argTypes := #[dT, sT] }) (elem : TypeId) (hu : P.underlying dT = some (.slice elem)) (hsz : (P.info? elem).map (·.size) = some 1)
    (dp sp : Option Addr) (dLen dCap sLen sCap : Nat) (hd : a.eval d = .slice dp dLen dCap) (hs : a.eval s = .slice sp sLen sCap)
    (B : Nat) (v : Value) (n : Nat) (xs : List Value) (off : Nat) (cs : List Value) (hc : CopyIn w B elem v n xs off dp sp dLen sLen cs)
    (h : ∀ w', w'.ownsRow B elem 1 v n (splice xs off cs) → Keeps v.ownBlock.toList w w' → wpList P ops Q rest (a.put o.dst (goInt cs.length)) w') : wpList P ops Q (o :: rest) a w := by
  have hxl : xs.length = n := by have := hc.own.1; simpa using this
  by_cases h0 : cs.length = 0
  · obtain rfl : cs = [] := List.eq_nil_of_length_eq_zero h0
    refine wpList_copy_nothing hgd d s dT sT ho elem hu hsz dp sp dLen dCap sLen sCap hd hs (by simpa using hc.len.symm) ?_
    exact h w (by simpa [splice] using hc.own) (Keeps.refl _ _)
  · obtain ⟨⟨g, hg, rfl⟩, ad, rfl, hsrc⟩ := hc.pos (by omega)
    rcases hc.own.2 with ⟨rfl, hn0⟩ | ⟨g', cap, cur, rfl, hB, hgg, hn, hcm, hcs, ht⟩
    · have := hc.fit; omega
    · simp [Value.ownBlock] at hg
      subst hg
      rw [Nat.mul_one] at hcs ht
      refine wpList_copy_own hgd d s dT sT ho elem hu hsz g' off dLen dCap ad sLen sCap hd hs cur elem hgg cs hc.len hsrc (by have := hc.fit; omega) hc.one ?_
      exact h _ (row_spliced hgg hB hn hcm hcs ht hc.fit hxl) (by simpa [Value.ownBlock] using keeps_setRow w g' _)
end Go.Proofs.Ytolnojhepakaoaa
