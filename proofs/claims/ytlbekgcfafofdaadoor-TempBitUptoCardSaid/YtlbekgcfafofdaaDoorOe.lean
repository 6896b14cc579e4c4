/- Rows of entries of the call's own. -/
import Derived.Test.YtlbekgcfafofdaaDoorFe
namespace Go.Proofs.YtlbekgcfafofdaaDoor
section
open Go.RowKit

theorem feN_le (b : List UInt8) (n : Nat) : feN b n ≤ b.length := by
  unfold feN
  by_cases g : feG b n = true
  · rw [if_pos g]
    unfold feG at g
    simp only [Bool.and_eq_true, decide_eq_true_eq] at g
    obtain ⟨h0, h⟩ := g
    unfold feE at h
    by_cases h1 : valB (b.take 1) ≠ 229
    · rw [if_neg h0, if_pos h1] at h; omega
    by_cases h2 : b.length < 11
    · rw [if_neg h0, if_neg h1, if_pos h2] at h; omega
    by_cases h3 : valB (seg b 7 4) ≠ sumN (b.take 7)
    · rw [if_neg h0, if_neg h1, if_neg h2, if_pos h3] at h; omega
    by_cases h4 : valB (seg b 1 4) ≠ n
    · rw [if_neg h0, if_neg h1, if_neg h2, if_neg h3, if_pos h4] at h; omega
    by_cases h5 : b.length < 15 + feL b
    · rw [if_neg h0, if_neg h1, if_neg h2, if_neg h3, if_neg h4, if_pos h5] at h; omega
    omega
  · rw [if_neg g]; omega
theorem feN_zero (b : List UInt8) (n : Nat) : feN b n = 0 ↔ feG b n = false := by
  unfold feN
  cases feG b n
  · simp
  · simp
/-- The entries, how many bytes they take, and why it ends. -/
def decS : Nat → List UInt8 → Nat → List Ent × Nat × Nat
  | 0, _, _ => ([], 0, 0)
  | f + 1, b, n => if feN b n = 0 then ([], 0, feE b n) else
    (feX b n :: (decS f (b.drop (feN b n)) (n + 1)).1, feN b n + (decS f (b.drop (feN b n)) (n + 1)).2.1, (decS f (b.drop (feN b n)) (n + 1)).2.2)
/-- As many rounds as there are bytes are enough, and more change nothing. -/
theorem decS_more : ∀ (f : Nat) (b : List UInt8) (n : Nat), b.length < f → decS (f + 1) b n = decS f b n
  | 0, _, _, h => by omega
  | f + 1, b, n, h => by
    rw [decS]
    conv => rhs; rw [decS]
    by_cases g : feN b n = 0
    · rw [if_pos g, if_pos g]
    · rw [if_neg g, if_neg g, decS_more f (b.drop (feN b n)) (n + 1) (by rw [List.length_drop]; have := feN_le b n; omega)]
theorem decS_le : ∀ (f : Nat) (b : List UInt8) (n : Nat), (decS f b n).2.1 ≤ b.length
  | 0, _, _ => Nat.zero_le _
  | f + 1, b, n => by
    rw [decS]
    by_cases g : feN b n = 0
    · rw [if_pos g]; exact Nat.zero_le _
    · rw [if_neg g]
      have := decS_le f (b.drop (feN b n)) (n + 1)
      rw [List.length_drop] at this
      have := feN_le b n
      simp only
      omega
end
section
open Go.RowKit
set_option maxRecDepth 100000

/-- An entry's cells, u its In. -/
def entV (e : Ent) (u : Value) : List Value := [.int .u8 (e.k : Int), .int .u64 (e.pr : Int), .string (bs e.nm), .int .i64 e.ru, .int .i64 e.re, .int .i64 e.li, .int .u32 (e.su : Int), u]
def flatE : List Ent → List Value → List Value
  | e :: l, u :: us => entV e u ++ flatE l us
  | _, _ => []
theorem flatE_snoc : ∀ (l : List Ent) (us : List Value) (e : Ent) (u : Value), us.length = l.length → flatE (l ++ [e]) (us ++ [u]) = flatE l us ++ entV e u
  | [], [], e, u, _ => by simp [flatE]
  | [], _ :: _, _, _, h => by simp at h
  | _ :: _, [], _, _, h => by simp at h
  | a :: l, b :: us, e, u, h => by
    simp only [List.cons_append, flatE]
    rw [flatE_snoc l us e u (by simpa using h), List.append_assoc]
/-- A row of entries of the call's own, each with its In, all of it from block B on. -/
structure OwnEs (w : World) (B : Nat) (v : Value) (l : List Ent) (us : List Value) : Prop where
  own : w.ownsRow B 27 8 v l.length (flatE l us)
  len : us.length = l.length
  ins : ∀ (i : Nat) e u, l[i]? = some e → us[i]? = some u → OwnIB w B u e.inn
  low : B ≤ w.heap.size
theorem OwnEs.nil (w : World) (B : Nat) (h : B ≤ w.heap.size) : OwnEs w B (.slice none 0 0) [] [] :=
  ⟨World.ownsRow_nil _ _ _ _, rfl, fun i e u he _ => by simp at he, h⟩
theorem OwnEs.below {w w' : World} {B : Nat} {v : Value} {l : List Ent} {us : List Value} (h : OwnEs w B v l us) (k : Below w.heap.size w w') : OwnEs w' B v l us := by
  refine ⟨⟨h.own.1, ?_⟩, h.len, fun i e u he hu => (h.ins i e u he hu).below k, Nat.le_trans h.low k.size⟩
  rcases h.own.2 with hn | ⟨g, cap, cur, hv, hb, hgg, rest⟩
  · exact .inl hn
  · exact .inr ⟨g, cap, cur, hv, hb, (k.block g (lt_of_heap hgg)).trans hgg, rest⟩
theorem OwnEs.grown {w w' : World} {B : Nat} {v : Value} {l : List Ent} {us : List Value} (h : OwnEs w B v l us) (g : w.grownBy w' v.ownBlock) : Below B w w' :=
  (Below.refl B w).grown g h.low (fun k hk => (h.own.lt k hk).1)
theorem OwnEs.keeps {w w' : World} {B : Nat} {v : Value} {l : List Ent} {us : List Value} (h : OwnEs w B v l us) (g : w.grownBy w' v.ownBlock) : KeepT 27 w w' := by
  intro k t cs ht x
  refine (g.block k (lt_of_heap x) ?_).trans x
  intro e
  rcases h.own.2 with ⟨hv, _⟩ | ⟨g', cap, cur, hv, _, hgg, _⟩
  · rw [hv] at e; simp [Value.ownBlock] at e
  · rw [hv] at e
    have : k = g' := by simpa [Value.ownBlock] using e
    subst this
    rw [hgg] at x
    injection x with x
    injection x with _ y
    exact ht y.symm
/-- One entry is appended, laid into a block of its own first. -/
theorem wp_apE {w : World} {ops : Array Oper} {rest : List Oper} {o : Oper} {a : Act} {Q : Exit → Act → World → Prop} (hgd : o.guard = none) (s x : Operand)
    (ho : o.op = .call { callee := .builtin .append, args := #[s, x], argTypes := #[39, 39] })
    (B : Nat) (v : Value) (l : List Ent) (us : List Value) (hs : a.eval s = v) (hown : OwnEs w B v l us) (bb : Nat) (e : Ent) (u : Value) (hx : a.eval x = .slice (some ⟨bb, 0, none⟩) 1 1)
    (hc : CellsAt w bb (entV e u)) (hu1 : u.oneCell' = true) (hu : OwnIB w B u e.inn) (hlen : l.length ≤ 1099511627776)
    (h : ∀ v' w', OwnEs w' B v' (l ++ [e]) (us ++ [u]) → Below B w w' → KeepT 27 w w' → wpList Tryd.prog ops Q rest (a.put o.dst v') w') :
    wpList Tryd.prog ops Q (o :: rest) a w := by
  obtain ⟨i0, hi, hz0, hz1, hz2⟩ := info_parts info27
  refine wpList_append_own _ hgd s x 39 ho B 27 i0 _ 8 _ Tryd.underlying39 hi hz0 hz1 hz2 rfl (by decide) v l.length (flatE l us) hs hown.own ⟨bb, 0, none⟩ 1 1 (entV e u) hx rfl ?_ ?_ ?_ ?_ hown.low ?_
  · intro j y hy
    rw [add_plain]
    have := hc.cell j y hy
    simpa using this
  · intro y hy
    simp only [entV, List.mem_cons, List.not_mem_nil, or_false] at hy
    rcases hy with rfl | rfl | rfl | rfl | rfl | rfl | rfl | rfl
    all_goals first | rfl | exact hu1
  · unfold maxLen; omega
  · omega
  · intro v' w' h1 h2 _
    have hsz := h2.size
    refine h v' w' ⟨?_, by simp [hown.len], ?_, Nat.le_trans hown.low hsz⟩ (hown.grown h2) (hown.keeps h2)
    · rw [List.length_append, flatE_snoc _ _ _ _ hown.len]; exact h1
    · intro i e' u' he hu'
      have kt := hown.keeps h2
      rcases Nat.lt_or_ge i l.length with hl | hl
      · rw [List.getElem?_append_left hl] at he
        rw [List.getElem?_append_left (by rw [hown.len]; exact hl)] at hu'
        exact (hown.ins i e' u' he hu').keepT (by decide) kt hsz
      · rw [List.getElem?_append_right hl] at he
        rw [List.getElem?_append_right (by rw [hown.len]; exact hl)] at hu'
        rw [hown.len] at hu'
        generalize i - l.length = j at *
        cases j with
        | zero =>
          simp at he hu'
          subst he hu'
          exact hu.keepT (by decide) kt hsz
        | succ j => simp at he
end
end Go.Proofs.YtlbekgcfafofdaaDoor
