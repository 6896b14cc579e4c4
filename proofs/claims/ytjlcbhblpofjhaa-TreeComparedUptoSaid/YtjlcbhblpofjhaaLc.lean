/- Lists that came in; sources that are appended; digits. -/
import Derived.Test.YtjlcbhblpofjhaaEn
namespace Go.Proofs.Ytjlcbhblpofjhaa
open Go.RowKit
set_option maxRecDepth 100000
/-- Lists of elements: nil, or somewhere. -/
structure LsAt (w : World) (v : Value) (ls : List (List It)) : Prop where
  form : ∃ a c, v = .slice a ls.length c ∧ (a = none → c = 0 ∧ ls = [])
  cell : ∀ b off n c, v = .slice (some ⟨b, off, none⟩) n c → ∀ i (hi : i < ls.length), b < w.heap.size ∧ ∃ vi, w.cell? ⟨b, off + i, none⟩ = some vi ∧ ItsAt w vi ls[i]
  plain : ∀ ad n c, ls ≠ [] → v = .slice (some ad) n c → ad.spot = none
theorem LsAt.below {w w' : World} {v : Value} {ls : List (List It)} (h : LsAt w v ls) (k : Below w.heap.size w w') : LsAt w' v ls :=
  ⟨h.form, fun b off n c e i hi => by
    obtain ⟨hb, vi, h1, h2⟩ := h.cell b off n c e i hi
    exact ⟨Nat.lt_of_lt_of_le hb k.size, vi, (k.cell (p := ⟨b, off + i, none⟩) hb).trans h1, h2.below k⟩, h.plain⟩
/-- All whole blocks but rows of sources are kept. -/
def Keep25 (w w' : World) : Prop := ∀ (b : Nat) (t : TypeId) (cs : Array Value), t ≠ 25 → w.heap[b]? = some (.cells cs t (0, 0)) → w'.heap[b]? = some (.cells cs t (0, 0))
theorem NotSrc.keep {w w' : World} {b : Nat} (h : NotSrc w b) (k : Keep25 w w') : NotSrc w' b ∧ w'.heap[b]? = w.heap[b]? := by
  obtain ⟨cs, t, ht, h⟩ := h
  exact ⟨⟨cs, t, ht, k b t cs ht h⟩, (k b t cs ht h).trans h.symm⟩
theorem row_grown {w w' : World} {B n : Nat} {v : Value} {xs : List Value} (h : w.ownsRow B 25 1 v n xs) (hB : B ≤ w.heap.size) (g : w.grownBy w' v.ownBlock) : Below B w w' ∧ Keep25 w w' := by
  refine ⟨(Below.refl B w).grown g hB (fun k hk => (h.lt k hk).1), fun k t cs ht x => ?_⟩
  refine (g.block k (lt_of_heap x) ?_).trans x
  intro e
  rcases h.2 with ⟨hv, _⟩ | ⟨g', cap, cur, hv, _, hgg, _⟩
  · rw [hv] at e; simp [Value.ownBlock] at e
  · rw [hv] at e
    have : k = g' := by simpa [Value.ownBlock] using e
    subst this
    rw [hgg] at x
    injection x with x
    injection x with _ y
    exact ht y.symm
/-- One source is appended that has just been put into a row of its own. -/
theorem wp_appS {w : World} {ops : Array Oper} {rest : List Oper} {o : Oper} {a : Act} {Q : Exit → Act → World → Prop} (hgd : o.guard = none) (s x : Operand)
    (ho : o.op = .call { callee := .builtin .append, args := #[s, x], argTypes := #[23, 23] })
    (B : Nat) (v : Value) (n : Nat) (xs : List Value) (hs : a.eval s = v) (hown : w.ownsRow B 25 1 v n xs) (hB : B ≤ w.heap.size) (u : Value) (b : Nat) (hu : u.oneCell' = true)
    (hx : a.eval x = .slice (some ⟨b, 0, none⟩) 1 1) (hc : w.cell? ⟨b, 0, none⟩ = some u) (hlen : n ≤ 1048576)
    (h : ∀ v' w', w'.ownsRow B 25 1 v' (n + 1) (xs ++ [u]) → Below B w w' → Keep25 w w' → w.heap.size ≤ w'.heap.size → wpList Try.prog ops Q rest (a.put o.dst v') w') :
    wpList Try.prog ops Q (o :: rest) a w := by
  obtain ⟨i0, hi, hz0, hz1, hz2⟩ := info_parts info25
  refine wpList_append_own _ hgd s x 23 ho B 25 i0 .nilFunc 1 8 Try.underlying23 hi hz0 hz1 hz2 rfl (by decide) v n xs hs hown ⟨b, 0, none⟩ 1 1 [u] hx rfl (fun j y hy => ?_) (fun y hy => ?_) (by unfold maxLen; omega) (by omega) hB ?_
  · cases j with
    | zero => cases hy; rw [add_plain]; exact hc
    | succ j => simp at hy
  · simp only [List.mem_singleton] at hy; subst hy; exact hu
  · intro v' w' h1 h2 _
    have gr := row_grown hown hB h2
    exact h v' w' h1 gr.1 gr.2 h2.size
theorem srcV_snoc (n : Nat) (sF : Nat → Nat) (sC : Nat → Array Value) : srcV (n + 1) sF sC = srcV n sF sC ++ [.func (.func (sF n)) #[] (sC n)] := by
  unfold srcV
  rw [List.range_succ, List.map_append]
  rfl
theorem srcV_congr {n : Nat} {sF sF' : Nat → Nat} {sC sC' : Nat → Array Value} (h : ∀ i, i < n → sF i = sF' i ∧ sC i = sC' i) : srcV n sF sC = srcV n sF' sC' := by
  unfold srcV
  refine List.map_congr_left fun i hi => ?_
  have := h i (List.mem_range.1 hi)
  rw [this.1, this.2]
theorem src_row {w : World} {B n : Nat} {v : Value} {sF : Nat → Nat} {sC : Nat → Array Value} (h : w.ownsRow B 25 1 v n (srcV n sF sC)) : SrcRow w v n sF sC := by
  refine ⟨?_, fun b n' c e h0 => ?_, fun b n' c e i hi => ?_⟩
  · rcases h.2 with ⟨hv, h0⟩ | ⟨g, cap, cur, hv, _⟩
    · exact ⟨none, 0, by rw [hv, h0], fun h => by omega⟩
    · exact ⟨_, cap, hv, fun _ => ⟨g, rfl⟩⟩
  · rcases h.2 with ⟨hv, _⟩ | ⟨g, cap, cur, hv, hb, hg, _⟩
    · rw [hv] at e; cases e
    · rw [hv] at e; injection e with e1; injection e1 with e1; injection e1 with e1; subst e1; exact lt_of_heap hg
  · have hn : n' = n := by
      rcases h.2 with ⟨hv, _⟩ | ⟨g, cap, cur, hv, hb, hg, _⟩
      · rw [hv] at e; cases e
      · rw [hv] at e; injection e with _ e2; exact e2.symm
    subst hn
    rw [e] at h
    have := h.cellAt i (by omega)
    rw [srcV_at hi] at this
    exact this
/-- How many binary digits. -/
def DigR (n : Nat) (v0 v3 : Value) (w wr : World) : Prop := ∃ (f m d : Nat), v0 = .int .i64 (m : Int) ∧ v3 = .int .i64 (d : Int) ∧ m < 2 ^ f ∧ f ≤ 7 ∧ d + dgf f m = n ∧ d ≤ 7 ∧ wr = w ∧ d + f ≤ 7
set_option maxHeartbeats 1600000 in
theorem digits_ok (n : Nat) (hn : n < 128) (w : World) : Calls Try.prog 16 #[.int .i64 (n : Int)] w (Same w (.int .i64 (dgf 7 n : Int))) := by
  have ST := Lib.hid (show DigR (dgf 7 n) (.int .i64 (n : Int)) (.int .i64 0) w w from ⟨7, n, 0, rfl, rfl, by omega, by omega, by omega, by omega, rfl, by omega⟩)
  generalize dgf 7 n = D at *
  clear hn
  go_enter Try.func16, Try.ntmps16
  go_wp2_with fail
  go_loopw [0, 3] (fun v0 v3 wr => DigR D v0 v3 w wr) (fun v0 _ _ => (intOf v0).toNat)
  case atStart => exact ST.out
  case round =>
    clear ST
    obtain ⟨f, m, d, rfl, rfl, hm, hf, hd, hd7, rfl, hdf⟩ := hrel
    by_cases h0 : m = 0
    · subst h0
      have t1 : decide ((0 : Int) < ((0 : Nat) : Int)) = false := by decide
      have FIN := Lib.hid (show d = D by
        cases f with
        | zero => exact hd
        | succ f => rw [dgf, if_pos rfl] at hd; omega)
      clear hm hf hd hd7 hdf
      go_wp2_with fail
      go_ret
      rw [← FIN.out]
      exact ⟨rfl, rfl⟩
    · have t1 : decide ((0 : Int) < (m : Int)) = true := decide_eq_true (by omega)
      have t1n : decide (0 < m) = true := decide_eq_true (by omega)
      obtain ⟨f, rfl⟩ : ∃ g, f = g + 1 := by
        cases f with
        | zero => simp at hm; exact absurd hm h0
        | succ f => exact ⟨f, rfl⟩
      rw [dgf, if_neg h0] at hd
      have m128 : m < 128 := Nat.lt_of_lt_of_le hm (show 2 ^ (f + 1) ≤ 2 ^ 7 from Nat.pow_le_pow_right (by omega) hf)
      have i1 : (m : Int) < 128 := by omega
      have i2 : (0 : Int) ≤ (m : Int) := by omega
      have i3 : (d : Int) ≤ 7 := by omega
      have i4 : (0 : Int) ≤ (d : Int) := by omega
      have NX := Lib.hid (show DigR D (.int .i64 ((m : Int) / 2)) (.int .i64 ((d : Int) + 1)) wr wr from ⟨f, m / 2, d + 1, by congr 1, by congr 1, by rw [Nat.pow_succ] at hm; omega, by omega, by omega, by omega, rfl, by omega⟩)
      have ME := Lib.hid (show ((m : Int) / 2).toNat < m by omega)
      clear hm hf hd hd7 hdf h0 m128
      go_wp2_with fail
      go_roundw
      case rel => exact NX.out
      case measure => have := ME.out; simp [intOf]; omega
end Go.Proofs.Ytjlcbhblpofjhaa
