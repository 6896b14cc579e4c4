/- Steps of the call's own, appended one by one. -/
import Derived.Test.YthajgfldjjgkiaaLg
import Derived.Test.YthajgfldjjgkiaaGn
namespace Go.Proofs.Ythajgfldjjgkiaa
open Go.RowKit
set_option maxRecDepth 100000

def OwnS (w : World) (v : Value) (f : Nat → Value) (o : Nat → Int) (n : Nat) : Prop := w.ownsRow 0 46 2 v n (sV f o n)
theorem OwnS.nil (w : World) (f : Nat → Value) (o : Nat → Int) : OwnS w (.slice none 0 0) f o 0 := World.ownsRow_nil _ _ _ _
theorem OwnS.kp {w w' : World} {v : Value} {f : Nat → Value} {o : Nat → Int} {n : Nat} {S : Nat → Prop} (h : OwnS w v f o n) (k : Kp w w' S) (hn : ∀ b, v.ownBlock = some b → ¬ S b) : OwnS w' v f o n := by
  refine ⟨h.1, ?_⟩
  rcases h.2 with h0 | ⟨g, cap, cur, hv, hb, hg, rest⟩
  · exact .inl h0
  · exact .inr ⟨g, cap, cur, hv, hb, (k.block g (lt_of_heap hg) (hn g (by rw [hv]; rfl))).trans hg, rest⟩
theorem OwnS.below {w w' : World} {v : Value} {f : Nat → Value} {o : Nat → Int} {n : Nat} (h : OwnS w v f o n) (k : Below w.heap.size w w') : OwnS w' v f o n := h.kp (Kp.of (fun _ => False) k) (fun _ _ => id)
theorem OwnS.congr {w : World} {v : Value} {f g : Nat → Value} {o p : Nat → Int} {n : Nat} (h : OwnS w v f o n) (e : ∀ i, i < n → f i = g i ∧ o i = p i) : OwnS w v g p n := by
  unfold OwnS at *; rw [← sV_congr n e]; exact h
theorem OwnS.form {w : World} {v : Value} {f : Nat → Value} {o : Nat → Int} {n : Nat} (h : OwnS w v f o n) : ∃ a c, v = .slice a n c := by
  rcases h.2 with ⟨hv, h0⟩ | ⟨g, cap, cur, hv, _⟩
  · exact ⟨none, 0, by rw [hv, h0]⟩
  · exact ⟨_, _, hv⟩
theorem OwnS.sl {w : World} {v : Value} {f : Nat → Value} {o : Nat → Int} {n : Nat} (h : OwnS w v f o n) : SlAt w v n (sV f o n) := by
  rcases h.2 with ⟨rfl, rfl⟩ | ⟨g, cap, cur, hv, hb, hg, h1, h2, h3, h4⟩
  · exact SlAt.nil w
  · refine ⟨_, cap, hv, h1, by unfold maxLen at h2; omega, (fun e => by cases e), Or.inr ⟨g, 0, rfl, lt_of_heap hg, fun j u hu => ?_⟩⟩
    have := World.ownsRow.cells h (g := g) (by rw [hv]; rfl) j u hu
    rw [add_plain] at this
    exact this
/-- Steps and numbers lie apart. -/
theorem own_ne {w : World} {v u : Value} {f : Nat → Value} {o : Nat → Int} {n b c : Nat} {l : List Int} (h : OwnS w v f o n) (k : OwnI w u l) (hb : v.ownBlock = some b) (hc : u.ownBlock = some c) : b ≠ c := by
  rintro rfl
  rcases h.2 with ⟨hv, _⟩ | ⟨g, cap, cur, hv, _, hg, _⟩
  · rw [hv] at hb; cases hb
  · rcases k.2 with ⟨hu, _⟩ | ⟨g', cap', cur', hu, _, hg', _⟩
    · rw [hu] at hc; cases hc
    · rw [hv] at hb; rw [hu] at hc
      injection hb with hb; injection hc with hc
      simp only at hb hc
      subst hb hc
      rw [hg] at hg'
      injection hg' with e
      injection e with _ e
      exact absurd e (by decide)
/-- One step is appended that a block holds. -/
theorem wp_apS {w : World} {ops : Array Oper} {rest : List Oper} {o : Oper} {a : Act} {Q : Exit → Act → World → Prop} (hgd : o.guard = none) (s x : Operand)
    (ho : o.op = .call { callee := .builtin .append, args := #[s, x], argTypes := #[23, 23] })
    (v : Value) (f : Nat → Value) (p : Nat → Int) (n : Nat) (hs : a.eval s = v) (hown : OwnS w v f p n) (h0 : Nat) (hx : a.eval x = .slice (some ⟨h0, 0, none⟩) 1 1) (u : Value) (z : Int) (hu : u.oneCell' = true)
    (hb : BlkAt w h0 46 [u, .int .i64 z]) (hlen : n ≤ 1000000)
    (h : ∀ g cap w', OwnS w' (.slice (some ⟨g, 0, none⟩) (n + 1) cap) (updF f n u) (updF p n z) (n + 1) → Kp w w' (fun k => v.ownBlock = some k) → (v.ownBlock = some g ∨ g = w.heap.size) → wpList Try.prog ops Q rest (a.put o.dst (.slice (some ⟨g, 0, none⟩) (n + 1) cap)) w') :
    wpList Try.prog ops Q (o :: rest) a w := by
  obtain ⟨i0, hi, hz0, hz1, hz2⟩ := info_parts info46
  refine wpList_append_lies _ hgd s x 23 ho 0 46 i0 (.agg #[.slice none 0 0, .int .i64 0]) 2 32 Try.underlying23 hi hz0 hz1 hz2 rfl (by decide) v n (sV f p n) hs hown ⟨h0, 0, none⟩ 1 1 [u, .int .i64 z] hx rfl (fun j y hy => ?_) (fun y hy => ?_) (by decide) (by unfold maxLen; omega) (by omega) (Nat.zero_le _) w.heap.size rfl ?_
  · rw [add_plain, Nat.zero_add]; exact hb.cell j y hy
  · simp only [List.mem_cons, List.not_mem_nil, or_false] at hy
    rcases hy with rfl | rfl
    · exact hu
    · rfl
  · intro g cap w' h1 h2 h3 h4
    refine h g cap w' ?_ ⟨h2.os, h2.tape, h2.output, h2.size, fun k hk hn => h2.block k hk (fun e => hn e.symm)⟩ h3
    unfold OwnS
    rw [sV, updF_same, updF_same, sV_congr (f := updF f n u) (g := f) (o := updF p n z) (p := p) n fun i hi => ⟨updF_other _ _ _ _ (by omega), updF_other _ _ _ _ (by omega)⟩]
    exact h1
theorem left_one {n fan s : Nat} (h : 2 ≤ fan) (hn : 2 ≤ n) (hs : s ≤ need n fan) : 1 < left n fan s ↔ s < need n fan := by
  unfold left
  obtain ⟨q, _, h2⟩ := need_spec h hn
  split
  · omega
  · constructor
    · intro h1
      rcases Nat.lt_or_ge s (need n fan) with h3 | h3
      · exact h3
      · rw [show need n fan - s = 0 by omega, Nat.mul_zero] at h1; omega
    · intro h3
      have := Nat.mul_pos (show 0 < fan - 1 by omega) (show 0 < need n fan - s by omega)
      omega
theorem left_le {n fan s : Nat} (h : 2 ≤ fan) (hn : 2 ≤ n) (hs : s ≤ need n fan) : left n fan s ≤ n := by
  unfold left
  split
  · exact Nat.le_refl _
  · obtain ⟨q, h1, h2⟩ := need_spec h hn
    have h3 : (fan - 1) * (need n fan - s) ≤ (fan - 1) * q := Nat.mul_le_mul_left _ (by omega)
    omega
end Go.Proofs.Ythajgfldjjgkiaa
