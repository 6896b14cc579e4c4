/- Appends of steps onto a full list, of slices onto a row of one's own. -/
import Derived.Test.YthajgfldjjgkiaaAg
namespace Go.Proofs.Ythajgfldjjgkiaa
open Go.RowKit
set_option maxRecDepth 100000

theorem wp_apGS {w : World} {ops : Array Oper} {rest : List Oper} {o : Oper} {a : Act} {Q : Exit → Act → World → Prop} (hgd : o.guard = none) (s x : Operand)
    (ho : o.op = .call { callee := .builtin .append, args := #[s, x], argTypes := #[23, 23] })
    (b n : Nat) (f : Nat → Value) (p : Nat → Int) (hs : a.eval s = .slice (some ⟨b, 0, none⟩) n n) (hb : BlkAt w b 46 (sV f p n))
    (h0 : Nat) (hx : a.eval x = .slice (some ⟨h0, 0, none⟩) 1 1) (u : Value) (z : Int) (hu : u.oneCell' = true) (hz' : BlkAt w h0 46 [u, .int .i64 z]) (hn : n + 1 ≤ 1000000)
    (h : ∀ cap w', OwnS w' (.slice (some ⟨w.heap.size, 0, none⟩) (n + 1) cap) (updF f n u) (updF p n z) (n + 1) → Below w.heap.size w w' → wpList Try.prog ops Q rest (a.put o.dst (.slice (some ⟨w.heap.size, 0, none⟩) (n + 1) cap)) w') :
    wpList Try.prog ops Q (o :: rest) a w := by
  obtain ⟨i0, hi, hz0, hz1, hz2⟩ := info_parts info46
  refine wp_apG hgd s x 23 46 ho i0 (.agg #[.slice none 0 0, .int .i64 0]) 2 32 Try.underlying23 hi hz0 hz1 hz2 b n (sV f p n) hs (sV_len f p n) hb h0 hx [u, .int .i64 z] rfl hz' (fun y hy => ?_) hn (by omega) ?_
  · simp only [List.mem_cons, List.not_mem_nil, or_false] at hy
    rcases hy with rfl | rfl
    · exact hu
    · rfl
  · intro cap w' h1 h2 h3 h4
    refine h cap w' ?_ h4
    unfold OwnS
    rw [sV, updF_same, updF_same, sV_congr (f := updF f n u) (g := f) (o := updF p n z) (p := p) n fun i hi => ⟨updF_other _ _ _ _ (by omega), updF_other _ _ _ _ (by omega)⟩]
    refine ⟨by rw [List.length_append, sV_len]; simp; omega, .inr ⟨w.heap.size, cap, _, rfl, Nat.zero_le _, h3, h1, h2, ?_, ?_⟩⟩
    · rw [Array.size_append, size_zeroCells]
      simp [sV_len, Value.cells]
      omega
    · rw [Array.toList_append, List.take_append_of_le_length (by simp [sV_len]; omega), List.take_of_length_le (by simp [sV_len]; omega)]
/-- A row of slice values of one's own. -/
def OwnV (w : World) (e : TypeId) (v : Value) (l : List Value) : Prop := w.ownsRow 0 e 1 v l.length l
theorem OwnV.nil (w : World) (e : TypeId) : OwnV w e (.slice none 0 0) [] := World.ownsRow_nil _ _ _ _
theorem OwnV.kp {w w' : World} {e : TypeId} {v : Value} {l : List Value} {S : Nat → Prop} (h : OwnV w e v l) (k : Kp w w' S) (hn : ∀ b, v.ownBlock = some b → ¬ S b) : OwnV w' e v l := by
  refine ⟨h.1, ?_⟩
  rcases h.2 with h0 | ⟨g, cap, cur, hv, hb, hg, rest⟩
  · exact .inl h0
  · exact .inr ⟨g, cap, cur, hv, hb, (k.block g (lt_of_heap hg) (hn g (by rw [hv]; rfl))).trans hg, rest⟩
theorem OwnV.below {w w' : World} {e : TypeId} {v : Value} {l : List Value} (h : OwnV w e v l) (k : Below w.heap.size w w') : OwnV w' e v l := h.kp (Kp.of (fun _ => False) k) (fun _ _ => id)
theorem wp_apV {w : World} {ops : Array Oper} {rest : List Oper} {o : Oper} {a : Act} {Q : Exit → Act → World → Prop} (hgd : o.guard = none) (s x : Operand) (t e : TypeId)
    (ho : o.op = .call { callee := .builtin .append, args := #[s, x], argTypes := #[t, t] })
    (ht : Try.prog.underlying t = some (.slice e)) (z : Value) (bytes : Nat) (hinfo : (Try.prog.info? e).map (fun i => (i.zero, i.size, i.bytes)) = some (some z, 1, bytes)) (hzs : z.cells.size = 1) (hby : bytes ≤ 64)
    (v : Value) (l : List Value) (hs : a.eval s = v) (hown : OwnV w e v l) (h0 : Nat) (hx : a.eval x = .slice (some ⟨h0, 0, none⟩) 1 1) (u : Value) (hu : u.oneCell' = true) (hb : BlkAt w h0 e [u]) (hlen : l.length ≤ 1000000)
    (h : ∀ g cap w', OwnV w' e (.slice (some ⟨g, 0, none⟩) (l.length + 1) cap) (l ++ [u]) → Kp w w' (fun k => v.ownBlock = some k) → (v.ownBlock = some g ∨ g = w.heap.size) → wpList Try.prog ops Q rest (a.put o.dst (.slice (some ⟨g, 0, none⟩) (l.length + 1) cap)) w') :
    wpList Try.prog ops Q (o :: rest) a w := by
  obtain ⟨i0, hi, hz0, hz1, hz2⟩ := info_parts hinfo
  refine wpList_append_lies _ hgd s x t ho 0 e i0 z 1 bytes ht hi hz0 hz1 hz2 hzs (by decide) v l.length l hs hown ⟨h0, 0, none⟩ 1 1 [u] hx rfl (fun j y hy => ?_) (fun y hy => ?_) (by decide) (by unfold maxLen; omega) (Nat.le_trans (Nat.mul_le_mul (show l.length + 1 ≤ 1000001 by omega) hby) (by omega)) (Nat.zero_le _) w.heap.size rfl ?_
  · rw [add_plain, Nat.zero_add]; exact hb.cell j y hy
  · simp only [List.mem_cons, List.not_mem_nil, or_false] at hy
    rw [hy]; exact hu
  · intro g cap w' h1 h2 h3 h4
    refine h g cap w' ?_ ⟨h2.os, h2.tape, h2.output, h2.size, fun k hk hn => h2.block k hk (fun e => hn e.symm)⟩ h3
    unfold OwnV
    rw [List.length_append]
    exact h1
theorem info22 : ∃ b, b ≤ 64 ∧ (Try.prog.info? 22).map (fun i => (i.zero, i.size, i.bytes)) = some (some (.slice none 0 0), 1, b) := ⟨24, by decide, by kernel_rfl⟩
theorem info23 : ∃ b, b ≤ 64 ∧ (Try.prog.info? 23).map (fun i => (i.zero, i.size, i.bytes)) = some (some (.slice none 0 0), 1, b) := ⟨24, by decide, by kernel_rfl⟩
end Go.Proofs.Ythajgfldjjgkiaa
