/- An append onto a list that has no room: a new list, nothing old is written. -/
import Derived.Test.YthajgfldjjgkiaaRs
import Derived.Deep.AppendSrc
namespace Go.Proofs.Ythajgfldjjgkiaa
open Go.RowKit
set_option maxRecDepth 100000

/-- In general. -/
theorem wp_apG {w : World} {ops : Array Oper} {rest : List Oper} {o : Oper} {a : Act} {Q : Exit → Act → World → Prop} (hgd : o.guard = none) (s x : Operand) (t et : TypeId)
    (ho : o.op = .call { callee := .builtin .append, args := #[s, x], argTypes := #[t, t] })
    (i : TypeInfo) (z0 : Value) (size bytes : Nat) (ht : Try.prog.underlying t = some (.slice et)) (hi : Try.prog.info? et = some i) (hz : i.zero = some z0) (hsize : i.size = size) (hby : i.bytes = bytes)
    (b n : Nat) (l : List Value) (hs : a.eval s = .slice (some ⟨b, 0, none⟩) n n) (hl : l.length = n * size) (hb : BlkAt w b et l)
    (h0 : Nat) (hx : a.eval x = .slice (some ⟨h0, 0, none⟩) 1 1) (u : List Value) (hul : u.length = 1 * size) (hz' : BlkAt w h0 et u) (h1 : ∀ y ∈ u, y.oneCell' = true) (hn : n + 1 ≤ 1000000) (hfit : (n + 1) * bytes ≤ 140737488355328)
    (h : ∀ cap w', n + 1 ≤ cap → cap ≤ maxLen → w'.heap[w.heap.size]? = some (.cells ((l ++ u).toArray ++ Builtin.zeroCells z0.cells (cap - (n + 1))) et) → Below w.heap.size w w' → wpList Try.prog ops Q rest (a.put o.dst (.slice (some ⟨w.heap.size, 0, none⟩) (n + 1) cap)) w') :
    wpList Try.prog ops Q (o :: rest) a w := by
  refine wpList_plain hgd fun K hK => ?_
  have hold := run_firstCells_some (P := Try.prog) w.drew i.size n ⟨b, 0, none⟩ n n l (by rw [hsize]; exact hl) (fun j u hu => by rw [add_plain, Nat.zero_add]; exact hb.drew.cell j u hu)
  have hsrc : Src Try.prog i.size t (.slice (some ⟨h0, 0, none⟩) 1 1) 1 u w := Src.ofSlice w ht ⟨h0, 0, none⟩ 1 1 u (by rw [hsize]; exact hul) (fun j y hy => by rw [add_plain, Nat.zero_add]; exact hz'.cell j y hy) h1
  have hrun := run_append_grow_src (P := Try.prog) w t t o.type et i z0 ht hi hz (some ⟨b, 0, none⟩) n n l hold (.slice (some ⟨h0, 0, none⟩) 1 1) 1 u hsrc (by omega) (by omega) (growslice_fits (by omega) (by rw [hby]; exact hfit))
  unfold Oper.wp
  simp [execOp, ho, resolve, invoke, builtin, hs, hx, hrun, Result.andThen]
  refine hK _ _ (h _ _ (grownCap_ge w (n + 1) n et) (grownCap_le_maxLen w (n + 1) n et (by unfold maxLen; omega)) ?_ ?_)
  · show (w.heap.push _)[w.heap.size]? = _
    simp
  · exact (below_drewN w 1).alloc (Nat.le_refl _) _
theorem wp_apGI {w : World} {ops : Array Oper} {rest : List Oper} {o : Oper} {a : Act} {Q : Exit → Act → World → Prop} (hgd : o.guard = none) (s x : Operand)
    (ho : o.op = .call { callee := .builtin .append, args := #[s, x], argTypes := #[22, 22] })
    (b n : Nat) (l : List Int) (hs : a.eval s = .slice (some ⟨b, 0, none⟩) n n) (hl : l.length = n) (hb : BlkAt w b 3 (iV l))
    (h0 : Nat) (hx : a.eval x = .slice (some ⟨h0, 0, none⟩) 1 1) (z : Int) (hz' : BlkAt w h0 3 [.int .i64 z]) (hn : n + 1 ≤ 1000000)
    (h : ∀ cap w', OwnI w' (.slice (some ⟨w.heap.size, 0, none⟩) (n + 1) cap) (l ++ [z]) → Below w.heap.size w w' → wpList Try.prog ops Q rest (a.put o.dst (.slice (some ⟨w.heap.size, 0, none⟩) (n + 1) cap)) w') :
    wpList Try.prog ops Q (o :: rest) a w := by
  obtain ⟨i0, hi, hz0, hz1, hz2⟩ := info_parts info3
  refine wp_apG hgd s x 22 3 ho i0 (.int .i64 0) 1 8 Try.underlying22 hi hz0 hz1 hz2 b n (iV l) hs (by rw [iV_len, hl]; omega) hb h0 hx [.int .i64 z] rfl hz' (fun y hy => by simp at hy; subst hy; rfl) hn (by omega) ?_
  intro cap w' h1 h2 h3 h4
  refine h cap w' ?_ h4
  have hll : (l ++ [z]).length = n + 1 := by simp [hl]
  have hi2 : iV (l ++ [z]) = iV l ++ [.int .i64 z] := iV_app _ _
  refine ⟨by rw [iV_len, hll]; omega, .inr ⟨w.heap.size, cap, _, by rw [hll], Nat.zero_le _, h3, by rw [hll]; exact h1, h2, ?_, ?_⟩⟩
  · rw [Array.size_append, size_zeroCells]
    simp [iV_len, hl, Value.cells]
    omega
  · rw [Nat.mul_one, hll, hi2, Array.toList_append, List.take_append_of_le_length (by simp [iV_len, hl]), List.take_of_length_le (by simp [iV_len, hl])]
end Go.Proofs.Ythajgfldjjgkiaa
