/- Appends; a number put into a rising list. -/
import Derived.Test.YthajgfldjjgkiaaRy
namespace Go.Proofs.Ythajgfldjjgkiaa
open Go.RowKit
set_option maxRecDepth 100000

/-- A row of numbers of the call's own. -/
def OwnI (w : World) (v : Value) (l : List Int) : Prop := w.ownsRow 0 3 1 v l.length (iV l)
theorem OwnI.nil (w : World) : OwnI w (.slice none 0 0) [] := World.ownsRow_nil _ _ _ _
theorem OwnI.kp {w w' : World} {v : Value} {l : List Int} {S : Nat → Prop} (h : OwnI w v l) (k : Kp w w' S) (hn : ∀ b, v.ownBlock = some b → ¬ S b) : OwnI w' v l := by
  refine ⟨h.1, ?_⟩
  rcases h.2 with h0 | ⟨g, cap, cur, hv, hb, hg, rest⟩
  · exact .inl h0
  · exact .inr ⟨g, cap, cur, hv, hb, (k.block g (lt_of_heap hg) (hn g (by rw [hv]; rfl))).trans hg, rest⟩
theorem OwnI.below {w w' : World} {v : Value} {l : List Int} (h : OwnI w v l) (k : Below w.heap.size w w') : OwnI w' v l := h.kp (Kp.of (fun _ => False) k) (fun _ _ => id)
theorem OwnI.lt {w : World} {v : Value} {l : List Int} (h : OwnI w v l) {b : Nat} (e : v.ownBlock = some b) : b < w.heap.size := (World.ownsRow.lt h b e).2
theorem OwnI.sl {w : World} {v : Value} {l : List Int} (h : OwnI w v l) : SlI w v l := by
  rcases h.2 with ⟨rfl, hn⟩ | ⟨g, cap, cur, hv, hb, hg, h1, h2, h3, h4⟩
  · have : l = [] := List.eq_nil_of_length_eq_zero hn
    subst this
    exact SlAt.nil w
  · refine ⟨_, cap, hv, h1, by unfold maxLen at h2; omega, (fun e => by cases e), Or.inr ⟨g, 0, rfl, lt_of_heap hg, fun j u hu => ?_⟩⟩
    have := World.ownsRow.cells h (g := g) (by rw [hv]; rfl) j u hu
    rw [add_plain] at this
    exact this
theorem OwnI.set {w : World} {g n c : Nat} {l : List Int} (h : OwnI w (.slice (some ⟨g, 0, none⟩) n c) l) (j : Nat) (x : Int) : OwnI (w.setCell ⟨g, j, none⟩ (.int .i64 x)) (.slice (some ⟨g, 0, none⟩) n c) (l.set j x) := by
  unfold OwnI at *
  have hn : n = l.length := by
    rcases h.2 with ⟨hv, _⟩ | ⟨g', cap, cur, hv, _⟩
    · cases hv
    · injection hv with _ e _
  subst hn
  rw [iV_set, List.length_set]
  exact (World.ownsRow.stored h j (.int .i64 x)).1
theorem OwnI.free {w : World} {g n c : Nat} {l : List Int} (h : OwnI w (.slice (some ⟨g, 0, none⟩) n c) l) (j : Nat) : w.frozen? ⟨g, j, none⟩ = false := by
  rcases h.2 with ⟨hv, _⟩ | ⟨g', cap, cur, hv, hb, hg, _⟩
  · cases hv
  · injection hv with e _ _
    injection e with e
    injection e with e
    subst e
    exact frozen_of_row w g j cur 3 hg
theorem OwnI.cell {w : World} {g n c : Nat} {l : List Int} (h : OwnI w (.slice (some ⟨g, 0, none⟩) n c) l) (j : Nat) (y : Int) (hj : l[j]? = some y) : w.cell? ⟨g, j, none⟩ = some (.int .i64 y) := by
  have := World.ownsRow.cells h (g := g) rfl j (.int .i64 y) (by unfold iV; rw [List.getElem?_map, hj]; rfl)
  rw [add_plain, Nat.zero_add] at this
  exact this
theorem OwnI.lt' {w : World} {g n c : Nat} {l : List Int} (h : OwnI w (.slice (some ⟨g, 0, none⟩) n c) l) : g < w.heap.size := h.lt rfl
/-- Numbers are appended. -/
theorem wp_apI {w : World} {ops : Array Oper} {rest : List Oper} {o : Oper} {a : Act} {Q : Exit → Act → World → Prop} (hgd : o.guard = none) (s x : Operand)
    (ho : o.op = .call { callee := .builtin .append, args := #[s, x], argTypes := #[22, 22] })
    (v : Value) (l : List Int) (hs : a.eval s = v) (hown : OwnI w v l) (ad : Addr) (m c : Nat) (news : List Int) (hx : a.eval x = .slice (some ad) m c) (hm : m = news.length) (hm0 : 0 < m)
    (hnews : ∀ (j : Nat) (h : j < news.length), w.cell? (ad.add j) = some (.int .i64 news[j])) (hlen : l.length + m ≤ 17592186044416)
    (h : ∀ g cap w', OwnI w' (.slice (some ⟨g, 0, none⟩) (l.length + m) cap) (l ++ news) → Kp w w' (fun k => v.ownBlock = some k) → (v.ownBlock = some g ∨ g = w.heap.size) → wpList Try.prog ops Q rest (a.put o.dst (.slice (some ⟨g, 0, none⟩) (l.length + m) cap)) w') :
    wpList Try.prog ops Q (o :: rest) a w := by
  obtain ⟨i0, hi, hz0, hz1, hz2⟩ := info_parts info3
  refine wpList_append_lies _ hgd s x 22 ho 0 3 i0 (.int .i64 0) 1 8 Try.underlying22 hi hz0 hz1 hz2 rfl (by decide) v l.length (iV l) hs hown ad m c (iV news) hx (by rw [iV_len, hm]; omega) (fun j u hu => ?_) (fun u hu => ?_) hm0 (by unfold maxLen; omega) (by omega) (Nat.zero_le _) w.heap.size rfl ?_
  · have hj : j < news.length := by have := (List.getElem?_eq_some_iff.1 hu).1; rw [iV_len] at this; exact this
    rw [iV_at news j hj] at hu
    injection hu with hu
    rw [← hu]
    exact hnews j hj
  · unfold iV at hu
    obtain ⟨y, _, rfl⟩ := List.mem_map.1 hu
    rfl
  · intro g cap w' h1 h2 h3 h4
    refine h g cap w' ?_ ⟨h2.os, h2.tape, h2.output, h2.size, fun k hk hn => h2.block k hk (fun e => hn e.symm)⟩ h3
    unfold OwnI
    rw [List.length_append, iV_app, ← hm]
    exact h1
/-- A number stands in a list where it belongs. -/
def Ins (l : List Int) (x : Int) (L : List Int) : Prop := ∃ i, i ≤ l.length ∧ L = l.take i ++ x :: l.drop i ∧ (∀ y ∈ l.drop i, x < y) ∧ ∀ h : i - 1 < l.length, 0 < i → l[i - 1] ≤ x
def Up (l : List Int) : Prop := l.Pairwise (· ≤ ·)
theorem srt_up (l : List Int) : Up (srt l) := by
  have := List.pairwise_mergeSort (le := fun x y : Int => decide (x ≤ y)) (fun a b c h1 h2 => by simp at *; omega) (fun a b => by simp; omega) l
  exact this.imp (fun h => by simpa using h)
theorem srt_perm (l : List Int) : (srt l).Perm l := List.mergeSort_perm l _
theorem Up.srt {l m : List Int} (h : Up l) (p : l.Perm m) : l = srt m := by
  refine List.Perm.eq_of_pairwise (le := fun x y : Int => x ≤ y) (fun a b _ _ h1 h2 => by omega) h (srt_up m) (p.trans (srt_perm m).symm)
theorem Ins.srt {l : List Int} {x : Int} {L : List Int} (h : Ins (srt l) x L) : L = srt (l ++ [x]) := by
  obtain ⟨i, hi, rfl, h1, h2⟩ := h
  have u := srt_up l
  have e : (Go.Proofs.Ythajgfldjjgkiaa.srt l).take i ++ (Go.Proofs.Ythajgfldjjgkiaa.srt l).drop i = Go.Proofs.Ythajgfldjjgkiaa.srt l := List.take_append_drop _ _
  have u2 : Up ((Go.Proofs.Ythajgfldjjgkiaa.srt l).take i ++ (Go.Proofs.Ythajgfldjjgkiaa.srt l).drop i) := by rw [e]; exact u
  obtain ⟨a1, a2, a3⟩ := List.pairwise_append.1 u2
  refine Up.srt ?_ ?_
  · refine List.pairwise_append.2 ⟨a1, List.pairwise_cons.2 ⟨fun y hy => Int.le_of_lt (h1 y hy), a2⟩, fun a ha b hb => ?_⟩
    rcases List.mem_cons.1 hb with rfl | hb
    · obtain ⟨j, hj, rfl⟩ := List.mem_iff_getElem.1 ha
      have hj' : j < i := by have := hj; rw [List.length_take] at this; omega
      rw [List.getElem_take]
      have hlt : i - 1 < (Go.Proofs.Ythajgfldjjgkiaa.srt l).length := by omega
      have q := h2 hlt (by omega)
      by_cases ej : j = i - 1
      · subst ej; exact q
      · exact Int.le_trans (List.pairwise_iff_getElem.1 u j (i - 1) (by omega) hlt (by omega)) q
    · exact a3 a ha b hb
  · have p1 : ((Go.Proofs.Ythajgfldjjgkiaa.srt l).take i ++ x :: (Go.Proofs.Ythajgfldjjgkiaa.srt l).drop i).Perm (x :: ((Go.Proofs.Ythajgfldjjgkiaa.srt l).take i ++ (Go.Proofs.Ythajgfldjjgkiaa.srt l).drop i)) := List.perm_middle
    rw [e] at p1
    exact p1.trans (((srt_perm l).cons x).trans (List.perm_append_singleton x l).symm)
end Go.Proofs.Ythajgfldjjgkiaa
