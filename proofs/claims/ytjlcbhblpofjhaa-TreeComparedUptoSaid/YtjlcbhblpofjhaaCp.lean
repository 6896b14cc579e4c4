/- TreeCompared: a Next of its tree. -/
import Derived.Test.YtjlcbhblpofjhaaCo
namespace Go.Proofs.Ytjlcbhblpofjhaa
open Go.RowKit
set_option maxRecDepth 100000
def YC (k : Nat) (rb gb : Nat → Nat) (cb : Nat) : Nat → Prop := fun b => footB k rb gb b ∨ b = cb
structure CompAt (w : World) (k : Nat) (rb gb : Nat → Nat) (G : Geo) (T : TS OS) (r : Nat) (wr : World) : Prop where
  tree : TreeAt (EC k rb gb w.heap.size) G false wr (YC k rb gb w.heap.size) T
  iv : Iv k T
  rem : rem k T = r
  cc : T.cmpd = T.s.calls
  big : ∀ b, own G (YC k rb gb w.heap.size) b → w.heap.size ≤ b
  gk : G.k = k
  bel : Below w.heap.size w wr
def CompR (w : World) (k : Nat) (rb gb : Nat → Nat) (G : Geo) (T : TS OS) (r : Nat) (e : Ending) (w' : World) : Prop :=
  ∃ (xk xw : Int) (sr : Nat) (is : Bool) (T' : TS OS) (r' : Nat), e = .returned (.tuple #[.agg #[.int .i64 xk, .int .i64 xw], .int .i64 (sr : Int), .bool is, .int .i64 0]) ∧ CompAt w k rb gb G T' r' w' ∧ T'.cmpd ≤ T.cmpd + (if T.played = true then dgf 7 (k - 1) else k - 1) ∧ T'.played = true ∧ ((r = r' + 1 ∧ is = true) ∨ (r = 0 ∧ is = false))
theorem comp_next {w wr : World} {k : Nat} {rb gb : Nat → Nat} {G : Geo} {T : TS OS} {r : Nat} (h : CompAt w k rb gb G T r wr) (hb : T.cmpd + 128 ≤ 1099511627776) : Calls Try.prog 17 #[.pointer (some ⟨G.t, 0, none⟩)] wr (CompR w k rb gb G T r) := by
  have gk := h.gk
  have h0 : 0 < k := by have := h.tree.geo.k0; omega
  have h64 : k ≤ 64 := by have := h.tree.geo.k64; omega
  have ok : (EC k rb gb w.heap.size).Ok G.k := by rw [gk]; exact EC_ok k rb gb _
  have nx := next_ok ok h.tree (by rw [gk]; exact h.iv.span.1) hb
  rw [gk] at nx
  obtain ⟨a, T', h1, h2, h3, h4, h5, h6, h7⟩ := next_count (EC_of k rb gb w.heap.size) h0 h64 h.iv
  rw [h1] at nx
  refine nx.mono ?_
  rintro e w' ⟨rfl, Y', ht, hm⟩
  have ht' : TreeAt (EC k rb gb w.heap.size) G false w' Y' T' := ht
  have hY : Y' = YC k rb gb w.heap.size := ht'.env.1
  subst hY
  have cc := h7 (fun c s => c = s.calls) (fun c s x y e => by show c + 1 = s.calls + 1; omega) (fun c s s' e q => q.trans e.symm) h.cc
  refine ⟨keyH a.it, whoH a.it, a.src, isH a.it, T', rem k T', ?_, ⟨ht', h2, rfl, cc, h.big, gk, h.bel.trans (hm.belowB h.big h.bel.size)⟩, h4, h3, ?_⟩
  · show Ending.returned a.val = _
    unfold NAns.val
    rw [h5]
  · rcases h6 with ⟨q, x, hx⟩ | ⟨q, _, hx⟩
    · left; exact ⟨by rw [← h.rem]; exact q, by rw [hx]; rfl⟩
    · right; exact ⟨by rw [← h.rem]; exact q, by rw [hx]; rfl⟩
end Go.Proofs.Ytjlcbhblpofjhaa
