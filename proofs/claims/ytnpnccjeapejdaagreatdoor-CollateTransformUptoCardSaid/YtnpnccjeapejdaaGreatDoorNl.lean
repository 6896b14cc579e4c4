/- What stands while New gathers its keys: the order, the row of keys, each key's comparison in blocks of its own. No walk. -/
import Derived.Test.YtnpnccjeapejdaaGreatDoorKd
import Derived.Test.YtnpnccjeapejdaaGreatDoorCh
import Derived.Test.YtnpnccjeapejdaaGreatDoorKg
import Derived.Below
namespace Go.Proofs.YtnpnccjeapejdaaGreatDoor
open Go.RowKit

/-- A key, as the program's order has it. -/
def kyC (t : Int) (K : KeyL) (fv : Value) : List Value := [.int .i64 K.f, .int .i64 K.c, .int .i64 K.ef, .int .i64 K.ec, .int .u16 (K.m : Int), .bool K.b, .int .i64 t, .int .u8 (letsS K.m : Int), .bool (foldS K.m), fv]
def kysV (t : Int) (D : List (KeyL × Value)) : List Value := D.flatMap fun p => kyC t p.1 p.2
theorem kysV_snoc (t : Int) (D : List (KeyL × Value)) (p : KeyL × Value) : kysV t (D ++ [p]) = kysV t D ++ kyC t p.1 p.2 := by simp [kysV]
/-- A key's comparison, in blocks that nothing has changed since, apart from the row r. -/
structure KeyF (wr : World) (R : Nat) (r : Option Nat) (x kd lt : Nat) (fo : Bool) (fv : Value) : Prop where
  ex : ∃ (B : Nat) (w0 : World), R ≤ B ∧ w0.heap.size ≤ wr.heap.size ∧ (∀ b, B ≤ b → b < w0.heap.size → wr.heap[b]? = w0.heap[b]?) ∧ (∀ g, r = some g → g < B ∨ w0.heap.size ≤ g) ∧ KeyH w0 B x kd lt fo fv
theorem KeyF.on {w w' : World} {R x kd lt : Nat} {r : Option Nat} {fo : Bool} {fv : Value} (h : KeyF w R r x kd lt fo fv) (hs : w.heap.size ≤ w'.heap.size) (hb : ∀ b, R ≤ b → b < w.heap.size → some b ≠ r → w'.heap[b]? = w.heap[b]?) : KeyF w' R r x kd lt fo fv := ⟨by
  obtain ⟨B, w0, h1, h2, h3, h4, h5⟩ := h.ex
  exact ⟨B, w0, h1, Nat.le_trans h2 hs, fun b k1 k2 => (hb b (Nat.le_trans h1 k1) (Nat.lt_of_lt_of_le k2 h2) (fun e => by rcases h4 b e.symm with h | h <;> omega)).trans (h3 b k1 k2), h4, h5⟩⟩
theorem KeyF.step {w w' : World} {R x kd lt : Nat} {r : Option Nat} {fo : Bool} {fv : Value} (h : KeyF w R r x kd lt fo fv) (b : Below w.heap.size w w') : KeyF w' R r x kd lt fo fv :=
  h.on b.size (fun k _ hk _ => b.block k hk)
theorem KeyF.move {w : World} {R x kd lt g : Nat} {r : Option Nat} {fo : Bool} {fv : Value} (h : KeyF w R r x kd lt fo fv) (hg : r = some g ∨ w.heap.size ≤ g) : KeyF w R (some g) x kd lt fo fv := ⟨by
  obtain ⟨B, w0, h1, h2, h3, h4, h5⟩ := h.ex
  refine ⟨B, w0, h1, h2, h3, fun g' e => ?_, h5⟩
  cases e
  rcases hg with e | e
  · exact h4 g e
  · exact Or.inr (Nat.le_trans h2 e)⟩
theorem KeyF.new {w : World} {R B x kd lt : Nat} {r : Option Nat} {fo : Bool} {fv : Value} (h : KeyH w B x kd lt fo fv) (hR : R ≤ B) (hr : ∀ g, r = some g → g < B) : KeyF w R r x kd lt fo fv :=
  ⟨⟨B, w, hR, Nat.le_refl _, fun _ _ _ => rfl, fun g e => Or.inl (hr g e), h⟩⟩
theorem KeyH.one {w : World} {B x kd lt : Nat} {fo : Bool} {fv : Value} (h : KeyH w B x kd lt fo fv) : fv.oneCell' = true := by
  rcases h with ⟨_, h⟩ | ⟨_, g, _, q, u, rfl, _⟩
  · obtain ⟨n, bs, cs, rfl⟩ := h.shape
    rfl
  · rfl
theorem kyC_one {t : Int} {K : KeyL} {fv : Value} (h : fv.oneCell' = true) : ∀ u ∈ kyC t K fv, u.oneCell' = true := by
  intro u hu
  unfold kyC at hu
  simp only [List.mem_cons, List.not_mem_nil, or_false] at hu
  rcases hu with rfl | rfl | rfl | rfl | rfl | rfl | rfl | rfl | rfl | rfl <;> first | rfl | exact h
/-- The comparison of a key, as KeyF has it. -/
def KyF (wr : World) (R : Nat) (r : Option Nat) (p : KeyL × Value) : Prop := KeyF wr R r (p.1.m &&& 512) (p.1.m &&& 496) (letsS p.1.m) (foldS p.1.m) p.2
theorem row_step {w w' : World} {base : Nat} {e : TypeId} {size : Nat} {v : Value} {n : Nat} {xs : List Value} (h : w.ownsRow base e size v n xs) (b : Below w.heap.size w w') : w'.ownsRow base e size v n xs :=
  h.kept (row := none) ⟨b.os, b.tape, b.output, b.size, fun k hk _ => b.block k hk⟩ (by cases v.ownBlock with | none => exact Or.inl rfl | some g => exact Or.inr (by simp))
structure NlIn (w wr : World) (R P g : Nat) (o : Opt) (kv fv : Value) (b1 b2 : Bool) (L : List KeyL) (v : Value) (D : List (KeyL × Value)) : Prop where
  opt : CellsAt wr w.heap.size (optC o kv fv)
  ord : CellsAt wr P [v, .bool b1, .bool b2]
  eff : wr.rangeAt g 0 (ksV L)
  row : wr.ownsRow R 59 10 v D.length (kysV o.tab D)
  lo : w.heap.size < P
  mid : P < R
  pg : P < g
  gl : g < R
  hi : R ≤ wr.heap.size
  keys : ∀ p ∈ D, KyF wr R v.ownBlock p
  bel : Below w.heap.size w wr
section
variable {w wr w2 : World} {R P g : Nat} {o : Opt} {kv fv v : Value} {b1 b2 : Bool} {L : List KeyL} {D : List (KeyL × Value)}
theorem NlIn.step (h : NlIn w wr R P g o kv fv b1 b2 L v D) (b : Below wr.heap.size wr w2) : NlIn w w2 R P g o kv fv b1 b2 L v D :=
  ⟨h.opt.step b, h.ord.step b, range_below h.eff b (Nat.lt_of_lt_of_le h.gl h.hi), row_step h.row b, h.lo, h.mid, h.pg, h.gl, Nat.le_trans h.hi b.size, fun p hp => KeyF.step (h.keys p hp) b, h.bel.trans (b.mono h.bel.size)⟩
theorem NlIn.alloc (h : NlIn w wr R P g o kv fv b1 b2 L v D) (ob : Obj) : NlIn w (wr.alloc ob) R P g o kv fv b1 b2 L v D := h.step ((Below.refl _ _).alloc (Nat.le_refl _) ob)
theorem NlIn.drew (h : NlIn w wr R P g o kv fv b1 b2 L v D) : NlIn w wr.drew R P g o kv fv b1 b2 L v D := h.step (below_drewN wr 1)
theorem NlIn.grown (h : NlIn w wr R P g o kv fv b1 b2 L v D) (hg : wr.grownBy w2 v.ownBlock) : CellsAt w2 P [v, .bool b1, .bool b2] := by
  have hown := h.row.lt
  have bR : Below R wr w2 := ⟨hg.os, hg.tape, hg.output, hg.size, fun k hk => hg.block k (by have := h.hi; omega) (fun e => by have := (hown k e.symm).1; omega)⟩
  exact h.ord.keep bR h.mid
theorem NlIn.key {K : KeyL} {f : Value} {w4 : World} (h : NlIn w wr R P g o kv fv b1 b2 L v D) (hk : KeyH w4 wr.heap.size (K.m &&& 512) (K.m &&& 496) (letsS K.m) (foldS K.m) f) : KyF w4 R v.ownBlock (K, f) :=
  KeyF.new hk h.hi (fun g' e => (h.row.lt g' e).2)
theorem NlIn.next {K : KeyL} {f : Value} {gg cap : Nat} (h : NlIn w wr R P g o kv fv b1 b2 L v D) (hK : KyF wr R v.ownBlock (K, f)) (hg : wr.grownBy w2 v.ownBlock) (hw : v.ownBlock = some gg ∨ gg = wr.heap.size) (_hlt : gg < w2.heap.size)
    (hrow : w2.ownsRow R 59 10 (.slice (some ⟨gg, 0, none⟩) (D.length + 1) cap) (D.length + 1) (kysV o.tab D ++ kyC o.tab K f)) :
    NlIn w (w2.setCell ⟨P, 0, none⟩ (.slice (some ⟨gg, 0, none⟩) (D.length + 1) cap)) R P g o kv fv b1 b2 L (.slice (some ⟨gg, 0, none⟩) (D.length + 1) cap) (D ++ [(K, f)]) := by
  have hown := h.row.lt
  have hlo := h.lo
  have hmid := h.mid
  have hgl := h.gl
  have hhi := h.hi
  have bR : Below R wr w2 := ⟨hg.os, hg.tape, hg.output, hg.size, fun k hk => hg.block k (by omega) (fun e => by have := (hown k e.symm).1; omega)⟩
  have hkey : ∀ p, KyF wr R v.ownBlock p → KyF (w2.setCell ⟨P, 0, none⟩ (.slice (some ⟨gg, 0, none⟩) (D.length + 1) cap)) R (some gg) p := fun p hp => by
    have h4 : KeyF w2 R (some gg) (p.1.m &&& 512) (p.1.m &&& 496) (letsS p.1.m) (foldS p.1.m) p.2 := by
      obtain ⟨B, w0, k1, k2, k3, k4, k5⟩ := KeyF.ex hp
      refine KeyF.on (w := w2) (r := some gg) ⟨⟨B, w0, k1, Nat.le_trans k2 hg.size, fun b l1 l2 => (hg.block b (by omega) (fun e => by rcases k4 b e.symm with h | h <;> omega)).trans (k3 b l1 l2), fun g' e => ?_, k5⟩⟩ (Nat.le_refl _) (fun _ _ _ _ => rfl)
      cases e
      rcases hw with e | e
      · exact k4 gg e
      · exact Or.inr (by omega)
    exact KeyF.on h4 (by simp) (fun b hb _ _ => Below.heap_setCell _ _ _ _ (by show b ≠ P; omega))
  refine ⟨(h.opt.keep bR (by omega)).other (by omega) 0 _, (h.ord.keep bR hmid).set 0 _ (by simp), ?_, ?_, hlo, hmid, h.pg, hgl, by simpa using Nat.le_trans hhi hg.size, fun p hp => ?_, (h.bel.trans (bR.mono (by omega))).setCell (p := ⟨P, 0, none⟩) (by show w.heap.size ≤ P; omega) _⟩
  · intro j u hu
    rw [World.cell?_setCell_other _ _ _ _ (fun e => by have : P = g := congrArg Addr.block e; have := h.pg; omega)]
    exact range_below h.eff bR hgl j u hu
  · rw [kysV_snoc, List.length_append]
    exact ownsRow_setCell_below hrow (a := ⟨P, 0, none⟩) hmid _
  · rcases List.mem_append.1 hp with hp | hp
    · exact hkey p (h.keys p hp)
    · rw [List.mem_singleton] at hp
      subst hp
      exact hkey _ hK
end
end Go.Proofs.YtnpnccjeapejdaaGreatDoor
