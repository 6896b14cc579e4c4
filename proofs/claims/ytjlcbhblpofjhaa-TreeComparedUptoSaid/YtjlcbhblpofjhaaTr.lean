/- The tree of losers: what it is, apart from memory, and what it is in memory. -/
import Derived.Test.YtjlcbhblpofjhaaFr
import Derived.ProofKit
import Derived.WalkKit
import Derived.Laws.EntriesVeiled
import Derived.Scope
import Derived.Deep.Cut
import Derived.Deep.QuietTactic
import Derived.BigQuiet
import Derived.IntWalk
import Derived.Deep.RegionHeld3
import Derived.StillTailTactics
import Derived.LoopTactic
namespace Go.Proofs.Ytjlcbhblpofjhaa
open Go.RowKit
set_option maxRecDepth 100000

/-- An element. -/
structure It where
  key : Int
  who : Int
/-- What a source answers. -/
structure Ans where
  it : It
  there : Bool
  err : Int
/-- Where a tree stands in memory: itself, its hands, its losers, its sources; how many. -/
structure Geo where
  t : Nat
  hb : Nat
  lb : Nat
  sb : Nat
  hc : Nat
  lc : Nat
  sc : Nat
  k : Nat
/-- A tree's state: what each has in hand, who lost where, who lost nowhere, is that known, who is due, how often the order was called; what the sources and the order know. -/
structure TS (σ : Type) where
  H : Nat → Option It
  L : Nat → Nat
  first : Nat
  played : Bool
  due : Nat
  dueEnd : Nat
  cmpd : Nat
  s : σ
def OrdR {σ : Type} (S : World → (Nat → Prop) → σ → Prop) (w : World) (Y : Nat → Prop) (n : Int) (s' : σ) (e : Ending) (w' : World) : Prop := e = .returned (.int .i64 n) ∧ ∃ Y', S w' Y' s' ∧ Moves w Y w' Y'
def SrcR {σ : Type} (S : World → (Nat → Prop) → σ → Prop) (w : World) (Y : Nat → Prop) (a : Ans) (s' : σ) (e : Ending) (w' : World) : Prop :=
  e = .returned (.tuple #[.agg #[.int .i64 a.it.key, .int .i64 a.it.who], .bool a.there, .int .i64 a.err]) ∧ ∃ Y', S w' Y' s' ∧ Moves w Y w' Y'
/-- The order and the sources: what they know and do. -/
structure Env (σ : Type) where
  S : World → (Nat → Prop) → σ → Prop
  oF : Nat
  oC : Array Value
  sF : Nat → Nat
  sC : Nat → Array Value
  nO : σ → It → It → Int × σ
  nS : σ → Nat → Ans × σ
structure Env.Ok {σ : Type} (E : Env σ) (k : Nat) : Prop where
  enterO : ∀ args w, Sem.run Try.prog (callFunc E.oF args) w = .ok (.enter E.oF args) w
  enterS : ∀ i, i < k → ∀ args w, Sem.run Try.prog (callFunc (E.sF i) args) w = .ok (.enter (E.sF i) args) w
  low : ∀ w Y s, E.S w Y s → ∀ b, Y b → b < w.heap.size
  stable : ∀ w w' Y s, E.S w Y s → w.heap.size ≤ w'.heap.size → (∀ b, Y b → w'.heap[b]? = w.heap[b]?) → E.S w' Y s
  order : ∀ w Y s x y, E.S w Y s → Calls Try.prog E.oF (#[.agg #[.int .i64 x.key, .int .i64 x.who], .agg #[.int .i64 y.key, .int .i64 y.who]] ++ E.oC) w (OrdR E.S w Y (E.nO s x y).1 (E.nO s x y).2)
  source : ∀ w Y s i, i < k → E.S w Y s → Calls Try.prog (E.sF i) (E.sC i) w (SrcR E.S w Y (E.nS s i).1 (E.nS s i).2)
def own (G : Geo) (Y : Nat → Prop) (b : Nat) : Prop := (b = G.t ∨ b = G.hb ∨ b = G.lb) ∨ Y b
def keyH (h : Option It) : Int := match h with | some x => x.key | none => 0
def whoH (h : Option It) : Int := match h with | some x => x.who | none => 0
def isH (h : Option It) : Bool := h.isSome
def treeC {σ : Type} (E : Env σ) (G : Geo) (busy : Bool) (T : TS σ) : List Value :=
  [.func (.func E.oF) #[] E.oC, .slice (some ⟨G.sb, 0, none⟩) G.k G.sc, .slice (some ⟨G.hb, 0, none⟩) G.k G.hc, .slice (some ⟨G.lb, 0, none⟩) G.k G.lc,
   .int .i64 (T.first : Int), .bool T.played, .int .i64 (T.due : Int), .int .i64 (T.dueEnd : Int), .bool busy, .int .i64 (T.cmpd : Int), .int .i64 0, .int .i64 0]
structure Geo.Ok (G : Geo) : Prop where
  k0 : 0 < G.k
  k64 : G.k ≤ 64
  th : G.t ≠ G.hb
  tl : G.t ≠ G.lb
  hl : G.hb ≠ G.lb
  st : G.sb ≠ G.t
  sh : G.sb ≠ G.hb
  sl : G.sb ≠ G.lb
structure TreeAt {σ : Type} (E : Env σ) (G : Geo) (busy : Bool) (w : World) (Y : Nat → Prop) (T : TS σ) : Prop where
  env : E.S w Y T.s
  geo : G.Ok
  nt : ¬ Y G.t
  nh : ¬ Y G.hb
  nl : ¬ Y G.lb
  ns : ¬ Y G.sb
  tree : CellsAt w G.t (treeC E G busy T)
  hlt : G.hb < w.heap.size
  hfree : ∀ j, w.frozen? ⟨G.hb, j, none⟩ = false
  h0 : ∀ i, i < G.k → w.cell? ⟨G.hb, i * 3, none⟩ = some (.int .i64 (keyH (T.H i)))
  h1 : ∀ i, i < G.k → w.cell? ⟨G.hb, i * 3 + 1, none⟩ = some (.int .i64 (whoH (T.H i)))
  h2 : ∀ i, i < G.k → w.cell? ⟨G.hb, i * 3 + 2, none⟩ = some (.bool (isH (T.H i)))
  llt : G.lb < w.heap.size
  lfree : ∀ j, w.frozen? ⟨G.lb, j, none⟩ = false
  l0 : ∀ i, i < G.k → w.cell? ⟨G.lb, i, none⟩ = some (.int .i64 (T.L i : Int))
  slt : G.sb < w.heap.size
  s0 : ∀ i, i < G.k → w.cell? ⟨G.sb, i, none⟩ = some (.func (.func (E.sF i)) #[] (E.sC i))
  lok : ∀ i, i < G.k → T.L i < G.k
  fst : T.first < G.k
/-- The order or a source has been called, or something new was made. -/
theorem TreeAt.env' {σ : Type} {E : Env σ} {G : Geo} {busy : Bool} {w w' : World} {Y Y' : Nat → Prop} {T : TS σ} (h : TreeAt E G busy w Y T) (m : Moves w Y w' Y') {s' : σ} (hs : E.S w' Y' s') : TreeAt E G busy w' Y' { T with s := s' } := by
  have no : ∀ b, b < w.heap.size → ¬ Y b → ¬ Y' b := fun b hb hn hy => (m.foot b hy).elim hn (fun k => absurd hb (by omega))
  exact ⟨hs, h.geo, no _ h.tree.lt h.nt, no _ h.hlt h.nh, no _ h.llt h.nl, no _ h.slt h.ns, m.cells h.tree h.nt, Nat.lt_of_lt_of_le h.hlt m.size, fun j => (m.frozen h.hlt h.nh j).trans (h.hfree j),
    fun i hi => (m.cell h.hlt h.nh _).trans (h.h0 i hi), fun i hi => (m.cell h.hlt h.nh _).trans (h.h1 i hi), fun i hi => (m.cell h.hlt h.nh _).trans (h.h2 i hi),
    Nat.lt_of_lt_of_le h.llt m.size, fun j => (m.frozen h.llt h.nl j).trans (h.lfree j), fun i hi => (m.cell h.llt h.nl _).trans (h.l0 i hi), Nat.lt_of_lt_of_le h.slt m.size, fun i hi => (m.cell h.slt h.ns _).trans (h.s0 i hi), h.lok, h.fst⟩
theorem TreeAt.same {σ : Type} {E : Env σ} {G : Geo} {busy : Bool} {w w' : World} {Y : Nat → Prop} {T : TS σ} (h : TreeAt E G busy w Y T) (ok : E.Ok G.k) (hs : w.heap.size ≤ w'.heap.size) (hk : ∀ b, own G Y b ∨ b = G.sb → w'.heap[b]? = w.heap[b]?) : TreeAt E G busy w' Y T := by
  have ce : ∀ b, own G Y b ∨ b = G.sb → ∀ o, w'.cell? ⟨b, o, none⟩ = w.cell? ⟨b, o, none⟩ := fun b hb o => World.cell?_of_block (w := w) (a := ⟨b, o, none⟩) (hk b hb)
  have fe : ∀ b, own G Y b ∨ b = G.sb → ∀ o, w'.frozen? ⟨b, o, none⟩ = w.frozen? ⟨b, o, none⟩ := fun b hb o => World.frozen?_of_block (w := w) (a := ⟨b, o, none⟩) (hk b hb)
  have nt : own G Y G.t ∨ G.t = G.sb := Or.inl (Or.inl (Or.inl rfl))
  have nh : own G Y G.hb ∨ G.hb = G.sb := Or.inl (Or.inl (Or.inr (Or.inl rfl)))
  have nl : own G Y G.lb ∨ G.lb = G.sb := Or.inl (Or.inl (Or.inr (Or.inr rfl)))
  have ns : own G Y G.sb ∨ G.sb = G.sb := Or.inr rfl
  exact ⟨ok.stable _ _ _ _ h.env hs fun b hb => hk b (Or.inl (Or.inr hb)), h.geo, h.nt, h.nh, h.nl, h.ns,
    ⟨Nat.lt_of_lt_of_le h.tree.lt hs, fun j v hv => (ce _ nt j).trans (h.tree.cell j v hv), fun j => (fe _ nt j).trans (h.tree.free j)⟩,
    Nat.lt_of_lt_of_le h.hlt hs, fun j => (fe _ nh j).trans (h.hfree j), fun i hi => (ce _ nh _).trans (h.h0 i hi), fun i hi => (ce _ nh _).trans (h.h1 i hi), fun i hi => (ce _ nh _).trans (h.h2 i hi),
    Nat.lt_of_lt_of_le h.llt hs, fun j => (fe _ nl j).trans (h.lfree j), fun i hi => (ce _ nl _).trans (h.l0 i hi), Nat.lt_of_lt_of_le h.slt hs, fun i hi => (ce _ ns _).trans (h.s0 i hi), h.lok, h.fst⟩
theorem TreeAt.low {σ : Type} {E : Env σ} {G : Geo} {busy : Bool} {w : World} {Y : Nat → Prop} {T : TS σ} (h : TreeAt E G busy w Y T) (ok : E.Ok G.k) : ∀ b, own G Y b ∨ b = G.sb → b < w.heap.size := by
  intro b hb
  rcases hb with ((hb | hb | hb) | hb) | hb
  · rw [hb]; exact h.tree.lt
  · rw [hb]; exact h.hlt
  · rw [hb]; exact h.llt
  · exact ok.low _ _ _ h.env b hb
  · rw [hb]; exact h.slt
/-- A store into another block. -/
theorem TreeAt.box {σ : Type} {E : Env σ} {G : Geo} {busy : Bool} {w : World} {Y : Nat → Prop} {T : TS σ} (h : TreeAt E G busy w Y T) (ok : E.Ok G.k) {p : Nat} (hp : ∀ b, own G Y b ∨ b = G.sb → b < p) (j : Nat) (v : Value) : TreeAt E G busy (w.setCell ⟨p, j, none⟩ v) Y T :=
  h.same ok (by simp [World.setCell]) fun b hb => Below.heap_setCell _ _ _ _ (by have := hp b hb; show b ≠ p; omega)
theorem TreeAt.below {σ : Type} {E : Env σ} {G : Geo} {busy : Bool} {w w' : World} {Y : Nat → Prop} {T : TS σ} (h : TreeAt E G busy w Y T) (ok : E.Ok G.k) (b : Below w.heap.size w w') : TreeAt E G busy w' Y T :=
  h.env' (Moves.below b Y) (ok.stable _ _ _ _ h.env b.size fun c hc => b.block c (ok.low _ _ _ h.env c hc))
theorem moves_own {w w' : World} {Y Y' : Nat → Prop} (G : Geo) (h : Moves w Y w' Y') : Moves w (own G Y) w' (own G Y') := h.wide

/-- Is what one has in hand ahead of what another has? -/
def aheadM {σ : Type} (E : Env σ) (T : TS σ) (one other : Nat) : Bool × TS σ :=
  match T.H one, T.H other with
  | some x, some y => (decide ((E.nO T.s x y).1 < 0) || (decide ((E.nO T.s x y).1 = 0) && decide (one < other)), { T with cmpd := T.cmpd + 1, s := (E.nO T.s x y).2 })
  | some _, none => (true, T)
  | none, _ => (false, T)
def StepR {σ : Type} (E : Env σ) (G : Geo) (busy : Bool) (w : World) (Y : Nat → Prop) (v : Value) (T' : TS σ) (e : Ending) (w' : World) : Prop := e = .returned v ∧ ∃ Y', TreeAt E G busy w' Y' T' ∧ Moves w (own G Y) w' (own G Y')
theorem TreeAt.setT {σ : Type} {E : Env σ} {G : Geo} {busy busy' : Bool} {w : World} {Y : Nat → Prop} {T : TS σ} (h : TreeAt E G busy w Y T) (ok : E.Ok G.k) (j : Nat) (v : Value) (T' : TS σ) (hC : treeC E G busy' T' = (treeC E G busy T).set j v) (hj : j < 12) (hH : T'.H = T.H) (hL : T'.L = T.L) (hs : T'.s = T.s) (hf : T'.first < G.k) :
    TreeAt E G busy' (w.setCell ⟨G.t, j, none⟩ v) Y T' := by
  have ne : ∀ c, c ≠ G.t → ∀ o, (w.setCell ⟨G.t, j, none⟩ v).cell? ⟨c, o, none⟩ = w.cell? ⟨c, o, none⟩ := fun c hc o => World.cell?_setCell_other _ _ _ _ (fun e => hc (congrArg Addr.block e).symm)
  have fz : ∀ c o, (w.setCell ⟨G.t, j, none⟩ v).frozen? ⟨c, o, none⟩ = w.frozen? ⟨c, o, none⟩ := fun c o => World.frozen?_setCell _ _ _ _
  have sz : (w.setCell ⟨G.t, j, none⟩ v).heap.size = w.heap.size := by simp
  refine ⟨?_, h.geo, h.nt, h.nh, h.nl, h.ns, ?_, by rw [sz]; exact h.hlt, fun i => (fz _ _).trans (h.hfree i), fun i hi => ?_, fun i hi => ?_, fun i hi => ?_, by rw [sz]; exact h.llt, fun i => (fz _ _).trans (h.lfree i), fun i hi => ?_, by rw [sz]; exact h.slt, fun i hi => ?_, by rw [hL]; exact h.lok, hf⟩
  · rw [hs]
    exact ok.stable _ _ _ _ h.env (by rw [sz]; exact Nat.le_refl _) fun b hb => Below.heap_setCell _ _ _ _ (fun e => h.nt ((show b = G.t from e) ▸ hb))
  · rw [hC]
    exact h.tree.set j v (by show j < 12; exact hj)
  · rw [hH]; exact (ne _ h.geo.th.symm _).trans (h.h0 i hi)
  · rw [hH]; exact (ne _ h.geo.th.symm _).trans (h.h1 i hi)
  · rw [hH]; exact (ne _ h.geo.th.symm _).trans (h.h2 i hi)
  · rw [hL]; exact (ne _ h.geo.tl.symm _).trans (h.l0 i hi)
  · exact (ne _ h.geo.st _).trans (h.s0 i hi)
def upN {α : Type} (f : Nat → α) (i : Nat) (x : α) : Nat → α := fun j => if j = i then x else f j
theorem upN_same {α : Type} (f : Nat → α) (i : Nat) (x : α) : upN f i x i = x := if_pos rfl
theorem upN_other {α : Type} (f : Nat → α) (i j : Nat) (x : α) (h : j ≠ i) : upN f i x j = f j := if_neg h
theorem TreeAt.setL {σ : Type} {E : Env σ} {G : Geo} {busy : Bool} {w : World} {Y : Nat → Prop} {T : TS σ} (h : TreeAt E G busy w Y T) (ok : E.Ok G.k) (n x : Nat) (hn : n < G.k) (hx : x < G.k) :
    TreeAt E G busy (w.setCell ⟨G.lb, n, none⟩ (.int .i64 (x : Int))) Y { T with L := upN T.L n x } := by
  have ne : ∀ c, c ≠ G.lb → ∀ o, (w.setCell ⟨G.lb, n, none⟩ (.int .i64 (x : Int))).cell? ⟨c, o, none⟩ = w.cell? ⟨c, o, none⟩ := fun c hc o => World.cell?_setCell_other _ _ _ _ (fun e => hc (congrArg Addr.block e).symm)
  have fz : ∀ c o, (w.setCell ⟨G.lb, n, none⟩ (.int .i64 (x : Int))).frozen? ⟨c, o, none⟩ = w.frozen? ⟨c, o, none⟩ := fun c o => World.frozen?_setCell _ _ _ _
  have sz : (w.setCell ⟨G.lb, n, none⟩ (.int .i64 (x : Int))).heap.size = w.heap.size := by simp
  refine ⟨?_, h.geo, h.nt, h.nh, h.nl, h.ns, h.tree.other h.geo.tl.symm _ _, by rw [sz]; exact h.hlt, fun i => (fz _ _).trans (h.hfree i), fun i hi => (ne _ h.geo.hl _).trans (h.h0 i hi), fun i hi => (ne _ h.geo.hl _).trans (h.h1 i hi), fun i hi => (ne _ h.geo.hl _).trans (h.h2 i hi), by rw [sz]; exact h.llt, fun i => (fz _ _).trans (h.lfree i), fun i hi => ?_, by rw [sz]; exact h.slt, fun i hi => (ne _ h.geo.sl _).trans (h.s0 i hi), fun i hi => ?_, h.fst⟩
  · exact ok.stable _ _ _ _ h.env (by rw [sz]; exact Nat.le_refl _) fun b hb => Below.heap_setCell _ _ _ _ (fun e => h.nl ((show b = G.lb from e) ▸ hb))
  · show _ = some (Value.int .i64 ((upN T.L n x i : Nat) : Int))
    by_cases e : i = n
    · subst e
      rw [upN_same]
      exact World.cell?_setCell_same _ _ _ (h.l0 i hi)
    · rw [upN_other _ _ _ _ e, World.cell?_setCell_other _ _ _ _ (by simp <;> omega)]
      exact h.l0 i hi
  · show upN T.L n x i < G.k
    by_cases e : i = n
    · subst e; rw [upN_same]; exact hx
    · rw [upN_other _ _ _ _ e]; exact h.lok i hi
theorem TreeAt.setH {σ : Type} {E : Env σ} {G : Geo} {busy : Bool} {w : World} {Y : Nat → Prop} {T : TS σ} (h : TreeAt E G busy w Y T) (ok : E.Ok G.k) (n : Nat) (x : Option It) (hn : n < G.k) :
    TreeAt E G busy (((w.setCell ⟨G.hb, n * 3, none⟩ (.int .i64 (keyH x))).setCell ⟨G.hb, n * 3 + 1, none⟩ (.int .i64 (whoH x))).setCell ⟨G.hb, n * 3 + 2, none⟩ (.bool (isH x))) Y { T with H := upN T.H n x } := by
  have ne : ∀ c, c ≠ G.hb → ∀ o, (((w.setCell ⟨G.hb, n * 3, none⟩ (.int .i64 (keyH x))).setCell ⟨G.hb, n * 3 + 1, none⟩ (.int .i64 (whoH x))).setCell ⟨G.hb, n * 3 + 2, none⟩ (.bool (isH x))).cell? ⟨c, o, none⟩ = w.cell? ⟨c, o, none⟩ := fun c hc o => by
    rw [World.cell?_setCell_other _ _ _ _ (fun e => hc (congrArg Addr.block e).symm), World.cell?_setCell_other _ _ _ _ (fun e => hc (congrArg Addr.block e).symm), World.cell?_setCell_other _ _ _ _ (fun e => hc (congrArg Addr.block e).symm)]
  have fz : ∀ c o, (((w.setCell ⟨G.hb, n * 3, none⟩ (.int .i64 (keyH x))).setCell ⟨G.hb, n * 3 + 1, none⟩ (.int .i64 (whoH x))).setCell ⟨G.hb, n * 3 + 2, none⟩ (.bool (isH x))).frozen? ⟨c, o, none⟩ = w.frozen? ⟨c, o, none⟩ := fun c o => by rw [World.frozen?_setCell, World.frozen?_setCell, World.frozen?_setCell]
  have sz : (((w.setCell ⟨G.hb, n * 3, none⟩ (.int .i64 (keyH x))).setCell ⟨G.hb, n * 3 + 1, none⟩ (.int .i64 (whoH x))).setCell ⟨G.hb, n * 3 + 2, none⟩ (.bool (isH x))).heap.size = w.heap.size := by simp
  have c0 := h.h0 n hn
  have c1 := h.h1 n hn
  have c2 := h.h2 n hn
  refine ⟨?_, h.geo, h.nt, h.nh, h.nl, h.ns, ((h.tree.other h.geo.th.symm _ _).other h.geo.th.symm _ _).other h.geo.th.symm _ _, by rw [sz]; exact h.hlt, fun i => (fz _ _).trans (h.hfree i), fun i hi => ?_, fun i hi => ?_, fun i hi => ?_, by rw [sz]; exact h.llt, fun i => (fz _ _).trans (h.lfree i), fun i hi => (ne _ h.geo.hl.symm _).trans (h.l0 i hi), by rw [sz]; exact h.slt, fun i hi => (ne _ h.geo.sh _).trans (h.s0 i hi), h.lok, h.fst⟩
  · refine ok.stable _ _ _ _ h.env (by rw [sz]; exact Nat.le_refl _) fun b hb => ?_
    have hne : b ≠ G.hb := fun e => h.nh (e ▸ hb)
    rw [Below.heap_setCell _ _ _ _ hne, Below.heap_setCell _ _ _ _ hne, Below.heap_setCell _ _ _ _ hne]
  all_goals by_cases e : i = n
  · subst e
    show _ = some (Value.int .i64 (keyH (upN T.H i x i)))
    rw [upN_same, World.cell?_setCell_other _ _ _ _ (by simp), World.cell?_setCell_other _ _ _ _ (by simp)]
    exact World.cell?_setCell_same _ _ _ c0
  · show _ = some (Value.int .i64 (keyH (upN T.H n x i)))
    rw [upN_other _ _ _ _ e, World.cell?_setCell_other _ _ _ _ (by simp <;> omega), World.cell?_setCell_other _ _ _ _ (by simp <;> omega), World.cell?_setCell_other _ _ _ _ (by simp <;> omega)]
    exact h.h0 i hi
  · subst e
    show _ = some (Value.int .i64 (whoH (upN T.H i x i)))
    rw [upN_same, World.cell?_setCell_other _ _ _ _ (by simp)]
    exact World.cell?_setCell_same _ _ _ ((World.cell?_setCell_other _ _ _ _ (by simp)).trans c1)
  · show _ = some (Value.int .i64 (whoH (upN T.H n x i)))
    rw [upN_other _ _ _ _ e, World.cell?_setCell_other _ _ _ _ (by simp <;> omega), World.cell?_setCell_other _ _ _ _ (by simp <;> omega), World.cell?_setCell_other _ _ _ _ (by simp <;> omega)]
    exact h.h1 i hi
  · subst e
    show _ = some (Value.bool (isH (upN T.H i x i)))
    rw [upN_same]
    exact World.cell?_setCell_same _ _ _ ((World.cell?_setCell_other _ _ _ _ (by simp)).trans ((World.cell?_setCell_other _ _ _ _ (by simp)).trans c2))
  · show _ = some (Value.bool (isH (upN T.H n x i)))
    rw [upN_other _ _ _ _ e, World.cell?_setCell_other _ _ _ _ (by simp <;> omega), World.cell?_setCell_other _ _ _ _ (by simp <;> omega), World.cell?_setCell_other _ _ _ _ (by simp <;> omega)]
    exact h.h2 i hi
theorem own_t (G : Geo) (Y : Nat → Prop) : own G Y G.t := Or.inl (Or.inl rfl)
theorem own_h (G : Geo) (Y : Nat → Prop) : own G Y G.hb := Or.inl (Or.inr (Or.inl rfl))
theorem own_l (G : Geo) (Y : Nat → Prop) : own G Y G.lb := Or.inl (Or.inr (Or.inr rfl))
end Go.Proofs.Ytjlcbhblpofjhaa
