/- The tree of losers: Next, its pieces. -/
import Derived.Test.YtjlcbhblpofjhaaAs
import Derived.Defers
import Derived.Recover
namespace Go.Proofs.Ytjlcbhblpofjhaa
open Go.RowKit
set_option maxRecDepth 100000
theorem Moves.stay {w w' : World} {X X' : Nat → Prop} (h : Moves w X w' X') {b : Nat} (hb : b < w.heap.size) (hn : ¬ X b) : ¬ X' b := fun hx => (h.foot b hx).elim hn (fun k => absurd hb (by omega))
/-- What Next answers. -/
structure NAns where
  it : Option It
  src : Nat
  err : Int
def NAns.val (a : NAns) : Value := .tuple #[.agg #[.int .i64 (keyH a.it), .int .i64 (whoH a.it)], .int .i64 (a.src : Int), .bool (isH a.it), .int .i64 a.err]
/-- Next. -/
def nextM {σ : Type} (E : Env σ) (k : Nat) (T : TS σ) : NAns × Out σ :=
  match askM E (T.dueEnd - T.due) T with
  | .dead e f c s => (⟨none, f, e⟩, .dead e f c s)
  | .live T1 => match (playM E k T1).H (playM E k T1).first with
    | some x => (⟨some x, (playM E k T1).first, 0⟩, .live (takeM (playM E k T1)))
    | none => (⟨none, 0, 0⟩, .live (playM E k T1))
def NextR {σ : Type} (E : Env σ) (G : Geo) (w : World) (Y : Nat → Prop) (a : NAns) (o : Out σ) (e : Ending) (w' : World) : Prop := e = .returned a.val ∧ ∃ Y', OutAt E G false w' Y' o ∧ Moves w (own G Y) w' (own G Y')
theorem nextM_dead {σ : Type} {E : Env σ} {k : Nat} {T : TS σ} {e : Int} {f c : Nat} {s : σ} (h : askM E (T.dueEnd - T.due) T = .dead e f c s) : nextM E k T = (⟨none, f, e⟩, .dead e f c s) := by
  unfold nextM; rw [h]
theorem nextM_some {σ : Type} {E : Env σ} {k : Nat} {T T1 : TS σ} {x : It} (h : askM E (T.dueEnd - T.due) T = .live T1) (hx : (playM E k T1).H (playM E k T1).first = some x) : nextM E k T = (⟨some x, (playM E k T1).first, 0⟩, .live (takeM (playM E k T1))) := by
  unfold nextM; rw [h]; simp only [hx]
theorem nextM_none {σ : Type} {E : Env σ} {k : Nat} {T T1 : TS σ} (h : askM E (T.dueEnd - T.due) T = .live T1) (hx : (playM E k T1).H (playM E k T1).first = none) : nextM E k T = (⟨none, 0, 0⟩, .live (playM E k T1)) := by
  unfold nextM; rw [h]; simp only [hx]
theorem askM_cmpd {σ : Type} {E : Env σ} : ∀ (f : Nat) (T : TS σ) (T1 : TS σ), askM E f T = .live T1 → T1.cmpd = T.cmpd ∧ T1.dueEnd = T.dueEnd
  | 0, T, T1, h => by
    have e : T = T1 := by injection h
    subst e
    exact ⟨rfl, rfl⟩
  | f + 1, T, T1, h => by
    rw [askM] at h
    split at h
    · have r := askM_cmpd f _ T1 h
      exact ⟨r.1, r.2⟩
    · cases h
theorem askM_err_ne {σ : Type} {E : Env σ} : ∀ (f : Nat) (T : TS σ) {e : Int} {d c : Nat} {s : σ}, askM E f T = .dead e d c s → e ≠ 0
  | 0, T, _, _, _, _, h => by cases h
  | f + 1, T, _, _, _, _, h => by
    rw [askM] at h
    split at h
    · exact askM_err_ne f _ h
    · next hn => injection h with h1; rw [← h1]; exact hn
/-- The tree is busy no more. -/
theorem unbusy {a b : Nat} (u : FrameMode) (w : World) (ha : a < w.heap.size) (hb : b < w.heap.size) (h : w.cell? ⟨a, 0, none⟩ = some (.pointer (some ⟨b, 0, none⟩))) {v : Value} (c : w.cell? ⟨b, 8, none⟩ = some v) (f : w.frozen? ⟨b, 8, none⟩ = false) :
    CallsD Try.prog 40 #[.pointer (some ⟨a, 0, none⟩)] u w fun e u' w' => u' = u ∧ (e = .returned (.tuple #[]) ∧ w' = w.setCell ⟨b, 8, none⟩ (.bool false)) := by
  go_enter_d Try.func40, Try.ntmps40
  go_wp2_with fail
  go_end0
  exact ⟨rfl, rfl⟩
theorem DeadAt.box {σ : Type} {E : Env σ} {G : Geo} {w w' : World} {Y Y' : Nat → Prop} {er : Int} {d c : Nat} {s : σ} (h : DeadAt E G false w Y er d c s) (m : Moves w Y w' Y') {s' : σ} (hs : E.S w' Y' s') : DeadAt E G false w' Y' er d c s' := by
  obtain ⟨a, cp, h1⟩ := h.c1
  exact ⟨hs, m.stay h.lt h.nt, Nat.lt_of_lt_of_le h.lt m.size, fun j => (m.frozen h.lt h.nt j).trans (h.free j), ⟨a, cp, (m.cell h.lt h.nt 1).trans h1⟩, (m.cell h.lt h.nt 8).trans h.c8, (m.cell h.lt h.nt 9).trans h.c9, (m.cell h.lt h.nt 10).trans h.c10, (m.cell h.lt h.nt 11).trans h.c11⟩
theorem DeadAt.unbusy {σ : Type} {E : Env σ} {G : Geo} {w : World} {Y : Nat → Prop} {er : Int} {d c : Nat} {s : σ} (ok : E.Ok G.k) (h : DeadAt E G false w Y er d c s) : DeadAt E G false (w.setCell ⟨G.t, 8, none⟩ (.bool false)) Y er d c s := by
  obtain ⟨a, cp, h1⟩ := h.c1
  have ce : ∀ j, j ≠ 8 → ∀ v, w.cell? ⟨G.t, j, none⟩ = some v → (w.setCell ⟨G.t, 8, none⟩ (.bool false)).cell? ⟨G.t, j, none⟩ = some v := fun j hj v hv => (World.cell?_setCell_other _ _ _ _ (by simp <;> omega)).trans hv
  exact ⟨ok.stable _ _ _ _ h.env (by simp [World.setCell]) fun b hb => Below.heap_setCell _ _ _ _ (fun e => h.nt ((show b = G.t from e) ▸ hb)), h.nt, by simpa [World.setCell] using h.lt, fun j => (World.frozen?_setCell _ _ _ _).trans (h.free j), ⟨a, cp, ce 1 (by omega) _ h1⟩, World.cell?_setCell_same _ _ _ h.c8, ce 9 (by omega) _ h.c9, ce 10 (by omega) _ h.c10, ce 11 (by omega) _ h.c11⟩
/-- What Next has made: the tree's address, the result, nothing. -/
structure Bxs (w : World) (X : Nat → Prop) (G : Geo) (B a b c : Nat) : Prop where
  ca : CellsAt w a [.pointer (some ⟨G.t, 0, none⟩)]
  cb : CellsAt w b [.int .i64 0, .int .i64 0]
  cc : CellsAt w c [.int .i64 0, .int .i64 0]
  na : ¬ X a
  nb : ¬ X b
  nc : ¬ X c
  sa : B ≤ a
  sb : B ≤ b
  ab : a ≠ b
  bc : b ≠ c
  ac : a ≠ c
  bs : b ≠ G.sb
  bt : b ≠ G.t
  at_ : a ≠ G.t
  ct : c ≠ G.t
theorem Bxs.moves {w w' : World} {X X' : Nat → Prop} {G : Geo} {B a b c : Nat} (h : Bxs w X G B a b c) (m : Moves w X w' X') : Bxs w' X' G B a b c :=
  ⟨m.cells h.ca h.na, m.cells h.cb h.nb, m.cells h.cc h.nc, m.stay h.ca.lt h.na, m.stay h.cb.lt h.nb, m.stay h.cc.lt h.nc, h.sa, h.sb, h.ab, h.bc, h.ac, h.bs, h.bt, h.at_, h.ct⟩
theorem Bxs.new {σ : Type} {E : Env σ} {G : Geo} {w x1 : World} {Y : Nat → Prop} {T : TS σ} {busy : Bool} (ok : E.Ok G.k) (h : TreeAt E G busy w Y T)
    (ca : CellsAt x1 w.heap.size [.pointer (some ⟨G.t, 0, none⟩)]) (cb : CellsAt x1 (w.heap.size + 1) [.int .i64 0, .int .i64 0]) (cc : CellsAt x1 (w.heap.size + 1 + 1) [.int .i64 0, .int .i64 0]) :
    Bxs x1 (own G Y) G w.heap.size w.heap.size (w.heap.size + 1) (w.heap.size + 1 + 1) := by
  have lw := h.low ok
  have hs := lw _ (Or.inr rfl)
  have ht := lw _ (Or.inl (own_t G Y))
  exact ⟨ca, cb, cc, fun e => by have := lw _ (Or.inl e); omega, fun e => by have := lw _ (Or.inl e); omega, fun e => by have := lw _ (Or.inl e); omega, Nat.le_refl _, by omega, by omega, by omega, by omega, by omega, by omega, by omega, by omega⟩
theorem new_ends {σ : Type} {E : Env σ} {G : Geo} {w0 w : World} {Y Y0 : Nat → Prop} {T : TS σ} (ok : E.Ok G.k) (h : TreeAt E G true w Y T) (m : Moves w0 (own G Y0) w (own G Y)) {B a b c : Nat} (x : Bxs w (own G Y) G B a b c) (hB : w0.heap.size ≤ B) (u v : Value) :
    TreeAt E G false (((w.setCell ⟨b, 0, none⟩ u).setCell ⟨b, 1, none⟩ v).drew.setCell ⟨G.t, 8, none⟩ (.bool false)) Y T ∧ Moves w0 (own G Y0) (((w.setCell ⟨b, 0, none⟩ u).setCell ⟨b, 1, none⟩ v).drew.setCell ⟨G.t, 8, none⟩ (.bool false)) (own G Y) := by
  have hp : ∀ d, own G Y d ∨ d = G.sb → d ≠ b := fun d hd e => by
    subst e
    exact hd.elim x.nb x.bs
  exact ⟨(((h.box2 ok hp 0 u).box2 ok hp 1 v).below ok (Below.refl _ _).drew).setT ok 8 _ _ (by unfold treeC; simp) (by omega) rfl rfl rfl h.fst, ((m.setNew (a := ⟨b, 0, none⟩) (Nat.le_trans hB x.sb) u).setNew (a := ⟨b, 1, none⟩) (Nat.le_trans hB x.sb) v).drew.set (a := ⟨G.t, 8, none⟩) (own_t G Y) (.bool false)⟩
theorem new_ends0 {σ : Type} {E : Env σ} {G : Geo} {w0 w : World} {Y Y0 : Nat → Prop} {T : TS σ} (ok : E.Ok G.k) (h : TreeAt E G true w Y T) (m : Moves w0 (own G Y0) w (own G Y)) {B a b c : Nat} (x : Bxs w (own G Y) G B a b c) (hB : w0.heap.size ≤ B) (u v : Value) :
    TreeAt E G false (((w.setCell ⟨b, 0, none⟩ u).setCell ⟨b, 1, none⟩ v).setCell ⟨G.t, 8, none⟩ (.bool false)) Y T ∧ Moves w0 (own G Y0) (((w.setCell ⟨b, 0, none⟩ u).setCell ⟨b, 1, none⟩ v).setCell ⟨G.t, 8, none⟩ (.bool false)) (own G Y) := by
  have hp : ∀ d, own G Y d ∨ d = G.sb → d ≠ b := fun d hd e => by
    subst e
    exact hd.elim x.nb x.bs
  exact ⟨((h.box2 ok hp 0 u).box2 ok hp 1 v).setT ok 8 _ _ (by unfold treeC; simp) (by omega) rfl rfl rfl h.fst, ((m.setNew (a := ⟨b, 0, none⟩) (Nat.le_trans hB x.sb) u).setNew (a := ⟨b, 1, none⟩) (Nat.le_trans hB x.sb) v).set (a := ⟨G.t, 8, none⟩) (own_t G Y) (.bool false)⟩
theorem dead_ends {σ : Type} {E : Env σ} {G : Geo} {w0 w : World} {Y Y0 : Nat → Prop} {er : Int} {d c' : Nat} {s : σ} (ok : E.Ok G.k) (h : DeadAt E G false w Y er d c' s) (m : Moves w0 (own G Y0) w (own G Y)) {B a b c : Nat} (x : Bxs w (own G Y) G B a b c) (hB : w0.heap.size ≤ B) (u v : Value) :
    DeadAt E G false (((w.setCell ⟨b, 0, none⟩ u).setCell ⟨b, 1, none⟩ v).drew.setCell ⟨G.t, 8, none⟩ (.bool false)) Y er d c' s ∧ Moves w0 (own G Y0) (((w.setCell ⟨b, 0, none⟩ u).setCell ⟨b, 1, none⟩ v).drew.setCell ⟨G.t, 8, none⟩ (.bool false)) (own G Y) := by
  have yb : ¬ Y b := fun h => x.nb (Or.inr h)
  have st : ∀ (w' : World) (j : Nat) (u : Value), DeadAt E G false w' Y er d c' s → DeadAt E G false (w'.setCell ⟨b, j, none⟩ u) Y er d c' s := fun w' j u h => by
    obtain ⟨a, cp, h1⟩ := h.c1
    have ce : ∀ i, (w'.setCell ⟨b, j, none⟩ u).cell? ⟨G.t, i, none⟩ = w'.cell? ⟨G.t, i, none⟩ := fun i => World.cell?_setCell_other _ _ _ _ (fun e => x.bt (congrArg Addr.block e))
    exact ⟨ok.stable _ _ _ _ h.env (by simp [World.setCell]) fun d hd => Below.heap_setCell _ _ _ _ (fun e => yb ((show d = b from e) ▸ hd)), h.nt, by simpa [World.setCell] using h.lt, fun i => (World.frozen?_setCell _ _ _ _).trans (h.free i), ⟨a, cp, (ce 1).trans h1⟩, (ce 8).trans h.c8, (ce 9).trans h.c9, (ce 10).trans h.c10, (ce 11).trans h.c11⟩
  have hd := st _ 1 v (st _ 0 u h)
  exact ⟨(hd.box ((Moves.refl _ Y).drew) (ok.stable _ _ _ _ hd.env (Nat.le_refl _) fun _ _ => rfl)).unbusy ok, ((m.setNew (a := ⟨b, 0, none⟩) (Nat.le_trans hB x.sb) u).setNew (a := ⟨b, 1, none⟩) (Nat.le_trans hB x.sb) v).drew.set (a := ⟨G.t, 8, none⟩) (own_t G Y) (.bool false)⟩
/-- The result's box, behind the last stores. -/
theorem Bxs.ends {w : World} {X : Nat → Prop} {G : Geo} {B a b c : Nat} (x : Bxs w X G B a b c) (u v : Value) :
    CellsAt (((w.setCell ⟨b, 0, none⟩ u).setCell ⟨b, 1, none⟩ v).drew.setCell ⟨G.t, 8, none⟩ (.bool false)) b [u, v] ∧ CellsAt ((w.setCell ⟨b, 0, none⟩ u).setCell ⟨b, 1, none⟩ v).drew a [.pointer (some ⟨G.t, 0, none⟩)] := by
  have c1 := (x.cb.set 0 u (by simp)).set 1 v (by simp)
  have c2 : CellsAt ((w.setCell ⟨b, 0, none⟩ u).setCell ⟨b, 1, none⟩ v).drew b [u, v] := ⟨c1.lt, c1.cell, c1.free⟩
  have d1 := (x.ca.other (fun e => x.ab e.symm) 0 u).other (fun e => x.ab e.symm) 1 v
  exact ⟨c2.other (fun e => x.bt e.symm) 8 _, ⟨d1.lt, d1.cell, d1.free⟩⟩
theorem Bxs.ends0 {w : World} {X : Nat → Prop} {G : Geo} {B a b c : Nat} (x : Bxs w X G B a b c) (u v : Value) :
    CellsAt (((w.setCell ⟨b, 0, none⟩ u).setCell ⟨b, 1, none⟩ v).setCell ⟨G.t, 8, none⟩ (.bool false)) b [u, v] ∧ CellsAt ((w.setCell ⟨b, 0, none⟩ u).setCell ⟨b, 1, none⟩ v) a [.pointer (some ⟨G.t, 0, none⟩)] :=
  ⟨((x.cb.set 0 u (by simp)).set 1 v (by simp)).other (fun e => x.bt e.symm) 8 _, (x.ca.other (fun e => x.ab e.symm) 0 u).other (fun e => x.ab e.symm) 1 v⟩
end Go.Proofs.Ytjlcbhblpofjhaa
