/- The tree of losers: ask. -/
import Derived.Test.YtjlcbhblpofjhaaTa
import Derived.Deep.MidRow
namespace Go.Proofs.Ytjlcbhblpofjhaa
open Go.RowKit
set_option maxRecDepth 100000
/-- What becomes of a tree: it goes on, or an error stands: which, whose, how often the order was called. -/
inductive Out (σ : Type) where
  | live (T : TS σ)
  | dead (err : Int) (from_ cmpd : Nat) (s : σ)
/-- A tree that has nothing (any more). -/
structure DeadAt {σ : Type} (E : Env σ) (G : Geo) (busy : Bool) (w : World) (Y : Nat → Prop) (err : Int) (from_ cmpd : Nat) (s : σ) : Prop where
  env : E.S w Y s
  nt : ¬ Y G.t
  lt : G.t < w.heap.size
  free : ∀ j, w.frozen? ⟨G.t, j, none⟩ = false
  c1 : ∃ a c, w.cell? ⟨G.t, 1, none⟩ = some (.slice a 0 c)
  c8 : w.cell? ⟨G.t, 8, none⟩ = some (.bool busy)
  c9 : w.cell? ⟨G.t, 9, none⟩ = some (.int .i64 (cmpd : Int))
  c10 : w.cell? ⟨G.t, 10, none⟩ = some (.int .i64 err)
  c11 : w.cell? ⟨G.t, 11, none⟩ = some (.int .i64 (from_ : Int))
def OutAt {σ : Type} (E : Env σ) (G : Geo) (busy : Bool) (w : World) (Y : Nat → Prop) : Out σ → Prop
  | .live T => TreeAt E G busy w Y T
  | .dead err f c s => DeadAt E G false w Y err f c s
/-- The sources that are due are asked. -/
def askM {σ : Type} (E : Env σ) : Nat → TS σ → Out σ
  | 0, T => .live T
  | f + 1, T => if (E.nS T.s T.due).1.err = 0 then askM E f { T with H := if (E.nS T.s T.due).1.there = true then upN T.H T.due (some (E.nS T.s T.due).1.it) else T.H, due := T.due + 1, s := (E.nS T.s T.due).2 }
    else .dead (E.nS T.s T.due).1.err T.due T.cmpd (E.nS T.s T.due).2
theorem askM_err {σ : Type} {E : Env σ} {f : Nat} {T : TS σ} {it : It} {th : Bool} {er : Int} {s : σ} (h : E.nS T.s T.due = (⟨it, th, er⟩, s)) (he : er ≠ 0) : askM E (f + 1) T = .dead er T.due T.cmpd s := by
  rw [askM, h, if_neg he]
theorem askM_got {σ : Type} {E : Env σ} {f : Nat} {T : TS σ} {it : It} {s : σ} (h : E.nS T.s T.due = (⟨it, true, 0⟩, s)) : askM E (f + 1) T = askM E f { T with H := upN T.H T.due (some it), due := T.due + 1, s := s } := by
  rw [askM, h, if_pos rfl]; rfl
theorem askM_end {σ : Type} {E : Env σ} {f : Nat} {T : TS σ} {it : It} {s : σ} (h : E.nS T.s T.due = (⟨it, false, 0⟩, s)) : askM E (f + 1) T = askM E f { T with due := T.due + 1, s := s } := by
  rw [askM, h, if_pos rfl]; rfl
def AskR {σ : Type} (E : Env σ) (G : Geo) (busy : Bool) (w : World) (Y : Nat → Prop) (o : Out σ) (e : Ending) (w' : World) : Prop := e = .returned (.tuple #[]) ∧ ∃ Y', OutAt E G busy w' Y' o ∧ Moves w (own G Y) w' (own G Y')
def AskI {σ : Type} (E : Env σ) (G : Geo) (busy : Bool) (w : World) (Y : Nat → Prop) (o : Out σ) (wr : World) : Prop :=
  ∃ (T : TS σ) (Y' : Nat → Prop), askM E (T.dueEnd - T.due) T = o ∧ T.dueEnd ≤ G.k ∧ TreeAt E G busy wr Y' T ∧ Moves w (own G Y) wr (own G Y')
theorem moves_setCells {w0 : World} {X X' : Nat → Prop} {b : Nat} (hb : X' b) : ∀ (vs : List Value) (o : Nat) (w : World), Moves w0 X w X' → Moves w0 X (w.setCells b o vs) X'
  | [], _, _, h => h
  | v :: vs, o, w, h => moves_setCells hb vs (o + 1) (w.setCell ⟨b, o, none⟩ v) (h.set (a := ⟨b, o, none⟩) hb v)
theorem frozen_setCells (b : Nat) : ∀ (vs : List Value) (o : Nat) (w : World) (c j : Nat), (w.setCells b o vs).frozen? ⟨c, j, none⟩ = w.frozen? ⟨c, j, none⟩
  | [], _, _, _, _ => rfl
  | v :: vs, o, w, c, j => (frozen_setCells b vs (o + 1) (w.setCell ⟨b, o, none⟩ v) c j).trans (World.frozen?_setCell _ _ _ _)
theorem block_setCells (b : Nat) : ∀ (vs : List Value) (o : Nat) (w : World) (c : Nat), c ≠ b → (w.setCells b o vs).heap[c]? = w.heap[c]?
  | [], _, _, _, _ => rfl
  | v :: vs, o, w, c, hc => (block_setCells b vs (o + 1) (w.setCell ⟨b, o, none⟩ v) c hc).trans (Below.heap_setCell _ _ _ _ hc)
theorem size_setCells (b : Nat) : ∀ (vs : List Value) (o : Nat) (w : World), (w.setCells b o vs).heap.size = w.heap.size
  | [], _, _ => rfl
  | v :: vs, o, w => (size_setCells b vs (o + 1) (w.setCell ⟨b, o, none⟩ v)).trans (by simp [World.setCell])
def deadL (er : Int) (d c : Nat) : List Value := [.nilFunc, .slice none 0 0, .slice none 0 0, .slice none 0 0, .int .i64 0, .bool false, .int .i64 0, .int .i64 0, .bool false, .int .i64 (c : Int), .int .i64 er, .int .i64 (d : Int)]
theorem deadL_one (er : Int) (d c : Nat) : (deadL er d c).toArray.all (·.oneCell') = true := all_oneCell_toArray (by unfold deadL; intro v hv; simp only [List.mem_cons, List.mem_nil_iff, or_false] at hv; rcases hv with rfl | rfl | rfl | rfl | rfl | rfl | rfl | rfl | rfl | rfl | rfl | rfl <;> rfl)
theorem info80 : (Try.prog.info? 80).map (·.size) = some 12 := by kernel_rfl
theorem tree_there {w : World} {b : Nat} {vs : List Value} (h : CellsAt w b vs) (hv : vs.length = 12) : w.there b 0 12 := fun j hj => by
  rw [Nat.zero_add, h.cell j vs[j] (List.getElem?_eq_getElem (by omega))]
  exact ⟨rfl, h.free j⟩
theorem TreeAt.dies {σ : Type} {E : Env σ} {G : Geo} {busy : Bool} {w : World} {Y : Nat → Prop} {T : TS σ} (h : TreeAt E G busy w Y T) (ok : E.Ok G.k) (er : Int) (d c : Nat) : DeadAt E G false (w.setCells G.t 0 (deadL er d c)) Y er d c T.s := by
  have th : w.there G.t 0 12 := tree_there h.tree rfl
  have r := World.rangeAt_setCells_same w G.t 0 (deadL er d c) th
  have ce : ∀ j v, (deadL er d c)[j]? = some v → (w.setCells G.t 0 (deadL er d c)).cell? ⟨G.t, j, none⟩ = some v := fun j v hv => by have := r j v hv; rwa [Nat.zero_add] at this
  exact ⟨ok.stable _ _ _ _ h.env (by rw [size_setCells]; exact Nat.le_refl _) fun b hb => block_setCells _ _ _ _ _ (fun e => h.nt (e ▸ hb)), h.nt, by rw [size_setCells]; exact h.tree.lt, fun j => (frozen_setCells _ _ _ _ _ _).trans (h.tree.free j), ⟨none, 0, ce 1 _ rfl⟩, ce 8 _ rfl, ce 9 _ rfl, ce 10 _ rfl, ce 11 _ rfl⟩
theorem TreeAt.box2 {σ : Type} {E : Env σ} {G : Geo} {busy : Bool} {w : World} {Y : Nat → Prop} {T : TS σ} (h : TreeAt E G busy w Y T) (ok : E.Ok G.k) {p : Nat} (hp : ∀ b, own G Y b ∨ b = G.sb → b ≠ p) (j : Nat) (v : Value) : TreeAt E G busy (w.setCell ⟨p, j, none⟩ v) Y T :=
  h.same ok (by simp [World.setCell]) fun b hb => Below.heap_setCell _ _ _ _ (hp b hb)
def dueLeft (t : Nat) (w : World) : Nat := (match w.cell? ⟨t, 7, none⟩ with | some (.int _ x) => x.toNat | _ => 0) - (match w.cell? ⟨t, 6, none⟩ with | some (.int _ x) => x.toNat | _ => 0)
theorem due_at {σ : Type} {E : Env σ} {G : Geo} {busy : Bool} {w : World} {Y : Nat → Prop} {T : TS σ} (h : TreeAt E G busy w Y T) : dueLeft G.t w = T.dueEnd - T.due := by
  have c6 := h.tree.cell 6 _ rfl
  have c7 := h.tree.cell 7 _ rfl
  unfold dueLeft
  rw [c6, c7]
  simp
set_option maxHeartbeats 4000000 in
theorem ask_ok {σ : Type} {E : Env σ} {G : Geo} {busy : Bool} {w : World} {Y : Nat → Prop} {T : TS σ} (ok : E.Ok G.k) (h : TreeAt E G busy w Y T) (hd : T.dueEnd ≤ G.k) :
    Calls Try.prog 41 #[.pointer (some ⟨G.t, 0, none⟩)] w (AskR E G busy w Y (askM E (T.dueEnd - T.due) T)) := by
  have OK := Lib.hid ok
  generalize hr : askM E (T.dueEnd - T.due) T = R
  have ST := Lib.hid (show AskI E G busy w Y R w from ⟨T, Y, hr, hd, h, Moves.refl _ _⟩)
  clear ok hr h hd
  go_enter Try.func41, Try.ntmps41
  go_wp2_with fail
  go_loopw [] (fun wr => AskI E G busy w Y R wr) (fun wr => dueLeft G.t wr)
  case atStart => exact ST.out
  case round =>
    clear ST
    obtain ⟨T', Y', hres, hd, hT, hM⟩ := hrel
    have HT := Lib.hid hT
    have HM := Lib.hid hM
    have HRES := Lib.hid hres
    have HD := Lib.hid hd
    have k64 := hT.geo.k64
    have c6 := hT.tree.cell 6 _ rfl
    have c7 := hT.tree.cell 7 _ rfl
    have lt := hT.tree.lt
    by_cases hdue : T'.due < T'.dueEnd
    · have t1 : decide ((T'.due : Int) < (T'.dueEnd : Int)) = true := decide_eq_true (by omega)
      have t1n : decide (T'.due < T'.dueEnd) = true := decide_eq_true hdue
      have DK := Lib.hid (show T'.due < G.k by omega)
      have HDUE := Lib.hid hdue
      have i1 : (T'.due : Int) < (G.k : Int) := by omega
      have i2 : (0 : Int) ≤ (T'.due : Int) := by omega
      have i3 : (T'.due : Int) < 64 := by omega
      obtain ⟨f, hf⟩ : ∃ f, T'.dueEnd - T'.due = f + 1 := ⟨T'.dueEnd - T'.due - 1, by omega⟩
      rw [hf] at HRES
      have HFU := Lib.hid hf
      clear hT hM hres hd hdue hf
      go_wp2_with fail
      go_quiet (fail)
      have HT1 := Lib.hid (HT.out.below OK.out (below_drewN wr nq))
      have HM1 := Lib.hid (HM.out.trans (moves_drewN wr (own G Y') nq))
      have LW := Lib.hid (due_at HT.out)
      go_upto_region 2 with fail
      clear c6 c7 lt HT HM
      generalize wr.drewN nq = x0 at HT1 HM1 ⊢
      have c1 := HT1.out.tree.cell 1 _ rfl
      have c6 := HT1.out.tree.cell 6 _ rfl
      have s0 := HT1.out.s0 T'.due DK.out
      have lt := HT1.out.tree.lt
      have ls := HT1.out.slt
      have nt := HT1.out.nt
      have ns := HT1.out.ns
      have ENT := OK.out.enterS T'.due DK.out
      rcases hq : E.nS T'.s T'.due with ⟨⟨⟨ik, iw⟩, th, er⟩, s2⟩
      have HQ := Lib.hid hq
      have SRC1 := Lib.hid (OK.out.source x0.drew Y' T'.s T'.due DK.out (OK.out.stable x0 x0.drew Y' T'.s HT1.out.env (Nat.le_refl _) fun _ _ => rfl))
      have SRC2 := Lib.hid (OK.out.source (x0.alloc (.cells #[.int .i64 0, .int .i64 0] 28)).drew Y' T'.s T'.due DK.out (OK.out.stable x0 (x0.alloc (.cells #[.int .i64 0, .int .i64 0] 28)).drew Y' T'.s HT1.out.env (by show x0.heap.size ≤ (x0.alloc _).heap.size; simp) fun b hb => Below.heap_alloc _ _ _ (OK.out.low _ _ _ HT1.out.env b hb)))
      rw [hq] at SRC1 SRC2
      clear hq
      have NB := Lib.hid (show ¬ Y' x0.heap.size from fun h => absurd (OK.out.low _ _ _ HT1.out.env x0.heap.size h) (Nat.lt_irrefl _))
      have lt2 : G.t < (x0.alloc (.cells #[.int .i64 0, .int .i64 0] 28)).drew.heap.size := by show G.t < (x0.alloc _).heap.size; simp; omega
      have ls2 : G.sb < (x0.alloc (.cells #[.int .i64 0, .int .i64 0] 28)).drew.heap.size := by show G.sb < (x0.alloc _).heap.size; simp; omega
      have lb2 : x0.heap.size < (x0.alloc (.cells #[.int .i64 0, .int .i64 0] 28)).drew.heap.size := by show x0.heap.size < (x0.alloc _).heap.size; simp
      have e1 : (x0.alloc (.cells #[.int .i64 0, .int .i64 0] 28)).drew.cell? ⟨G.t, 1, none⟩ = some (.slice (some ⟨G.sb, 0, none⟩) G.k G.sc) := ((below_alloc x0 _).cell (p := ⟨G.t, 1, none⟩) lt).trans c1
      have e6 : (x0.alloc (.cells #[.int .i64 0, .int .i64 0] 28)).drew.cell? ⟨G.t, 6, none⟩ = some (.int .i64 (T'.due : Int)) := ((below_alloc x0 _).cell (p := ⟨G.t, 6, none⟩) lt).trans c6
      have e0 : (x0.alloc (.cells #[.int .i64 0, .int .i64 0] 28)).drew.cell? ⟨G.sb, T'.due, none⟩ = some (.func (.func (E.sF T'.due)) #[] (E.sC T'.due)) := ((below_alloc x0 _).cell (p := ⟨G.sb, T'.due, none⟩) ls).trans s0
      have BX := Lib.hid (show CellsAt (x0.alloc (.cells #[.int .i64 0, .int .i64 0] 28)).drew x0.heap.size [.int .i64 0, .int .i64 0] from
        have c := CellsAt.new x0 [.int .i64 0, .int .i64 0] 28
        ⟨c.lt, c.cell, c.free⟩)
      have n1 : ¬ G.t = x0.heap.size := by omega
      have n2 : ¬ x0.heap.size = G.t := by omega
      have n3 : ¬ G.sb = x0.heap.size := by omega
      have n4 : ¬ x0.heap.size = G.sb := by omega
      go_region_held3 (fun w' => w'.cell? ⟨G.t, 1, none⟩ = some (.slice (some ⟨G.sb, 0, none⟩) G.k G.sc) ∧ w'.cell? ⟨G.t, 6, none⟩ = some (.int .i64 (T'.due : Int)) ∧ w'.cell? ⟨G.sb, T'.due, none⟩ = some (.func (.func (E.sF T'.due)) #[] (E.sC T'.due)))
        (first | go_keep | exact ⟨k1, k6, k0⟩ | exact ⟨((below_alloc w3 _).cell (p := ⟨G.t, 1, none⟩) kl).trans k1, ((below_alloc w3 _).cell (p := ⟨G.t, 6, none⟩) kl).trans k6, ((below_alloc w3 _).cell (p := ⟨G.sb, T'.due, none⟩) kk).trans k0⟩ | exact ⟨(World.cell?_setCell_other _ _ _ _ (by simp [n1, n2])).trans ((World.cell?_setCell_other _ _ _ _ (by simp [n1, n2])).trans k1), (World.cell?_setCell_other _ _ _ _ (by simp [n1, n2])).trans ((World.cell?_setCell_other _ _ _ _ (by simp [n1, n2])).trans k6), (World.cell?_setCell_other _ _ _ _ (by simp [n3, n4])).trans ((World.cell?_setCell_other _ _ _ _ (by simp [n3, n4])).trans k0)⟩ | exact ⟨(hM3.cell lt nt _).trans c1, (hM3.cell lt nt _).trans c6, (hM3.cell ls ns _).trans s0⟩ | exact ⟨(hM3.cell lt2 nt _).trans e1, (hM3.cell lt2 nt _).trans e6, (hM3.cell ls2 ns _).trans e0⟩)
        (first | (refine SRC1.out.mono ?_; rintro e w3 ⟨rfl, Y3, hS3, hM3⟩; have k1 := (hM3.cell lt nt 1).trans c1; have k6 := (hM3.cell lt nt 6).trans c6; have k0 := (hM3.cell ls ns T'.due).trans s0; have kl := Nat.lt_of_lt_of_le lt hM3.size; have kk := Nat.lt_of_lt_of_le ls hM3.size) | (refine SRC2.out.mono ?_; rintro e w3 ⟨rfl, Y3, hS3, hM3⟩; have bx := hM3.cells BX.out NB.out; have b0 := bx.cell 0 _ rfl; have b1 := bx.cell 1 _ rfl; have bf0 := bx.free 0; have bf1 := bx.free 1; have bl := bx.lt; clear bx; have k1 := (hM3.cell lt2 nt 1).trans e1; have k6 := (hM3.cell lt2 nt 6).trans e6; have k0 := (hM3.cell ls2 ns T'.due).trans e0))
      · have X4 := Lib.hid (show CellsAt (w3.alloc (.cells #[.int .i64 ik, .int .i64 iw] 28)) w3.heap.size [.int .i64 ik, .int .i64 iw] from CellsAt.new w3 [.int .i64 ik, .int .i64 iw] 28)
        have T3 := Lib.hid (show TreeAt E G busy w3 Y3 { T' with s := s2 } from (HT1.out.below OK.out (Below.refl _ _).drew).env' hM3 hS3)
        have T4 := Lib.hid (T3.out.below OK.out (below_alloc w3 (.cells #[.int .i64 ik, .int .i64 iw] 28)))
        have M4 := Lib.hid ((HM1.out.drew.trans (moves_own G hM3)).alloc (.cells #[.int .i64 ik, .int .i64 iw] 28))
        have PN := Lib.hid (show ∀ b, own G Y3 b ∨ b = G.sb → b ≠ w3.heap.size from fun b hb e => by have := T3.out.low OK.out b hb; omega)
        generalize w3.alloc (.cells #[.int .i64 ik, .int .i64 iw] 28) = x4 at X4 T4 M4 ⊢
        generalize w3.heap.size = p at X4 PN ⊢
        clear c1 c6 s0 lt ls nt ns ENT SRC1 SRC2 BX NB lt2 ls2 lb2 e1 e6 e0 n1 n2 n3 n4 HT1 HM1 hS3 hM3 T3
        try clear k1 k6 k0
        have lt := T4.out.tree.lt
        have lp := X4.out.lt
        have p0 := X4.out.cell 0 _ rfl
        have p1 := X4.out.cell 1 _ rfl
        have c6 := T4.out.tree.cell 6 _ rfl
        have c9 := T4.out.tree.cell 9 _ rfl
        by_cases he : er = 0
        · subst he
          cases th with
          | true =>
            have NX := Lib.hid ((askM_got HQ.out).symm.trans HRES.out)
            have c2 := T4.out.tree.cell 2 _ rfl
            have lh := T4.out.hlt
            have g0 := T4.out.h0 T'.due DK.out
            have g1 := T4.out.h1 T'.due DK.out
            have g2 := T4.out.h2 T'.due DK.out
            have gf0 := T4.out.hfree (T'.due * 3)
            have gf1 := T4.out.hfree (T'.due * 3 + 1)
            have gf2 := T4.out.hfree (T'.due * 3 + 2)
            have nh : ¬ G.hb = p := PN.out G.hb (Or.inl (own_h G Y3))
            have nh2 : ¬ p = G.hb := fun e => nh e.symm
            have nt1 : ¬ G.t = G.hb := T4.out.geo.th
            have nt2 : ¬ G.hb = G.t := T4.out.geo.th.symm
            have T5 := Lib.hid ((T4.out.setH OK.out T'.due (some ⟨ik, iw⟩) DK.out).below OK.out (Below.refl _ _).drew)
            have M5 := Lib.hid ((((M4.out.set (a := ⟨G.hb, T'.due * 3, none⟩) (own_h G Y3) (.int .i64 (keyH (some ⟨ik, iw⟩)))).set (a := ⟨G.hb, T'.due * 3 + 1, none⟩) (own_h G Y3) (.int .i64 (whoH (some ⟨ik, iw⟩)))).set (a := ⟨G.hb, T'.due * 3 + 2, none⟩) (own_h G Y3) (.bool (isH (some ⟨ik, iw⟩)))).drew)
            change Hid (TreeAt E G busy (((x4.setCell ⟨G.hb, T'.due * 3, none⟩ (.int .i64 ik)).setCell ⟨G.hb, T'.due * 3 + 1, none⟩ (.int .i64 iw)).setCell ⟨G.hb, T'.due * 3 + 2, none⟩ (.bool true)).drew Y3 _) at T5
            change Hid (Moves w (own G Y) (((x4.setCell ⟨G.hb, T'.due * 3, none⟩ (.int .i64 ik)).setCell ⟨G.hb, T'.due * 3 + 1, none⟩ (.int .i64 iw)).setCell ⟨G.hb, T'.due * 3 + 2, none⟩ (.bool true)).drew (own G Y3)) at M5
            go_wp2_with fail
            go_region
            all_goals
              go_upto_region 1 with fail
              clear c6 c9 c2 lh g0 g1 g2 gf0 gf1 gf2 p0 p1 lp lt
              generalize (((x4.setCell ⟨G.hb, T'.due * 3, none⟩ (.int .i64 ik)).setCell ⟨G.hb, T'.due * 3 + 1, none⟩ (.int .i64 iw)).setCell ⟨G.hb, T'.due * 3 + 2, none⟩ (.bool true)).drew = x5 at T5 M5 ⊢
              have c6 := T5.out.tree.cell 6 _ rfl
              have f6 := T5.out.tree.free 6
              have lt := T5.out.tree.lt
              have T6 := Lib.hid (show TreeAt E G busy (x5.setCell ⟨G.t, 6, none⟩ (.int .i64 ((T'.due : Int) + 1))) Y3 { T' with H := upN T'.H T'.due (some ⟨ik, iw⟩), due := T'.due + 1, s := s2 } from T5.out.setT OK.out 6 _ _ (by unfold treeC; simp) (by omega) rfl rfl rfl T5.out.fst)
              have M6 := Lib.hid (M5.out.set (a := ⟨G.t, 6, none⟩) (own_t G Y3) (.int .i64 ((T'.due : Int) + 1)))
              have LN := Lib.hid (due_at T6.out)
              go_wp2_with fail
              refine ⟨⟨({ T' with H := upN T'.H T'.due (some ⟨ik, iw⟩), due := T'.due + 1, s := s2 } : TS σ), Y3, ?_, HD.out, T6.out, M6.out⟩, ?_⟩
              · show askM E (T'.dueEnd - (T'.due + 1)) _ = R
                rw [show T'.dueEnd - (T'.due + 1) = f by have := HFU.out; omega]; exact NX.out
              · rw [LN.out, LW.out]; show T'.dueEnd - (T'.due + 1) < T'.dueEnd - T'.due; have := HDUE.out; omega
          | false =>
            have NX := Lib.hid ((askM_end HQ.out).symm.trans HRES.out)
            go_upto_region 1 with fail
            clear c6 c9 p0 p1 lp lt
            have c6 := T4.out.tree.cell 6 _ rfl
            have f6 := T4.out.tree.free 6
            have lt := T4.out.tree.lt
            have T6 := Lib.hid (show TreeAt E G busy (x4.setCell ⟨G.t, 6, none⟩ (.int .i64 ((T'.due : Int) + 1))) Y3 { T' with due := T'.due + 1, s := s2 } from T4.out.setT OK.out 6 _ _ (by unfold treeC; simp) (by omega) rfl rfl rfl T4.out.fst)
            have M6 := Lib.hid (M4.out.set (a := ⟨G.t, 6, none⟩) (own_t G Y3) (.int .i64 ((T'.due : Int) + 1)))
            have LN := Lib.hid (due_at T6.out)
            go_wp2_with fail
            refine ⟨⟨({ T' with due := T'.due + 1, s := s2 } : TS σ), Y3, ?_, HD.out, T6.out, M6.out⟩, ?_⟩
            · show askM E (T'.dueEnd - (T'.due + 1)) _ = R
              rw [show T'.dueEnd - (T'.due + 1) = f by have := HFU.out; omega]; exact NX.out
            · rw [LN.out, LW.out]; show T'.dueEnd - (T'.due + 1) < T'.dueEnd - T'.due; have := HDUE.out; omega
        · have NX := Lib.hid ((askM_err HQ.out he).symm.trans HRES.out)
          have e1 : (er == 0) = false := by simp [he]
          have e2 : (er != 0) = true := by simp [he]
          have e3 : decide (er = 0) = false := decide_eq_false he
          clear he
          have TH := tree_there T4.out.tree rfl
          have T5 := Lib.hid ((T4.out.below OK.out (Below.refl _ _).drew).dies OK.out er T'.due T'.cmpd)
          have M5 := Lib.hid (moves_setCells (own_t G Y3) (deadL er T'.due T'.cmpd) 0 x4.drew M4.out.drew)
          go_upto_region 4 with fail
          go_still_tail 12, (by kernel_rfl)
          change wpList _ _ _ _ _ (World.drew _)
          refine wpList_store_mid rfl 80 _ _ rfl G.t 0 (deadL er T'.due T'.cmpd).toArray rfl rfl (show (World.drew x4).there G.t 0 12 from fun j hj => TH j hj) info80 (deadL_one _ _ _) ?_
          rw [List.toList_toArray]
          generalize x4.drew.setCells G.t 0 (deadL er T'.due T'.cmpd) = x5 at T5 M5 ⊢
          go_wp2_with fail
          go_end0
          rw [← NX.out]
          exact ⟨rfl, Y3, T5.out, M5.out⟩
      · have T3 := Lib.hid (show TreeAt E G busy w3 Y3 { T' with s := s2 } from ((HT1.out.below OK.out (below_alloc x0 (.cells #[.int .i64 0, .int .i64 0] 28))).below OK.out (Below.refl _ _).drew).env' hM3 hS3)
        have PN := Lib.hid (show ∀ b, own G Y3 b ∨ b = G.sb → b ≠ x0.heap.size from fun b hb e => by
          subst e
          have lx := HT1.out.low OK.out
          rcases hb with (hb | hb) | hb
          · exact absurd (lx _ (Or.inl (Or.inl hb))) (Nat.lt_irrefl _)
          · rcases hM3.foot _ hb with h | h
            · exact absurd h NB.out
            · have h2 : (x0.alloc (.cells #[.int .i64 0, .int .i64 0] 28)).heap.size ≤ x0.heap.size := h
              have h3 : (x0.alloc (.cells #[.int .i64 0, .int .i64 0] 28)).heap.size = x0.heap.size + 1 := by simp
              omega
          · exact n4 hb)
        have X4 := Lib.hid (show CellsAt ((w3.setCell ⟨x0.heap.size, 0, none⟩ (.int .i64 ik)).setCell ⟨x0.heap.size, 1, none⟩ (.int .i64 iw)) x0.heap.size [.int .i64 ik, .int .i64 iw] from ((hM3.cells BX.out NB.out).set 0 (.int .i64 ik) (by simp)).set 1 (.int .i64 iw) (by simp))
        have T4 := Lib.hid ((T3.out.box2 OK.out PN.out 0 (.int .i64 ik)).box2 OK.out PN.out 1 (.int .i64 iw))
        have M4 := Lib.hid (((((HM1.out.alloc (.cells #[.int .i64 0, .int .i64 0] 28)).drew.trans (moves_own G hM3))).setNew (a := ⟨x0.heap.size, 0, none⟩) HM1.out.size (.int .i64 ik)).setNew (a := ⟨x0.heap.size, 1, none⟩) HM1.out.size (.int .i64 iw))
        generalize (w3.setCell ⟨x0.heap.size, 0, none⟩ (.int .i64 ik)).setCell ⟨x0.heap.size, 1, none⟩ (.int .i64 iw) = x4 at X4 T4 M4 ⊢
        generalize x0.heap.size = p at *
        clear c1 c6 s0 lt ls nt ns ENT SRC1 SRC2 BX NB lt2 ls2 lb2 e1 e6 e0 n1 n2 n3 n4 HT1 HM1 hS3 hM3 T3
        try clear k1 k6 k0
        have lt := T4.out.tree.lt
        have lp := X4.out.lt
        have p0 := X4.out.cell 0 _ rfl
        have p1 := X4.out.cell 1 _ rfl
        have c6 := T4.out.tree.cell 6 _ rfl
        have c9 := T4.out.tree.cell 9 _ rfl
        by_cases he : er = 0
        · subst he
          cases th with
          | true =>
            have NX := Lib.hid ((askM_got HQ.out).symm.trans HRES.out)
            have c2 := T4.out.tree.cell 2 _ rfl
            have lh := T4.out.hlt
            have g0 := T4.out.h0 T'.due DK.out
            have g1 := T4.out.h1 T'.due DK.out
            have g2 := T4.out.h2 T'.due DK.out
            have gf0 := T4.out.hfree (T'.due * 3)
            have gf1 := T4.out.hfree (T'.due * 3 + 1)
            have gf2 := T4.out.hfree (T'.due * 3 + 2)
            have nh : ¬ G.hb = p := PN.out G.hb (Or.inl (own_h G Y3))
            have nh2 : ¬ p = G.hb := fun e => nh e.symm
            have nt1 : ¬ G.t = G.hb := T4.out.geo.th
            have nt2 : ¬ G.hb = G.t := T4.out.geo.th.symm
            have T5 := Lib.hid ((T4.out.setH OK.out T'.due (some ⟨ik, iw⟩) DK.out).below OK.out (Below.refl _ _).drew)
            have M5 := Lib.hid ((((M4.out.set (a := ⟨G.hb, T'.due * 3, none⟩) (own_h G Y3) (.int .i64 (keyH (some ⟨ik, iw⟩)))).set (a := ⟨G.hb, T'.due * 3 + 1, none⟩) (own_h G Y3) (.int .i64 (whoH (some ⟨ik, iw⟩)))).set (a := ⟨G.hb, T'.due * 3 + 2, none⟩) (own_h G Y3) (.bool (isH (some ⟨ik, iw⟩)))).drew)
            change Hid (TreeAt E G busy (((x4.setCell ⟨G.hb, T'.due * 3, none⟩ (.int .i64 ik)).setCell ⟨G.hb, T'.due * 3 + 1, none⟩ (.int .i64 iw)).setCell ⟨G.hb, T'.due * 3 + 2, none⟩ (.bool true)).drew Y3 _) at T5
            change Hid (Moves w (own G Y) (((x4.setCell ⟨G.hb, T'.due * 3, none⟩ (.int .i64 ik)).setCell ⟨G.hb, T'.due * 3 + 1, none⟩ (.int .i64 iw)).setCell ⟨G.hb, T'.due * 3 + 2, none⟩ (.bool true)).drew (own G Y3)) at M5
            go_wp2_with fail
            go_region
            all_goals
              go_upto_region 1 with fail
              clear c6 c9 c2 lh g0 g1 g2 gf0 gf1 gf2 p0 p1 lp lt
              generalize (((x4.setCell ⟨G.hb, T'.due * 3, none⟩ (.int .i64 ik)).setCell ⟨G.hb, T'.due * 3 + 1, none⟩ (.int .i64 iw)).setCell ⟨G.hb, T'.due * 3 + 2, none⟩ (.bool true)).drew = x5 at T5 M5 ⊢
              have c6 := T5.out.tree.cell 6 _ rfl
              have f6 := T5.out.tree.free 6
              have lt := T5.out.tree.lt
              have T6 := Lib.hid (show TreeAt E G busy (x5.setCell ⟨G.t, 6, none⟩ (.int .i64 ((T'.due : Int) + 1))) Y3 { T' with H := upN T'.H T'.due (some ⟨ik, iw⟩), due := T'.due + 1, s := s2 } from T5.out.setT OK.out 6 _ _ (by unfold treeC; simp) (by omega) rfl rfl rfl T5.out.fst)
              have M6 := Lib.hid (M5.out.set (a := ⟨G.t, 6, none⟩) (own_t G Y3) (.int .i64 ((T'.due : Int) + 1)))
              have LN := Lib.hid (due_at T6.out)
              go_wp2_with fail
              refine ⟨⟨({ T' with H := upN T'.H T'.due (some ⟨ik, iw⟩), due := T'.due + 1, s := s2 } : TS σ), Y3, ?_, HD.out, T6.out, M6.out⟩, ?_⟩
              · show askM E (T'.dueEnd - (T'.due + 1)) _ = R
                rw [show T'.dueEnd - (T'.due + 1) = f by have := HFU.out; omega]; exact NX.out
              · rw [LN.out, LW.out]; show T'.dueEnd - (T'.due + 1) < T'.dueEnd - T'.due; have := HDUE.out; omega
          | false =>
            have NX := Lib.hid ((askM_end HQ.out).symm.trans HRES.out)
            go_upto_region 1 with fail
            clear c6 c9 p0 p1 lp lt
            have c6 := T4.out.tree.cell 6 _ rfl
            have f6 := T4.out.tree.free 6
            have lt := T4.out.tree.lt
            have T6 := Lib.hid (show TreeAt E G busy (x4.setCell ⟨G.t, 6, none⟩ (.int .i64 ((T'.due : Int) + 1))) Y3 { T' with due := T'.due + 1, s := s2 } from T4.out.setT OK.out 6 _ _ (by unfold treeC; simp) (by omega) rfl rfl rfl T4.out.fst)
            have M6 := Lib.hid (M4.out.set (a := ⟨G.t, 6, none⟩) (own_t G Y3) (.int .i64 ((T'.due : Int) + 1)))
            have LN := Lib.hid (due_at T6.out)
            go_wp2_with fail
            refine ⟨⟨({ T' with due := T'.due + 1, s := s2 } : TS σ), Y3, ?_, HD.out, T6.out, M6.out⟩, ?_⟩
            · show askM E (T'.dueEnd - (T'.due + 1)) _ = R
              rw [show T'.dueEnd - (T'.due + 1) = f by have := HFU.out; omega]; exact NX.out
            · rw [LN.out, LW.out]; show T'.dueEnd - (T'.due + 1) < T'.dueEnd - T'.due; have := HDUE.out; omega
        · have NX := Lib.hid ((askM_err HQ.out he).symm.trans HRES.out)
          have e1 : (er == 0) = false := by simp [he]
          have e2 : (er != 0) = true := by simp [he]
          have e3 : decide (er = 0) = false := decide_eq_false he
          clear he
          have TH := tree_there T4.out.tree rfl
          have T5 := Lib.hid ((T4.out.below OK.out (Below.refl _ _).drew).dies OK.out er T'.due T'.cmpd)
          have M5 := Lib.hid (moves_setCells (own_t G Y3) (deadL er T'.due T'.cmpd) 0 x4.drew M4.out.drew)
          go_upto_region 4 with fail
          go_still_tail 12, (by kernel_rfl)
          change wpList _ _ _ _ _ (World.drew _)
          refine wpList_store_mid rfl 80 _ _ rfl G.t 0 (deadL er T'.due T'.cmpd).toArray rfl rfl (show (World.drew x4).there G.t 0 12 from fun j hj => TH j hj) info80 (deadL_one _ _ _) ?_
          rw [List.toList_toArray]
          generalize x4.drew.setCells G.t 0 (deadL er T'.due T'.cmpd) = x5 at T5 M5 ⊢
          go_wp2_with fail
          go_end0
          rw [← NX.out]
          exact ⟨rfl, Y3, T5.out, M5.out⟩
    · have t1 : decide ((T'.due : Int) < (T'.dueEnd : Int)) = false := decide_eq_false (by omega)
      have t1n : decide (T'.due < T'.dueEnd) = false := decide_eq_false hdue
      have FIN := Lib.hid (show R = .live T' by rw [← HRES.out, show T'.dueEnd - T'.due = 0 by omega]; rfl)
      clear hT hM hres hd hdue
      go_wp2_with fail
      go_quiet (fail)
      go_wp2_with fail
      go_end0
      rw [FIN.out]
      exact ⟨rfl, Y', HT.out.below OK.out (below_drewN wr _), HM.out.trans (moves_drewN wr _ _)⟩
end Go.Proofs.Ytjlcbhblpofjhaa
