/- A source of a list. -/
import Derived.Test.YtjlcbhblpofjhaaNz
namespace Go.Proofs.Ytjlcbhblpofjhaa
open Go.RowKit
set_option maxRecDepth 100000
/-- What is left of a list, in its box: the box, the row. -/
structure RestAt (w : World) (rb g : Nat) (l : List It) : Prop where
  lt : rb < w.heap.size
  free : w.frozen? ⟨rb, 0, none⟩ = false
  cell : ∃ a c, w.cell? ⟨rb, 0, none⟩ = some (.slice a l.length c) ∧ l.length ≤ c ∧ c ≤ maxLen ∧ (l ≠ [] → g < w.heap.size ∧ g ≠ rb ∧ ∃ off, a = some ⟨g, off, none⟩ ∧ ∀ j (hj : j < l.length), w.cell? ⟨g, off + j * 2, none⟩ = some (.int .i64 (l[j]).key) ∧ w.cell? ⟨g, off + j * 2 + 1, none⟩ = some (.int .i64 (l[j]).who))
theorem RestAt.same {w w' : World} {rb g : Nat} {l : List It} (h : RestAt w rb g l) (hs : w.heap.size ≤ w'.heap.size) (h1 : w'.heap[rb]? = w.heap[rb]?) (h2 : l ≠ [] → w'.heap[g]? = w.heap[g]?) : RestAt w' rb g l := by
  obtain ⟨a, c, hc, hl, hc2, hr⟩ := h.cell
  refine ⟨Nat.lt_of_lt_of_le h.lt hs, (World.frozen?_of_block (w := w) (a := ⟨rb, 0, none⟩) h1).trans h.free, a, c, (World.cell?_of_block (w := w) (a := ⟨rb, 0, none⟩) h1).trans hc, hl, hc2, fun hn => ?_⟩
  obtain ⟨hg, hne, off, ha, hcells⟩ := hr hn
  exact ⟨Nat.lt_of_lt_of_le hg hs, hne, off, ha, fun j hj => ⟨(World.cell?_of_block (w := w) (a := ⟨g, off + j * 2, none⟩) (h2 hn)).trans (hcells j hj).1, (World.cell?_of_block (w := w) (a := ⟨g, off + j * 2 + 1, none⟩) (h2 hn)).trans (hcells j hj).2⟩⟩
def ansOf (l : List It) : Ans := match l with | [] => ⟨⟨0, 0⟩, false, 0⟩ | x :: _ => ⟨x, true, 0⟩
def RestR (w : World) (rb g : Nat) (a : Ans) (l : List It) (e : Ending) (w' : World) : Prop :=
  e = .returned (.tuple #[.agg #[.int .i64 a.it.key, .int .i64 a.it.who], .bool a.there, .int .i64 a.err]) ∧ RestAt w' rb g l ∧ Moves w (fun b => b = rb) w' (fun b => b = rb)
theorem CellsAt.drewn {w : World} {b : Nat} {vs : List Value} (h : CellsAt w b vs) : CellsAt w.drew b vs := ⟨h.lt, h.cell, h.free⟩
def endW (x1 : World) (pa pb rb : Nat) (xk xw : Int) (V : Value) : World :=
  ((((x1.setCell ⟨pb, 0, none⟩ (.int .i64 xk)).setCell ⟨pb, 1, none⟩ (.int .i64 xw)).setCell ⟨rb, 0, none⟩ V).setCell ⟨pa, 0, none⟩ (.int .i64 xk)).setCell ⟨pa, 1, none⟩ (.int .i64 xw)
theorem endW_size (x1 : World) (pa pb rb : Nat) (xk xw : Int) (V : Value) : (endW x1 pa pb rb xk xw V).heap.size = x1.heap.size := by unfold endW; simp [World.setCell]
theorem endW_free (x1 : World) (pa pb rb : Nat) (xk xw : Int) (V : Value) (c o : Nat) : (endW x1 pa pb rb xk xw V).frozen? ⟨c, o, none⟩ = x1.frozen? ⟨c, o, none⟩ := by
  unfold endW
  rw [World.frozen?_setCell, World.frozen?_setCell, World.frozen?_setCell, World.frozen?_setCell, World.frozen?_setCell]
theorem endW_other (x1 : World) (pa pb rb : Nat) (xk xw : Int) (V : Value) (c o : Nat) (h1 : pa ≠ c) (h2 : pb ≠ c) (h3 : rb ≠ c) : (endW x1 pa pb rb xk xw V).cell? ⟨c, o, none⟩ = x1.cell? ⟨c, o, none⟩ := by
  unfold endW
  rw [World.cell?_setCell_other _ _ _ _ (fun e => h1 (congrArg Addr.block e)), World.cell?_setCell_other _ _ _ _ (fun e => h1 (congrArg Addr.block e)), World.cell?_setCell_other _ _ _ _ (fun e => h3 (congrArg Addr.block e)), World.cell?_setCell_other _ _ _ _ (fun e => h2 (congrArg Addr.block e)), World.cell?_setCell_other _ _ _ _ (fun e => h2 (congrArg Addr.block e))]
theorem endW_rest {x1 : World} {pa pb rb : Nat} {xk xw : Int} {V old : Value} (h1 : pa ≠ rb) (h2 : pb ≠ rb) (hc : x1.cell? ⟨rb, 0, none⟩ = some old) : (endW x1 pa pb rb xk xw V).cell? ⟨rb, 0, none⟩ = some V := by
  unfold endW
  rw [World.cell?_setCell_other _ _ _ _ (fun e => h1 (congrArg Addr.block e)), World.cell?_setCell_other _ _ _ _ (fun e => h1 (congrArg Addr.block e))]
  have h3 : ((x1.setCell ⟨pb, 0, none⟩ (.int .i64 xk)).setCell ⟨pb, 1, none⟩ (.int .i64 xw)).cell? ⟨rb, 0, none⟩ = some old := by
    rw [World.cell?_setCell_other _ _ _ _ (fun e => h2 (congrArg Addr.block e)), World.cell?_setCell_other _ _ _ _ (fun e => h2 (congrArg Addr.block e))]
    exact hc
  exact World.cell?_setCell_same _ _ _ h3
theorem endW_box {x1 : World} {pa pb rb : Nat} {xk xw : Int} {V : Value} (P1 : CellsAt x1 pa [.int .i64 0, .int .i64 0]) (h1 : pb ≠ pa) (h2 : rb ≠ pa) : CellsAt (endW x1 pa pb rb xk xw V) pa [.int .i64 xk, .int .i64 xw] := by
  have a1 := P1.other h1 0 (.int .i64 xk)
  have a2 := a1.other h1 1 (.int .i64 xw)
  have a3 := a2.other h2 0 V
  have a4 := a3.set 0 (.int .i64 xk) (by decide)
  have a5 := a4.set 1 (.int .i64 xw) (by show 1 < 2; omega)
  have e : ([Value.int .i64 0, .int .i64 0].set 0 (.int .i64 xk)).set 1 (.int .i64 xw) = [.int .i64 xk, .int .i64 xw] := rfl
  rw [e] at a5
  exact a5
theorem endW_moves {w x1 : World} {pa pb rb : Nat} {xk xw : Int} {V : Value} (B1 : Below w.heap.size w x1) (ha : w.heap.size ≤ pa) (hb : w.heap.size ≤ pb) : Moves w (fun b => b = rb) (endW x1 pa pb rb xk xw V) (fun b => b = rb) :=
  (((((Moves.below B1 (fun b => b = rb)).setNew (a := ⟨pb, 0, none⟩) hb (.int .i64 xk)).setNew (a := ⟨pb, 1, none⟩) hb (.int .i64 xw)).set (a := ⟨rb, 0, none⟩) rfl V).setNew (a := ⟨pa, 0, none⟩) ha (.int .i64 xk)).setNew (a := ⟨pa, 1, none⟩) ha (.int .i64 xw)
theorem RestAt.drewn {w : World} {rb g : Nat} {l : List It} (h : RestAt w rb g l) : RestAt w.drew rb g l := h.same (Nat.le_refl _) rfl (fun _ => rfl)
theorem of1_end {w x1 : World} {rb g pa pb : Nat} {xk xw : Int} {l : List It} (B1 : Below w.heap.size w x1) (P1 : CellsAt x1 pa [.int .i64 0, .int .i64 0]) (hr : rb < w.heap.size) (rf : x1.frozen? ⟨rb, 0, none⟩ = false) {old : Value} (hc : x1.cell? ⟨rb, 0, none⟩ = some old) (ha : w.heap.size ≤ pa) (hb : w.heap.size ≤ pb)
    (n1 : g ≠ pa) (n2 : g ≠ pb) (n3 : pa ≠ pb) {a : Option Addr} {c : Nat} (hl : l.length ≤ c) (hc2 : c ≤ maxLen) (hg : l ≠ [] → g < x1.heap.size ∧ g ≠ rb ∧ ∃ off, a = some ⟨g, off, none⟩ ∧ ∀ j (hj : j < l.length), x1.cell? ⟨g, off + j * 2, none⟩ = some (.int .i64 (l[j]).key) ∧ x1.cell? ⟨g, off + j * 2 + 1, none⟩ = some (.int .i64 (l[j]).who)) :
    CellsAt (endW x1 pa pb rb xk xw (.slice a l.length c)).drew pa [.int .i64 xk, .int .i64 xw] ∧ RestAt (endW x1 pa pb rb xk xw (.slice a l.length c)).drew rb g l ∧ Moves w (fun b => b = rb) (endW x1 pa pb rb xk xw (.slice a l.length c)).drew (fun b => b = rb) := by
  have nr : pa ≠ rb := by omega
  have nr2 : pb ≠ rb := by omega
  have bs := B1.size
  refine ⟨(endW_box P1 n3.symm nr.symm).drewn, RestAt.drewn ⟨by rw [endW_size]; omega, (endW_free _ _ _ _ _ _ _ _ _).trans rf, a, c, endW_rest nr nr2 hc, hl, hc2, fun hn => ?_⟩, (endW_moves B1 ha hb).drew⟩
  obtain ⟨hgl, hne, off, hao, hcells⟩ := hg hn
  exact ⟨by rw [endW_size]; exact hgl, hne, off, hao, fun j hj => ⟨(endW_other _ _ _ _ _ _ _ _ _ n1.symm n2.symm hne.symm).trans (hcells j hj).1, (endW_other _ _ _ _ _ _ _ _ _ n1.symm n2.symm hne.symm).trans (hcells j hj).2⟩⟩
set_option maxHeartbeats 4000000 in
theorem of1_none {w : World} {rb g : Nat} (h : RestAt w rb g []) : Calls Try.prog 36 #[.pointer (some ⟨rb, 0, none⟩)] w (RestR w rb g (ansOf []) []) := by
  obtain ⟨a, c, hc, hl, hc2, hr⟩ := h.cell
  have lr := h.lt
  have B1 := Lib.hid (((Below.refl w.heap.size w).alloc (Nat.le_refl _) (.cells #[.int .i64 0, .int .i64 0] 28)).alloc (by simp) (.cells #[.int .i64 0, .int .i64 0] 28))
  have P1 := Lib.hid (show CellsAt ((w.alloc (.cells #[.int .i64 0, .int .i64 0] 28)).alloc (.cells #[.int .i64 0, .int .i64 0] 28)) w.heap.size [.int .i64 0, .int .i64 0] from pair_first w _ _ 28 28)
  have Q1 := Lib.hid (show CellsAt ((w.alloc (.cells #[.int .i64 0, .int .i64 0] 28)).alloc (.cells #[.int .i64 0, .int .i64 0] 28)) (w.heap.size + 1) [.int .i64 0, .int .i64 0] from pair_second w _ _ 28 28)
  have H1 := Lib.hid (h.same B1.out.size (B1.out.block _ h.lt) (fun e => absurd rfl e))
  have HL := Lib.hid h.lt
  clear h hr hl
  change w.cell? _ = some (.slice a 0 c) at hc
  go_enter Try.func36, Try.ntmps36
  go_upto_region 2 with fail
  clear hc lr
  generalize (w.alloc (.cells #[.int .i64 0, .int .i64 0] 28)).alloc (.cells #[.int .i64 0, .int .i64 0] 28) = x1 at B1 P1 Q1 H1 ⊢
  obtain ⟨a', c', hc, hl, hc2', hr⟩ := H1.out.cell
  change x1.cell? _ = some (.slice a' 0 c') at hc
  have lr := H1.out.lt
  have p0 := P1.out.cell 0 _ rfl
  have p1 := P1.out.cell 1 _ rfl
  have pf0 := P1.out.free 0
  have pf1 := P1.out.free 1
  have lp := P1.out.lt
  have q0 := Q1.out.cell 0 _ rfl
  have q1 := Q1.out.cell 1 _ rfl
  have lq := Q1.out.lt
  go_wp2_with fail
  have E := Lib.hid ((P1.out.set 0 (.int .i64 0) (by simp)).set 1 (.int .i64 0) (by simp))
  have E0 := E.out.cell 0 _ rfl
  have E1 := E.out.cell 1 _ rfl
  have M1 := Lib.hid (((Moves.below B1.out (fun b => b = rb)).setNew (a := ⟨w.heap.size, 0, none⟩) (Nat.le_refl _) (.int .i64 0)).setNew (a := ⟨w.heap.size, 1, none⟩) (Nat.le_refl _) (.int .i64 0))
  have F1 := Lib.hid (show RestAt ((x1.setCell ⟨w.heap.size, 0, none⟩ (.int .i64 0)).setCell ⟨w.heap.size, 1, none⟩ (.int .i64 0)) rb g [] from H1.out.same (by simp [World.setCell]) ((Below.heap_setCell _ _ _ _ (by have := HL.out; show rb ≠ w.heap.size; omega)).trans (Below.heap_setCell _ _ _ _ (by have := HL.out; show rb ≠ w.heap.size; omega))) (fun e => absurd rfl e))
  exact bodyPost_ret (v := .tuple #[.agg #[.int .i64 0, .int .i64 0], .bool false, .int .i64 0]) (by simp [results, Try.results36, go_sem, E0, E1]) rfl ⟨rfl, F1.out, M1.out⟩
set_option maxHeartbeats 4000000 in
theorem of1_some {w : World} {rb g : Nat} {xk xw : Int} {l : List It} (h : RestAt w rb g (⟨xk, xw⟩ :: l)) : Calls Try.prog 36 #[.pointer (some ⟨rb, 0, none⟩)] w (RestR w rb g (ansOf (⟨xk, xw⟩ :: l)) l) := by
  have B1 := Lib.hid (((Below.refl w.heap.size w).alloc (Nat.le_refl _) (.cells #[.int .i64 0, .int .i64 0] 28)).alloc (by simp) (.cells #[.int .i64 0, .int .i64 0] 28))
  have P1 := Lib.hid (show CellsAt ((w.alloc (.cells #[.int .i64 0, .int .i64 0] 28)).alloc (.cells #[.int .i64 0, .int .i64 0] 28)) w.heap.size [.int .i64 0, .int .i64 0] from pair_first w _ _ 28 28)
  have Q1 := Lib.hid (show CellsAt ((w.alloc (.cells #[.int .i64 0, .int .i64 0] 28)).alloc (.cells #[.int .i64 0, .int .i64 0] 28)) (w.heap.size + 1) [.int .i64 0, .int .i64 0] from pair_second w _ _ 28 28)
  have hg0 : g < w.heap.size := by
    obtain ⟨a, c, hc, hl, hc2, hr⟩ := h.cell
    exact (hr (by simp)).1
  have H1 := Lib.hid (h.same B1.out.size (B1.out.block _ h.lt) (fun _ => B1.out.block _ hg0))
  have NE := Lib.hid (show rb ≠ w.heap.size ∧ rb ≠ w.heap.size + 1 ∧ g ≠ w.heap.size ∧ g ≠ w.heap.size + 1 ∧ w.heap.size ≠ w.heap.size + 1 by have := h.lt; omega)
  obtain ⟨a0, c0, hc0, hl0, hc20, hr0⟩ := h.cell
  have lr0 := h.lt
  have LR0 := Lib.hid lr0
  have tn0 : ((l.length : Int) + 1 == 0) = false := by simp; omega
  clear h hr0 hg0 hl0 hc20
  go_enter Try.func36, Try.ntmps36
  go_upto_region 2 with fail
  clear hc0 lr0
  generalize (w.alloc (.cells #[.int .i64 0, .int .i64 0] 28)).alloc (.cells #[.int .i64 0, .int .i64 0] 28) = x1 at B1 P1 Q1 H1 ⊢
  obtain ⟨a, c, hc, hl, hc2, hr⟩ := H1.out.cell
  obtain ⟨hg, hne, off, rfl, hcells⟩ := hr (by simp)
  have k0 := (hcells 0 (by simp)).1
  have k1 := (hcells 0 (by simp)).2
  simp only [Nat.zero_mul, Nat.add_zero, List.getElem_cons_zero, List.length_cons] at k0 k1 hc hl
  obtain ⟨n, hn⟩ : ∃ n, n = l.length := ⟨_, rfl⟩
  rw [← hn] at hc hl
  have HN := Lib.hid hn
  have HL := Lib.hid hl
  have HC2 := Lib.hid hc2
  have HCE := Lib.hid hcells
  clear hn hr hcells
  have tn : (((n + 1 : Nat) : Int) == 0) = false := by simp; omega
  have i1 : (1 : Int) ≤ ((n + 1 : Nat) : Int) := by omega
  have i0 : (0 : Int) < ((n + 1 : Nat) : Int) := by omega
  have lr := H1.out.lt
  have rf := H1.out.free
  have p0 := P1.out.cell 0 _ rfl
  have p1 := P1.out.cell 1 _ rfl
  have pf0 := P1.out.free 0
  have pf1 := P1.out.free 1
  have lp := P1.out.lt
  have q0 := Q1.out.cell 0 _ rfl
  have q1 := Q1.out.cell 1 _ rfl
  have qf0 := Q1.out.free 0
  have qf1 := Q1.out.free 1
  have lq := Q1.out.lt
  have e1 := NE.out.1
  have e1' := NE.out.1.symm
  have e2 := NE.out.2.1
  have e2' := NE.out.2.1.symm
  have e3 := NE.out.2.2.1
  have e3' := NE.out.2.2.1.symm
  have e4 := NE.out.2.2.2.1
  have e4' := NE.out.2.2.2.1.symm
  have e5 := NE.out.2.2.2.2
  have e5' := NE.out.2.2.2.2.symm
  have hne' := hne.symm
  have MB := Lib.hid (Nat.le_refl w.heap.size)
  generalize hpb : w.heap.size + 1 = pb at *
  have HPB := Lib.hid (show w.heap.size ≤ pb by omega)
  clear hpb
  by_cases h1 : c = 1
  · subst h1
    obtain rfl : n = 0 := by omega
    obtain rfl : l = [] := List.length_eq_zero_iff.1 HN.out.symm
    go_upto_region 4 with fail
    go_region
    go_wp2_with fail
    have FIN := Lib.hid (of1_end (xk := xk) (xw := xw) (l := []) (a := some ⟨g, off, none⟩) (c := 0) B1.out P1.out LR0.out rf hc MB.out HPB.out e3 e4 e5 (Nat.le_refl _) (Nat.zero_le _) (fun h => absurd rfl h))
    change Hid (CellsAt (endW x1 w.heap.size pb rb xk xw (.slice (some ⟨g, off, none⟩) 0 0)).drew _ _ ∧ _) at FIN
    unfold endW at FIN
    clear k0 k1 tn i1 i0 lr rf p0 p1 pf0 pf1 lp q0 q1 qf0 qf1 lq hc B1 P1 Q1 H1 e1 e1' e2 e2' e3 e3' e4 e4' e5 e5'
    generalize (((((x1.setCell ⟨pb, 0, none⟩ (.int .i64 xk)).setCell ⟨pb, 1, none⟩ (.int .i64 xw)).setCell ⟨rb, 0, none⟩ (.slice (some ⟨g, off, none⟩) 0 0)).setCell ⟨w.heap.size, 0, none⟩ (.int .i64 xk)).setCell ⟨w.heap.size, 1, none⟩ (.int .i64 xw)).drew = x2 at FIN ⊢
    have E0 := FIN.out.1.cell 0 _ rfl
    have E1 := FIN.out.1.cell 1 _ rfl
    exact bodyPost_ret (v := .tuple #[.agg #[.int .i64 xk, .int .i64 xw], .bool true, .int .i64 0]) (by simp [results, Try.results36, go_sem, E0, E1]) rfl ⟨rfl, FIN.out.2⟩
  · have h1' : ¬ (c : Int) = 1 := by omega
    go_upto_region 4 with fail
    go_region
    go_wp2_with fail
    have FIN := Lib.hid (of1_end (xk := xk) (xw := xw) (l := l) (a := some ⟨g, off + 2, none⟩) (c := c - 1) B1.out P1.out LR0.out rf hc MB.out HPB.out e3 e4 e5 (by have := HN.out; have := HL.out; omega) (Nat.le_trans (Nat.sub_le _ _) HC2.out) (fun h => ⟨hg, hne, off + 2, rfl, fun j hj => by
      have q := HCE.out (j + 1) (by simpa using hj)
      rw [show off + (j + 1) * 2 = off + 2 + j * 2 by omega] at q
      exact q⟩))
    rw [← HN.out] at FIN
    unfold endW at FIN
    clear k0 k1 tn i1 i0 lr rf p0 p1 pf0 pf1 lp q0 q1 qf0 qf1 lq hc B1 P1 Q1 H1 e1 e1' e2 e2' e3 e3' e4 e4' e5 e5'
    generalize (((((x1.setCell ⟨pb, 0, none⟩ (.int .i64 xk)).setCell ⟨pb, 1, none⟩ (.int .i64 xw)).setCell ⟨rb, 0, none⟩ (.slice (some ⟨g, off + 2, none⟩) n (c - 1))).setCell ⟨w.heap.size, 0, none⟩ (.int .i64 xk)).setCell ⟨w.heap.size, 1, none⟩ (.int .i64 xw)).drew = x2 at FIN ⊢
    have E0 := FIN.out.1.cell 0 _ rfl
    have E1 := FIN.out.1.cell 1 _ rfl
    exact bodyPost_ret (v := .tuple #[.agg #[.int .i64 xk, .int .i64 xw], .bool true, .int .i64 0]) (by simp [results, Try.results36, go_sem, E0, E1]) rfl ⟨rfl, FIN.out.2⟩
theorem of1_ok {w : World} {rb g : Nat} {l : List It} (h : RestAt w rb g l) : Calls Try.prog 36 #[.pointer (some ⟨rb, 0, none⟩)] w (RestR w rb g (ansOf l) l.tail) := by
  rcases l with _ | ⟨⟨xk, xw⟩, l⟩
  · exact of1_none h
  · exact of1_some h
/-- Elements that stand somewhere. -/
def itC (x : It) : List Value := [.int .i64 x.key, .int .i64 x.who]
def itV (T : List It) : List Value := T.flatMap itC
theorem itV_len (T : List It) : (itV T).length = T.length * 2 := by
  unfold itV
  induction T with
  | nil => rfl
  | cons k r ih => rw [List.flatMap_cons, List.length_append, ih, List.length_cons]; show 2 + _ = _; omega
theorem itV_at : ∀ (T : List It) (i j : Nat), j < 2 → (hi : i < T.length) → (itV T)[i * 2 + j]? = (itC T[i])[j]?
  | [], i, _, _, hi => by simp at hi
  | x :: r, 0, j, hj, hi => by
    show (itC x ++ itV r)[0 * 2 + j]? = _
    rw [List.getElem?_append_left (by show 0 * 2 + j < 2; omega)]
    simp
  | x :: r, i + 1, j, hj, hi => by
    show (itC x ++ itV r)[(i + 1) * 2 + j]? = _
    rw [List.getElem?_append_right (by show 2 ≤ (i + 1) * 2 + j; omega)]
    rw [show (i + 1) * 2 + j - (itC x).length = i * 2 + j by show (i + 1) * 2 + j - 2 = _; omega]
    rw [itV_at r i j hj (by simpa using hi)]
    simp
theorem itV_one (T : List It) : ∀ u ∈ itV T, u.oneCell' = true := by
  intro u hu
  obtain ⟨x, _, hx⟩ := List.mem_flatMap.1 hu
  unfold itC at hx
  simp only [List.mem_cons, List.mem_nil_iff, or_false] at hx
  rcases hx with rfl | rfl <;> rfl
/-- A slice of elements: nil, or somewhere. -/
structure ItsAt (w : World) (v : Value) (l : List It) : Prop where
  form : ∃ a c, v = .slice a l.length c ∧ l.length ≤ c ∧ (a = none → c = 0)
  cell : ∀ ad n c, v = .slice (some ad) n c → ∀ j u, (itV l)[j]? = some u → w.cell? (ad.add j) = some u
theorem block_of_cell {w : World} {a : Addr} {u : Value} (h : w.cell? a = some u) : a.block < w.heap.size := by
  rcases Nat.lt_or_ge a.block w.heap.size with k | k
  · exact k
  · have : w.cell? a = none := by unfold World.cell?; rw [Array.getElem?_eq_none k]
    rw [this] at h; cases h
theorem ItsAt.below {w w' : World} {v : Value} {l : List It} (h : ItsAt w v l) (k : Below w.heap.size w w') : ItsAt w' v l :=
  ⟨h.form, fun ad n c e j u hu => (k.cell (block_of_cell (h.cell ad n c e j u hu))).trans (h.cell ad n c e j u hu)⟩
/-- A whole block that is no row of sources. -/
def NotSrc (w : World) (b : Nat) : Prop := ∃ cs t, t ≠ 25 ∧ w.heap[b]? = some (.cells cs t (0, 0))
theorem NotSrc.below {w w' : World} {b : Nat} (h : NotSrc w b) (k : Below w.heap.size w w') : NotSrc w' b := by
  obtain ⟨cs, t, ht, h⟩ := h
  exact ⟨cs, t, ht, (k.block b (lt_of_heap h)).trans h⟩
def OfR (w : World) (l : List It) (e : Ending) (w' : World) : Prop :=
  ∃ rb g, e = .returned (.func (.func 36) #[] #[.pointer (some ⟨rb, 0, none⟩)]) ∧ RestAt w' rb g l ∧ w.heap.size ≤ rb ∧ w.heap.size ≤ g ∧ g < w'.heap.size ∧ NotSrc w' rb ∧ NotSrc w' g ∧ Below w.heap.size w w'
theorem rest_of_own {w : World} {B : Nat} {v : Value} {l : List It} (h : w.ownsRow B 28 2 v l.length (itV l)) (hB : B ≤ w.heap.size) : ∃ g, B ≤ g ∧ g < (w.alloc (.cells #[v] 29)).heap.size ∧ NotSrc (w.alloc (.cells #[v] 29)) g ∧ RestAt (w.alloc (.cells #[v] 29)) w.heap.size g l := by
  have hx := CellsAt.new w [v] 29
  rcases h.2 with ⟨hv, h0⟩ | ⟨g, cap, cur, hv, hb, hg, hc, hm, rest⟩
  · refine ⟨w.heap.size, hB, hx.lt, ⟨_, 29, by decide, heap_new w _⟩, hx.lt, hx.free 0, none, 0, ?_, by omega, Nat.zero_le _, fun hn => absurd (List.length_eq_zero_iff.1 h0) hn⟩
    rw [hx.cell 0 v rfl, hv, h0]
  · have gl := lt_of_heap hg
    refine ⟨g, hb, Nat.lt_of_lt_of_le gl (by simp), ⟨cur, 28, by decide, ((below_alloc w _).block g gl).trans hg⟩, hx.lt, hx.free 0, some ⟨g, 0, none⟩, cap, ?_, hc, hm, fun hn => ⟨Nat.lt_of_lt_of_le gl (by simp), by omega, 0, rfl, fun j hj => ?_⟩⟩
    · rw [hx.cell 0 v rfl, hv]
    · subst hv
      have a0 := h.cellAt (j * 2) (by omega)
      have a1 := h.cellAt (j * 2 + 1) (by omega)
      rw [show j * 2 = j * 2 + 0 by omega, itV_at l j 0 (by omega) hj] at a0
      rw [itV_at l j 1 (by omega) hj] at a1
      have k := below_alloc w (.cells #[Value.slice (some ⟨g, 0, none⟩) l.length cap] 29)
      rw [Nat.zero_add]
      exact ⟨(k.cell (p := ⟨g, j * 2, none⟩) gl).trans a0, (k.cell (p := ⟨g, j * 2 + 1, none⟩) gl).trans a1⟩
set_option maxHeartbeats 1600000 in
theorem of_ok {w : World} {v : Value} {l : List It} (h : ItsAt w v l) (hl : l.length ≤ 1048576) : Calls Try.prog 11 #[v] w (OfR w l) := by
  have hmf : ∀ (fn : Fn) (first cap : Array Value) (w : World), (Instr.makeFunc fn first cap).run Try.prog w = .ok (.func fn first cap) w := fun _ _ _ _ => rfl
  have CL := Lib.hid (show Calls Try.prog 35 #[v] w (CloneR 28 2 w l.length (itV l)) from by
    obtain ⟨a, c, hv, h1, h3⟩ := h.form
    cases a with
    | none =>
      have hc := h3 rfl
      subst hc
      have h0 : l = [] := List.length_eq_zero_iff.1 (by omega)
      subst h0
      rw [hv]
      exact clone_it_nil w
    | some ad => rw [hv]; exact clone_it w ad _ c (itV l) (itV_len l) (h.cell ad _ c hv) (itV_one l) (by omega))
  clear h
  go_enter Try.func11, Try.ntmps11
  go_wp2_with fail
  refine CL.out.mono ?_
  rintro e w1 ⟨v1, rfl, ho, hb⟩
  have HO := Lib.hid ho
  have HB := Lib.hid hb
  obtain ⟨a1, c1, rfl⟩ : ∃ a c, v1 = .slice a l.length c := by
    rcases ho.2 with ⟨h, h0⟩ | ⟨_, _, _, h, _⟩
    · exact ⟨none, 0, by rw [h, h0]⟩
    · exact ⟨_, _, h⟩
  obtain ⟨g, hg, hgl, hgn, hr⟩ := rest_of_own ho (by have := hb.size; omega)
  have HR := Lib.hid hr
  have HG := Lib.hid hg
  have HGL := Lib.hid hgl
  have HGN := Lib.hid hgn
  have HRN := Lib.hid (show NotSrc (w1.alloc (.cells #[.slice a1 l.length c1] 29)) w1.heap.size from ⟨_, 29, by decide, heap_new w1 _⟩)
  have B2 := Lib.hid (hb.alloc hb.size (.cells #[.slice a1 l.length c1] 29))
  have HZ := Lib.hid hb.size
  clear ho hb hr hg hgl hgn HO HB
  go_wp2_with fail
  go_ret
  exact ⟨w1.heap.size, g, rfl, HR.out, HZ.out, HG.out, HGL.out, HRN.out, HGN.out, B2.out⟩
end Go.Proofs.Ytjlcbhblpofjhaa
