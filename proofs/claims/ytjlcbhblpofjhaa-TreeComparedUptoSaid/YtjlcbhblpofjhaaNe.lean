/- The tree of losers: New. -/
import Derived.Test.YtjlcbhblpofjhaaCl
namespace Go.Proofs.Ytjlcbhblpofjhaa
open Go.RowKit
set_option maxRecDepth 100000
def srcV (n : Nat) (sF : Nat → Nat) (sC : Nat → Array Value) : List Value := (List.range n).map fun i => .func (.func (sF i)) #[] (sC i)
theorem srcV_len (n : Nat) (sF : Nat → Nat) (sC : Nat → Array Value) : (srcV n sF sC).length = n := by unfold srcV; simp
theorem srcV_at {n : Nat} {sF : Nat → Nat} {sC : Nat → Array Value} {i : Nat} (h : i < n) : (srcV n sF sC)[i]? = some (.func (.func (sF i)) #[] (sC i)) := by
  unfold srcV
  rw [List.getElem?_map, List.getElem?_range h]
  rfl
theorem srcV_one (n : Nat) (sF : Nat → Nat) (sC : Nat → Array Value) : ∀ u ∈ srcV n sF sC, u.oneCell' = true := by
  intro u hu
  obtain ⟨i, _, rfl⟩ := List.mem_map.1 hu
  rfl
/-- A tree's beginning. -/
def T0 {σ : Type} (n : Nat) (s : σ) : TS σ := ⟨fun _ => none, fun _ => 0, 0, false, 0, n, 0, s⟩
def NewR {σ : Type} (E : Env σ) (n : Nat) (w : World) (Y : Nat → Prop) (s : σ) (e : Ending) (w' : World) : Prop :=
  ∃ G : Geo, G.k = n ∧ e = .returned (.tuple #[.pointer (some ⟨G.t, 0, none⟩), .int .i64 0]) ∧ w.heap.size ≤ G.t ∧ w.heap.size ≤ G.hb ∧ w.heap.size ≤ G.lb ∧ TreeAt E G false w' Y (T0 n s) ∧ Below w.heap.size w w'
theorem own_form {W : World} {B n : Nat} {v : Value} {xs : List Value} (h0 : 0 < n) (h : W.ownsRow B 25 1 v n xs) : ∃ g sc, v = .slice (some ⟨g, 0, none⟩) n sc := by
  rcases h.2 with ⟨_, h⟩ | ⟨g, cap, cur, hv, _⟩
  · omega
  · exact ⟨g, cap, hv⟩
theorem own_below {w w' : World} {B sz n : Nat} {e : TypeId} {v : Value} {xs : List Value} (h : w.ownsRow B e sz v n xs) (k : Below w.heap.size w w') : w'.ownsRow B e sz v n xs := by
  refine ⟨h.1, ?_⟩
  rcases h.2 with hn | ⟨g, cap, cur, hv, hb, hg, rest⟩
  · exact .inl hn
  · exact .inr ⟨g, cap, cur, hv, hb, (k.block g (lt_of_heap hg)).trans hg, rest⟩
theorem own_mono {w : World} {B B' sz n : Nat} {e : TypeId} {v : Value} {xs : List Value} (h : w.ownsRow B e sz v n xs) (k : B' ≤ B) : w.ownsRow B' e sz v n xs := by
  refine ⟨h.1, ?_⟩
  rcases h.2 with hn | ⟨g, cap, cur, hv, hb, rest⟩
  · exact .inl hn
  · exact .inr ⟨g, cap, cur, hv, Nat.le_trans k hb, rest⟩
theorem own_in {w : World} {B sz n g sc : Nat} {e : TypeId} {xs : List Value} (h : w.ownsRow B e sz (.slice (some ⟨g, 0, none⟩) n sc) n xs) : B ≤ g ∧ g < w.heap.size := by
  rcases h.2 with ⟨h, _⟩ | ⟨g', cap, cur, hv, hb, hg, _⟩
  · cases h
  · injection hv with h1
    injection h1 with h1
    injection h1 with h1
    subst h1
    exact ⟨hb, lt_of_heap hg⟩
/-- What has been made, put together. -/
theorem new_made {σ : Type} {E : Env σ} {n : Nat} (ok : E.Ok n) {w x : World} {Y : Nat → Prop} {s : σ} (hS : E.S w Y s) (b : Below w.heap.size w x) (h0 : 0 < n) (h64 : n ≤ 64) {t hb lb g sc hc lc : Nat}
    (ow : x.ownsRow w.heap.size 25 1 (.slice (some ⟨g, 0, none⟩) n sc) n (srcV n E.sF E.sC)) (hh : x.heap[hb]? = some (.cells (madeCells #[.int .i64 0, .int .i64 0, .bool false] (n * 3)) 89 (0, 0))) (hl : x.heap[lb]? = some (.cells (madeCells #[.int .i64 0] n) 3 (0, 0)))
    (ht : CellsAt x t (treeC E ⟨t, hb, lb, g, hc, lc, sc, n⟩ false (T0 n s))) (g1 : w.heap.size ≤ hb) (g2 : w.heap.size ≤ lb) (g3 : w.heap.size ≤ t) (n1 : t ≠ hb) (n2 : t ≠ lb) (n3 : hb ≠ lb) (n4 : g ≠ t) (n5 : g ≠ hb) (n6 : g ≠ lb) :
    TreeAt E ⟨t, hb, lb, g, hc, lc, sc, n⟩ false x Y (T0 n s) := by
  have low := ok.low _ _ _ hS
  have gB : w.heap.size ≤ g := by
    rcases ow.2 with ⟨h, _⟩ | ⟨g', cap, cur, hv, hb, _⟩
    · cases h
    · injection hv with h1; injection h1 with h1; injection h1 with h1; omega
  have gl : g < x.heap.size := by
    rcases ow.2 with ⟨h, _⟩ | ⟨g', cap, cur, hv, hb, hg, _⟩
    · cases h
    · injection hv with h1; injection h1 with h1; injection h1 with h1; subst h1; exact lt_of_heap hg
  have mh : ∀ j, j < n * 3 → (madeCells #[.int .i64 0, .int .i64 0, .bool false] (n * 3))[j]? = some (#[Value.int .i64 0, .int .i64 0, .bool false][j % 3]!) := fun j hj => made_at _ _ _ hj
  have ml : ∀ j, j < n → (madeCells #[.int .i64 0] n)[j]? = some (#[Value.int .i64 0][j % 1]!) := fun j hj => made_at _ _ _ hj
  refine ⟨ok.stable _ _ _ _ hS b.size fun c hc => b.block c (low c hc), ⟨h0, h64, n1, n2, n3, n4, n5, n6⟩, fun h => by have := low t h; omega, fun h => by have := low hb h; omega, fun h => by have := low lb h; omega, fun h => by have := low g h; omega,
    ht, lt_of_heap hh, fun j => ?_, fun i hi => ?_, fun i hi => ?_, fun i hi => ?_, lt_of_heap hl, fun j => ?_, fun i hi => ?_, gl, fun i hi => ?_, fun i hi => h0, h0⟩
  · show x.frozen? ⟨hb, j, none⟩ = false
    unfold World.frozen?; rw [hh]; simp
  · show x.cell? ⟨hb, i * 3, none⟩ = _
    have hi' : i < n := hi
    rw [cell_of_row x hb _ _ 89 (0, 0) hh, mh _ (by omega), show (i * 3) % 3 = 0 by omega]; rfl
  · show x.cell? ⟨hb, i * 3 + 1, none⟩ = _
    have hi' : i < n := hi
    rw [cell_of_row x hb _ _ 89 (0, 0) hh, mh _ (by omega), show (i * 3 + 1) % 3 = 1 by omega]; rfl
  · show x.cell? ⟨hb, i * 3 + 2, none⟩ = _
    have hi' : i < n := hi
    rw [cell_of_row x hb _ _ 89 (0, 0) hh, mh _ (by omega), show (i * 3 + 2) % 3 = 2 by omega]; rfl
  · show x.frozen? ⟨lb, j, none⟩ = false
    unfold World.frozen?; rw [hl]; simp
  · show x.cell? ⟨lb, i, none⟩ = _
    have hi' : i < n := hi
    rw [cell_of_row x lb _ _ 3 (0, 0) hl, ml _ hi', show i % 1 = 0 by omega]; rfl
  · have hi' : i < n := hi
    have := ow.cellAt i (by omega)
    rw [srcV_at hi'] at this
    exact this
set_option maxHeartbeats 4000000 in
theorem new_ok {σ : Type} {E : Env σ} {n : Nat} (ok : E.Ok n) {w : World} {Y : Nat → Prop} {s : σ} {v : Value} (hS : E.S w Y s) (hv : SrcRow w v n E.sF E.sC) (h0 : 0 < n) (h64 : n ≤ 64) :
    Calls Try.prog 12 #[.func (.func E.oF) #[] E.oC, v] w (NewR E n w Y s) := by
  have hrun : ∀ w, Sem.run Try.prog (binOp BinOp.eql 34 (Value.func (.func E.oF) #[] E.oC) Value.nilFunc) w = .ok (.bool false) w := fun _ => by kernel_rfl
  have mkH := make_hands n h64
  have mkL := make_losers n h64
  have CON := Lib.hid (contains_ok hv (by omega))
  obtain ⟨a, c, rfl, hb⟩ := hv.form
  obtain ⟨b0, rfl⟩ := hb h0
  have CL := Lib.hid (fun (W : World) (k : Below w.heap.size w W) => clone_src W ⟨b0, 0, none⟩ n c (srcV n E.sF E.sC) (srcV_len _ _ _) (fun j u hu => by
    have hj : j < n := by
      rcases Nat.lt_or_ge j n with q | q
      · exact q
      · rw [List.getElem?_eq_none (by rw [srcV_len]; exact q)] at hu; cases hu
    rw [srcV_at hj] at hu
    cases hu
    rw [add_plain, Nat.zero_add]
    exact ((bcell k).1 b0 j (hv.lt b0 n c rfl h0)).trans (hv.cell b0 n c rfl j hj)) (srcV_one _ _ _) (by omega))
  have t1 : decide ((64 : Int) < (n : Int)) = false := decide_eq_false (by omega)
  have t1n : decide (64 < n) = false := decide_eq_false (by omega)
  have OK := Lib.hid ok
  have HS := Lib.hid hS
  have H0 := Lib.hid h0
  have H64 := Lib.hid h64
  clear ok hS h0 hv hb
  go_enter Try.func12, Try.ntmps12
  go_wp2_with fail
  refine CON.out.mono ?_
  rintro e w' ⟨rfl, rfl⟩
  go_upto_region 7 with fail
  obtain ⟨HO, hHO⟩ : ∃ o, o = Obj.cells (madeCells #[.int .i64 0, .int .i64 0, .bool false] (n * 3)) 89 (0, 0) := ⟨_, rfl⟩
  obtain ⟨LO, hLO⟩ : ∃ o, o = Obj.cells (madeCells #[.int .i64 0] n) 3 (0, 0) := ⟨_, rfl⟩
  rw [← hHO] at mkH
  rw [← hLO] at mkL
  have HHO := Lib.hid hHO
  have HLO := Lib.hid hLO
  clear hHO hLO
  have C1 := Lib.hid (CL.out w.drew (Below.refl _ _).drew)
  have C2 := Lib.hid (CL.out (w.alloc HO).drew (below_alloc w HO).drew)
  have C3 := Lib.hid (CL.out (w.alloc LO).drew (below_alloc w LO).drew)
  have C4 := Lib.hid (CL.out ((w.alloc HO).alloc LO).drew ((below_alloc w HO).alloc (by simp) LO).drew)
  have C5 := Lib.hid (CL.out ((w.alloc LO).alloc HO).drew ((below_alloc w LO).alloc (by simp) HO).drew)
  go_region_held3 (fun _ => True) (trivial)
    (first | (go_at_call 39; refine C1.out.mono ?_; rintro e w1 ⟨v1, rfl, ho1, hb1⟩; obtain ⟨g, sc, rfl⟩ := own_form H0.out ho1) | (go_at_call 39; refine C2.out.mono ?_; rintro e w1 ⟨v1, rfl, ho1, hb1⟩; obtain ⟨g, sc, rfl⟩ := own_form H0.out ho1) | (go_at_call 39; refine C3.out.mono ?_; rintro e w1 ⟨v1, rfl, ho1, hb1⟩; obtain ⟨g, sc, rfl⟩ := own_form H0.out ho1) | (go_at_call 39; refine C4.out.mono ?_; rintro e w1 ⟨v1, rfl, ho1, hb1⟩; obtain ⟨g, sc, rfl⟩ := own_form H0.out ho1) | (go_at_call 39; refine C5.out.mono ?_; rintro e w1 ⟨v1, rfl, ho1, hb1⟩; obtain ⟨g, sc, rfl⟩ := own_form H0.out ho1))
  · have zb : w.drew.heap.size = w.heap.size := rfl
    have z1 : ((w1.alloc HO).alloc LO).heap.size = w1.heap.size + 1 + 1 := by simp
    rw [zb] at ho1 hb1
    have gi := own_in ho1
    have b0 := (Below.refl w.heap.size w).drew
    have bw1 : Below w.heap.size w w1 := b0.trans (hb1.mono (by omega))
    have sz1 := hb1.size
    rw [zb] at sz1
    have bp : Below w1.heap.size w1 ((w1.alloc HO).alloc LO) := (((Below.refl w1.heap.size w1).alloc (by simp) HO).alloc (by simp <;> omega) LO)
    have bt := below_alloc ((w1.alloc HO).alloc LO) (.cells [.func (.func E.oF) #[] E.oC, .slice (some ⟨g, 0, none⟩) n sc, .slice (some ⟨w1.heap.size, 0, none⟩) n n, .slice (some ⟨w1.heap.size + 1, 0, none⟩) n n, .int .i64 0, .bool false, .int .i64 0, .int .i64 (n : Int), .bool false, .int .i64 0, .int .i64 0, .int .i64 0].toArray 80)
    have bx : Below w.heap.size w (((w1.alloc HO).alloc LO).alloc (.cells [.func (.func E.oF) #[] E.oC, .slice (some ⟨g, 0, none⟩) n sc, .slice (some ⟨w1.heap.size, 0, none⟩) n n, .slice (some ⟨w1.heap.size + 1, 0, none⟩) n n, .int .i64 0, .bool false, .int .i64 0, .int .i64 (n : Int), .bool false, .int .i64 0, .int .i64 0, .int .i64 0].toArray 80)) := (bw1.trans (bp.mono bw1.size)).trans (bt.mono (by rw [z1]; have := bw1.size; omega))
    have ow := own_mono (own_below (own_below ho1 bp) bt) (show w.heap.size ≤ _ by omega)
    have hh2 : ((w1.alloc HO).alloc LO).heap[w1.heap.size]? = some HO := by
      have q := heap_new w1 HO
      exact (Below.heap_alloc (w1.alloc HO) LO (w1.heap.size) (by simp)).trans q
    have hh := ((bt.block _ (by rw [z1]; omega)).trans hh2).trans (congrArg some HHO.out)
    have hl2 : ((w1.alloc HO).alloc LO).heap[w1.heap.size + 1]? = some LO := by
      have q := heap_new (w1.alloc HO) LO
      rw [show (w1.alloc HO).heap.size = w1.heap.size + 1 by simp] at q
      exact q
    have hl := ((bt.block _ (by rw [z1]; omega)).trans hl2).trans (congrArg some HLO.out)
    have ct := CellsAt.new ((w1.alloc HO).alloc LO) [.func (.func E.oF) #[] E.oC, .slice (some ⟨g, 0, none⟩) n sc, .slice (some ⟨w1.heap.size, 0, none⟩) n n, .slice (some ⟨w1.heap.size + 1, 0, none⟩) n n, .int .i64 0, .bool false, .int .i64 0, .int .i64 (n : Int), .bool false, .int .i64 0, .int .i64 0, .int .i64 0] 80
    rw [z1] at ct
    have TT := Lib.hid (new_made OK.out HS.out bx H0.out H64.out (t := w1.heap.size + 1 + 1) (hb := w1.heap.size) (lb := w1.heap.size + 1) (g := g) (sc := sc) (hc := n) (lc := n) ow hh hl ct (by omega) (by omega) (by omega) (by omega) (by omega) (by omega) (by omega) (by omega) (by omega))
    have BX := Lib.hid bx
    have GT := Lib.hid (show w.heap.size ≤ w1.heap.size + 1 + 1 ∧ w.heap.size ≤ w1.heap.size ∧ w.heap.size ≤ w1.heap.size + 1 by omega)
    clear ct hh hl ow bx bt bp bw1 b0 gi ho1 hb1 z1 zb sz1 mkH mkL hh2 hl2
    change Hid (TreeAt E _ false (((w1.alloc HO).alloc LO).alloc (.cells #[.func (.func E.oF) #[] E.oC, .slice (some ⟨g, 0, none⟩) n sc, .slice (some ⟨w1.heap.size, 0, none⟩) n n, .slice (some ⟨w1.heap.size + 1, 0, none⟩) n n, .int .i64 0, .bool false, .int .i64 0, .int .i64 (n : Int), .bool false, .int .i64 0, .int .i64 0, .int .i64 0] 80)) Y (T0 n s)) at TT
    change Hid (Below w.heap.size w (((w1.alloc HO).alloc LO).alloc (.cells #[.func (.func E.oF) #[] E.oC, .slice (some ⟨g, 0, none⟩) n sc, .slice (some ⟨w1.heap.size, 0, none⟩) n n, .slice (some ⟨w1.heap.size + 1, 0, none⟩) n n, .int .i64 0, .bool false, .int .i64 0, .int .i64 (n : Int), .bool false, .int .i64 0, .int .i64 0, .int .i64 0] 80))) at BX
    generalize ((w1.alloc HO).alloc LO).alloc (.cells #[.func (.func E.oF) #[] E.oC, .slice (some ⟨g, 0, none⟩) n sc, .slice (some ⟨w1.heap.size, 0, none⟩) n n, .slice (some ⟨w1.heap.size + 1, 0, none⟩) n n, .int .i64 0, .bool false, .int .i64 0, .int .i64 (n : Int), .bool false, .int .i64 0, .int .i64 0, .int .i64 0] 80) = x at TT BX ⊢
    go_wp2_with fail
    go_ret2
    exact ⟨⟨w1.heap.size + 1 + 1, w1.heap.size, w1.heap.size + 1, g, n, n, sc, n⟩, rfl, rfl, GT.out.1, GT.out.2.1, GT.out.2.2, TT.out, BX.out⟩
  · have zb : w.drew.heap.size = w.heap.size := rfl
    have z1 : ((w1.alloc LO).alloc HO).heap.size = w1.heap.size + 1 + 1 := by simp
    rw [zb] at ho1 hb1
    have gi := own_in ho1
    have b0 := (Below.refl w.heap.size w).drew
    have bw1 : Below w.heap.size w w1 := b0.trans (hb1.mono (by omega))
    have sz1 := hb1.size
    rw [zb] at sz1
    have bp : Below w1.heap.size w1 ((w1.alloc LO).alloc HO) := (((Below.refl w1.heap.size w1).alloc (by simp) LO).alloc (by simp <;> omega) HO)
    have bt := below_alloc ((w1.alloc LO).alloc HO) (.cells [.func (.func E.oF) #[] E.oC, .slice (some ⟨g, 0, none⟩) n sc, .slice (some ⟨w1.heap.size + 1, 0, none⟩) n n, .slice (some ⟨w1.heap.size, 0, none⟩) n n, .int .i64 0, .bool false, .int .i64 0, .int .i64 (n : Int), .bool false, .int .i64 0, .int .i64 0, .int .i64 0].toArray 80)
    have bx : Below w.heap.size w (((w1.alloc LO).alloc HO).alloc (.cells [.func (.func E.oF) #[] E.oC, .slice (some ⟨g, 0, none⟩) n sc, .slice (some ⟨w1.heap.size + 1, 0, none⟩) n n, .slice (some ⟨w1.heap.size, 0, none⟩) n n, .int .i64 0, .bool false, .int .i64 0, .int .i64 (n : Int), .bool false, .int .i64 0, .int .i64 0, .int .i64 0].toArray 80)) := (bw1.trans (bp.mono bw1.size)).trans (bt.mono (by rw [z1]; have := bw1.size; omega))
    have ow := own_mono (own_below (own_below ho1 bp) bt) (show w.heap.size ≤ _ by omega)
    have hh2 : ((w1.alloc LO).alloc HO).heap[w1.heap.size + 1]? = some HO := by
      have q := heap_new (w1.alloc LO) HO
      rw [show (w1.alloc LO).heap.size = w1.heap.size + 1 by simp] at q
      exact q
    have hh := ((bt.block _ (by rw [z1]; omega)).trans hh2).trans (congrArg some HHO.out)
    have hl2 : ((w1.alloc LO).alloc HO).heap[w1.heap.size]? = some LO := by
      have q := heap_new w1 LO
      exact (Below.heap_alloc (w1.alloc LO) HO (w1.heap.size) (by simp)).trans q
    have hl := ((bt.block _ (by rw [z1]; omega)).trans hl2).trans (congrArg some HLO.out)
    have ct := CellsAt.new ((w1.alloc LO).alloc HO) [.func (.func E.oF) #[] E.oC, .slice (some ⟨g, 0, none⟩) n sc, .slice (some ⟨w1.heap.size + 1, 0, none⟩) n n, .slice (some ⟨w1.heap.size, 0, none⟩) n n, .int .i64 0, .bool false, .int .i64 0, .int .i64 (n : Int), .bool false, .int .i64 0, .int .i64 0, .int .i64 0] 80
    rw [z1] at ct
    have TT := Lib.hid (new_made OK.out HS.out bx H0.out H64.out (t := w1.heap.size + 1 + 1) (hb := w1.heap.size + 1) (lb := w1.heap.size) (g := g) (sc := sc) (hc := n) (lc := n) ow hh hl ct (by omega) (by omega) (by omega) (by omega) (by omega) (by omega) (by omega) (by omega) (by omega))
    have BX := Lib.hid bx
    have GT := Lib.hid (show w.heap.size ≤ w1.heap.size + 1 + 1 ∧ w.heap.size ≤ w1.heap.size + 1 ∧ w.heap.size ≤ w1.heap.size by omega)
    clear ct hh hl ow bx bt bp bw1 b0 gi ho1 hb1 z1 zb sz1 mkH mkL hh2 hl2
    change Hid (TreeAt E _ false (((w1.alloc LO).alloc HO).alloc (.cells #[.func (.func E.oF) #[] E.oC, .slice (some ⟨g, 0, none⟩) n sc, .slice (some ⟨w1.heap.size + 1, 0, none⟩) n n, .slice (some ⟨w1.heap.size, 0, none⟩) n n, .int .i64 0, .bool false, .int .i64 0, .int .i64 (n : Int), .bool false, .int .i64 0, .int .i64 0, .int .i64 0] 80)) Y (T0 n s)) at TT
    change Hid (Below w.heap.size w (((w1.alloc LO).alloc HO).alloc (.cells #[.func (.func E.oF) #[] E.oC, .slice (some ⟨g, 0, none⟩) n sc, .slice (some ⟨w1.heap.size + 1, 0, none⟩) n n, .slice (some ⟨w1.heap.size, 0, none⟩) n n, .int .i64 0, .bool false, .int .i64 0, .int .i64 (n : Int), .bool false, .int .i64 0, .int .i64 0, .int .i64 0] 80))) at BX
    generalize ((w1.alloc LO).alloc HO).alloc (.cells #[.func (.func E.oF) #[] E.oC, .slice (some ⟨g, 0, none⟩) n sc, .slice (some ⟨w1.heap.size + 1, 0, none⟩) n n, .slice (some ⟨w1.heap.size, 0, none⟩) n n, .int .i64 0, .bool false, .int .i64 0, .int .i64 (n : Int), .bool false, .int .i64 0, .int .i64 0, .int .i64 0] 80) = x at TT BX ⊢
    go_wp2_with fail
    go_ret2
    exact ⟨⟨w1.heap.size + 1 + 1, w1.heap.size + 1, w1.heap.size, g, n, n, sc, n⟩, rfl, rfl, GT.out.1, GT.out.2.1, GT.out.2.2, TT.out, BX.out⟩
  · have zb : (w.alloc HO).drew.heap.size = w.heap.size + 1 := by show (w.alloc HO).heap.size = _; simp
    have z1 : (w1.alloc LO).heap.size = w1.heap.size + 1 := by simp
    rw [zb] at ho1 hb1
    have gi := own_in ho1
    have b0 := ((Below.refl w.heap.size w).alloc (by simp) HO).drew
    have bw1 : Below w.heap.size w w1 := b0.trans (hb1.mono (by omega))
    have sz1 := hb1.size
    rw [zb] at sz1
    have bp : Below w1.heap.size w1 (w1.alloc LO) := ((Below.refl w1.heap.size w1).alloc (by simp) LO)
    have bt := below_alloc (w1.alloc LO) (.cells [.func (.func E.oF) #[] E.oC, .slice (some ⟨g, 0, none⟩) n sc, .slice (some ⟨w.heap.size, 0, none⟩) n n, .slice (some ⟨w1.heap.size, 0, none⟩) n n, .int .i64 0, .bool false, .int .i64 0, .int .i64 (n : Int), .bool false, .int .i64 0, .int .i64 0, .int .i64 0].toArray 80)
    have bx : Below w.heap.size w ((w1.alloc LO).alloc (.cells [.func (.func E.oF) #[] E.oC, .slice (some ⟨g, 0, none⟩) n sc, .slice (some ⟨w.heap.size, 0, none⟩) n n, .slice (some ⟨w1.heap.size, 0, none⟩) n n, .int .i64 0, .bool false, .int .i64 0, .int .i64 (n : Int), .bool false, .int .i64 0, .int .i64 0, .int .i64 0].toArray 80)) := (bw1.trans (bp.mono bw1.size)).trans (bt.mono (by rw [z1]; have := bw1.size; omega))
    have ow := own_mono (own_below (own_below ho1 bp) bt) (show w.heap.size ≤ _ by omega)
    have hh0 : (w.alloc HO).heap[w.heap.size]? = some HO := by
      have q := heap_new w HO
      exact q
    have hh1 : w1.heap[w.heap.size]? = some HO := (hb1.block _ (by omega)).trans hh0
    have hh2 : (w1.alloc LO).heap[w.heap.size]? = some HO := (bp.block _ (by omega)).trans hh1
    have hh := ((bt.block _ (by rw [z1]; omega)).trans hh2).trans (congrArg some HHO.out)
    have hl2 : (w1.alloc LO).heap[w1.heap.size]? = some LO := by
      have q := heap_new w1 LO
      exact q
    have hl := ((bt.block _ (by rw [z1]; omega)).trans hl2).trans (congrArg some HLO.out)
    have ct := CellsAt.new (w1.alloc LO) [.func (.func E.oF) #[] E.oC, .slice (some ⟨g, 0, none⟩) n sc, .slice (some ⟨w.heap.size, 0, none⟩) n n, .slice (some ⟨w1.heap.size, 0, none⟩) n n, .int .i64 0, .bool false, .int .i64 0, .int .i64 (n : Int), .bool false, .int .i64 0, .int .i64 0, .int .i64 0] 80
    rw [z1] at ct
    have TT := Lib.hid (new_made OK.out HS.out bx H0.out H64.out (t := w1.heap.size + 1) (hb := w.heap.size) (lb := w1.heap.size) (g := g) (sc := sc) (hc := n) (lc := n) ow hh hl ct (by omega) (by omega) (by omega) (by omega) (by omega) (by omega) (by omega) (by omega) (by omega))
    have BX := Lib.hid bx
    have GT := Lib.hid (show w.heap.size ≤ w1.heap.size + 1 ∧ w.heap.size ≤ w.heap.size ∧ w.heap.size ≤ w1.heap.size by omega)
    clear ct hh hl ow bx bt bp bw1 b0 gi ho1 hb1 z1 zb sz1 mkH mkL hh0 hh1 hh2 hl2
    change Hid (TreeAt E _ false ((w1.alloc LO).alloc (.cells #[.func (.func E.oF) #[] E.oC, .slice (some ⟨g, 0, none⟩) n sc, .slice (some ⟨w.heap.size, 0, none⟩) n n, .slice (some ⟨w1.heap.size, 0, none⟩) n n, .int .i64 0, .bool false, .int .i64 0, .int .i64 (n : Int), .bool false, .int .i64 0, .int .i64 0, .int .i64 0] 80)) Y (T0 n s)) at TT
    change Hid (Below w.heap.size w ((w1.alloc LO).alloc (.cells #[.func (.func E.oF) #[] E.oC, .slice (some ⟨g, 0, none⟩) n sc, .slice (some ⟨w.heap.size, 0, none⟩) n n, .slice (some ⟨w1.heap.size, 0, none⟩) n n, .int .i64 0, .bool false, .int .i64 0, .int .i64 (n : Int), .bool false, .int .i64 0, .int .i64 0, .int .i64 0] 80))) at BX
    generalize (w1.alloc LO).alloc (.cells #[.func (.func E.oF) #[] E.oC, .slice (some ⟨g, 0, none⟩) n sc, .slice (some ⟨w.heap.size, 0, none⟩) n n, .slice (some ⟨w1.heap.size, 0, none⟩) n n, .int .i64 0, .bool false, .int .i64 0, .int .i64 (n : Int), .bool false, .int .i64 0, .int .i64 0, .int .i64 0] 80) = x at TT BX ⊢
    go_wp2_with fail
    go_ret2
    exact ⟨⟨w1.heap.size + 1, w.heap.size, w1.heap.size, g, n, n, sc, n⟩, rfl, rfl, GT.out.1, GT.out.2.1, GT.out.2.2, TT.out, BX.out⟩
  · have zb : ((w.alloc HO).alloc LO).drew.heap.size = w.heap.size + 1 + 1 := by show ((w.alloc HO).alloc LO).heap.size = _; simp
    have z1 : w1.heap.size = w1.heap.size := rfl
    rw [zb] at ho1 hb1
    have gi := own_in ho1
    have b0 := (((Below.refl w.heap.size w).alloc (by simp) HO).alloc (by simp <;> omega) LO).drew
    have bw1 : Below w.heap.size w w1 := b0.trans (hb1.mono (by omega))
    have sz1 := hb1.size
    rw [zb] at sz1
    have bp : Below w1.heap.size w1 w1 := (Below.refl w1.heap.size w1)
    have bt := below_alloc w1 (.cells [.func (.func E.oF) #[] E.oC, .slice (some ⟨g, 0, none⟩) n sc, .slice (some ⟨w.heap.size, 0, none⟩) n n, .slice (some ⟨w.heap.size + 1, 0, none⟩) n n, .int .i64 0, .bool false, .int .i64 0, .int .i64 (n : Int), .bool false, .int .i64 0, .int .i64 0, .int .i64 0].toArray 80)
    have bx : Below w.heap.size w (w1.alloc (.cells [.func (.func E.oF) #[] E.oC, .slice (some ⟨g, 0, none⟩) n sc, .slice (some ⟨w.heap.size, 0, none⟩) n n, .slice (some ⟨w.heap.size + 1, 0, none⟩) n n, .int .i64 0, .bool false, .int .i64 0, .int .i64 (n : Int), .bool false, .int .i64 0, .int .i64 0, .int .i64 0].toArray 80)) := (bw1.trans (bp.mono bw1.size)).trans (bt.mono (by rw [z1]; have := bw1.size; omega))
    have ow := own_mono (own_below (own_below ho1 bp) bt) (show w.heap.size ≤ _ by omega)
    have hh0 : ((w.alloc HO).alloc LO).heap[w.heap.size]? = some HO := by
      have q := heap_new w HO
      exact (Below.heap_alloc (w.alloc HO) LO (w.heap.size) (by simp)).trans q
    have hh1 : w1.heap[w.heap.size]? = some HO := (hb1.block _ (by omega)).trans hh0
    have hh2 : w1.heap[w.heap.size]? = some HO := (bp.block _ (by omega)).trans hh1
    have hh := ((bt.block _ (by rw [z1]; omega)).trans hh2).trans (congrArg some HHO.out)
    have hl0 : ((w.alloc HO).alloc LO).heap[w.heap.size + 1]? = some LO := by
      have q := heap_new (w.alloc HO) LO
      rw [show (w.alloc HO).heap.size = w.heap.size + 1 by simp] at q
      exact q
    have hl1 : w1.heap[w.heap.size + 1]? = some LO := (hb1.block _ (by omega)).trans hl0
    have hl2 : w1.heap[w.heap.size + 1]? = some LO := (bp.block _ (by omega)).trans hl1
    have hl := ((bt.block _ (by rw [z1]; omega)).trans hl2).trans (congrArg some HLO.out)
    have ct := CellsAt.new w1 [.func (.func E.oF) #[] E.oC, .slice (some ⟨g, 0, none⟩) n sc, .slice (some ⟨w.heap.size, 0, none⟩) n n, .slice (some ⟨w.heap.size + 1, 0, none⟩) n n, .int .i64 0, .bool false, .int .i64 0, .int .i64 (n : Int), .bool false, .int .i64 0, .int .i64 0, .int .i64 0] 80
    rw [z1] at ct
    have TT := Lib.hid (new_made OK.out HS.out bx H0.out H64.out (t := w1.heap.size) (hb := w.heap.size) (lb := w.heap.size + 1) (g := g) (sc := sc) (hc := n) (lc := n) ow hh hl ct (by omega) (by omega) (by omega) (by omega) (by omega) (by omega) (by omega) (by omega) (by omega))
    have BX := Lib.hid bx
    have GT := Lib.hid (show w.heap.size ≤ w1.heap.size ∧ w.heap.size ≤ w.heap.size ∧ w.heap.size ≤ w.heap.size + 1 by omega)
    clear ct hh hl ow bx bt bp bw1 b0 gi ho1 hb1 z1 zb sz1 mkH mkL hh0 hh1 hl0 hl1 hh2 hl2
    change Hid (TreeAt E _ false (w1.alloc (.cells #[.func (.func E.oF) #[] E.oC, .slice (some ⟨g, 0, none⟩) n sc, .slice (some ⟨w.heap.size, 0, none⟩) n n, .slice (some ⟨w.heap.size + 1, 0, none⟩) n n, .int .i64 0, .bool false, .int .i64 0, .int .i64 (n : Int), .bool false, .int .i64 0, .int .i64 0, .int .i64 0] 80)) Y (T0 n s)) at TT
    change Hid (Below w.heap.size w (w1.alloc (.cells #[.func (.func E.oF) #[] E.oC, .slice (some ⟨g, 0, none⟩) n sc, .slice (some ⟨w.heap.size, 0, none⟩) n n, .slice (some ⟨w.heap.size + 1, 0, none⟩) n n, .int .i64 0, .bool false, .int .i64 0, .int .i64 (n : Int), .bool false, .int .i64 0, .int .i64 0, .int .i64 0] 80))) at BX
    generalize w1.alloc (.cells #[.func (.func E.oF) #[] E.oC, .slice (some ⟨g, 0, none⟩) n sc, .slice (some ⟨w.heap.size, 0, none⟩) n n, .slice (some ⟨w.heap.size + 1, 0, none⟩) n n, .int .i64 0, .bool false, .int .i64 0, .int .i64 (n : Int), .bool false, .int .i64 0, .int .i64 0, .int .i64 0] 80) = x at TT BX ⊢
    go_wp2_with fail
    go_ret2
    exact ⟨⟨w1.heap.size, w.heap.size, w.heap.size + 1, g, n, n, sc, n⟩, rfl, rfl, GT.out.1, GT.out.2.1, GT.out.2.2, TT.out, BX.out⟩
  · have zb : (w.alloc LO).drew.heap.size = w.heap.size + 1 := by show (w.alloc LO).heap.size = _; simp
    have z1 : (w1.alloc HO).heap.size = w1.heap.size + 1 := by simp
    rw [zb] at ho1 hb1
    have gi := own_in ho1
    have b0 := ((Below.refl w.heap.size w).alloc (by simp) LO).drew
    have bw1 : Below w.heap.size w w1 := b0.trans (hb1.mono (by omega))
    have sz1 := hb1.size
    rw [zb] at sz1
    have bp : Below w1.heap.size w1 (w1.alloc HO) := ((Below.refl w1.heap.size w1).alloc (by simp) HO)
    have bt := below_alloc (w1.alloc HO) (.cells [.func (.func E.oF) #[] E.oC, .slice (some ⟨g, 0, none⟩) n sc, .slice (some ⟨w1.heap.size, 0, none⟩) n n, .slice (some ⟨w.heap.size, 0, none⟩) n n, .int .i64 0, .bool false, .int .i64 0, .int .i64 (n : Int), .bool false, .int .i64 0, .int .i64 0, .int .i64 0].toArray 80)
    have bx : Below w.heap.size w ((w1.alloc HO).alloc (.cells [.func (.func E.oF) #[] E.oC, .slice (some ⟨g, 0, none⟩) n sc, .slice (some ⟨w1.heap.size, 0, none⟩) n n, .slice (some ⟨w.heap.size, 0, none⟩) n n, .int .i64 0, .bool false, .int .i64 0, .int .i64 (n : Int), .bool false, .int .i64 0, .int .i64 0, .int .i64 0].toArray 80)) := (bw1.trans (bp.mono bw1.size)).trans (bt.mono (by rw [z1]; have := bw1.size; omega))
    have ow := own_mono (own_below (own_below ho1 bp) bt) (show w.heap.size ≤ _ by omega)
    have hh2 : (w1.alloc HO).heap[w1.heap.size]? = some HO := by
      have q := heap_new w1 HO
      exact q
    have hh := ((bt.block _ (by rw [z1]; omega)).trans hh2).trans (congrArg some HHO.out)
    have hl0 : (w.alloc LO).heap[w.heap.size]? = some LO := by
      have q := heap_new w LO
      exact q
    have hl1 : w1.heap[w.heap.size]? = some LO := (hb1.block _ (by omega)).trans hl0
    have hl2 : (w1.alloc HO).heap[w.heap.size]? = some LO := (bp.block _ (by omega)).trans hl1
    have hl := ((bt.block _ (by rw [z1]; omega)).trans hl2).trans (congrArg some HLO.out)
    have ct := CellsAt.new (w1.alloc HO) [.func (.func E.oF) #[] E.oC, .slice (some ⟨g, 0, none⟩) n sc, .slice (some ⟨w1.heap.size, 0, none⟩) n n, .slice (some ⟨w.heap.size, 0, none⟩) n n, .int .i64 0, .bool false, .int .i64 0, .int .i64 (n : Int), .bool false, .int .i64 0, .int .i64 0, .int .i64 0] 80
    rw [z1] at ct
    have TT := Lib.hid (new_made OK.out HS.out bx H0.out H64.out (t := w1.heap.size + 1) (hb := w1.heap.size) (lb := w.heap.size) (g := g) (sc := sc) (hc := n) (lc := n) ow hh hl ct (by omega) (by omega) (by omega) (by omega) (by omega) (by omega) (by omega) (by omega) (by omega))
    have BX := Lib.hid bx
    have GT := Lib.hid (show w.heap.size ≤ w1.heap.size + 1 ∧ w.heap.size ≤ w1.heap.size ∧ w.heap.size ≤ w.heap.size by omega)
    clear ct hh hl ow bx bt bp bw1 b0 gi ho1 hb1 z1 zb sz1 mkH mkL hl0 hl1 hh2 hl2
    change Hid (TreeAt E _ false ((w1.alloc HO).alloc (.cells #[.func (.func E.oF) #[] E.oC, .slice (some ⟨g, 0, none⟩) n sc, .slice (some ⟨w1.heap.size, 0, none⟩) n n, .slice (some ⟨w.heap.size, 0, none⟩) n n, .int .i64 0, .bool false, .int .i64 0, .int .i64 (n : Int), .bool false, .int .i64 0, .int .i64 0, .int .i64 0] 80)) Y (T0 n s)) at TT
    change Hid (Below w.heap.size w ((w1.alloc HO).alloc (.cells #[.func (.func E.oF) #[] E.oC, .slice (some ⟨g, 0, none⟩) n sc, .slice (some ⟨w1.heap.size, 0, none⟩) n n, .slice (some ⟨w.heap.size, 0, none⟩) n n, .int .i64 0, .bool false, .int .i64 0, .int .i64 (n : Int), .bool false, .int .i64 0, .int .i64 0, .int .i64 0] 80))) at BX
    generalize (w1.alloc HO).alloc (.cells #[.func (.func E.oF) #[] E.oC, .slice (some ⟨g, 0, none⟩) n sc, .slice (some ⟨w1.heap.size, 0, none⟩) n n, .slice (some ⟨w.heap.size, 0, none⟩) n n, .int .i64 0, .bool false, .int .i64 0, .int .i64 (n : Int), .bool false, .int .i64 0, .int .i64 0, .int .i64 0] 80) = x at TT BX ⊢
    go_wp2_with fail
    go_ret2
    exact ⟨⟨w1.heap.size + 1, w1.heap.size, w.heap.size, g, n, n, sc, n⟩, rfl, rfl, GT.out.1, GT.out.2.1, GT.out.2.2, TT.out, BX.out⟩
  · have zb : ((w.alloc LO).alloc HO).drew.heap.size = w.heap.size + 1 + 1 := by show ((w.alloc LO).alloc HO).heap.size = _; simp
    have z1 : w1.heap.size = w1.heap.size := rfl
    rw [zb] at ho1 hb1
    have gi := own_in ho1
    have b0 := (((Below.refl w.heap.size w).alloc (by simp) LO).alloc (by simp <;> omega) HO).drew
    have bw1 : Below w.heap.size w w1 := b0.trans (hb1.mono (by omega))
    have sz1 := hb1.size
    rw [zb] at sz1
    have bp : Below w1.heap.size w1 w1 := (Below.refl w1.heap.size w1)
    have bt := below_alloc w1 (.cells [.func (.func E.oF) #[] E.oC, .slice (some ⟨g, 0, none⟩) n sc, .slice (some ⟨w.heap.size + 1, 0, none⟩) n n, .slice (some ⟨w.heap.size, 0, none⟩) n n, .int .i64 0, .bool false, .int .i64 0, .int .i64 (n : Int), .bool false, .int .i64 0, .int .i64 0, .int .i64 0].toArray 80)
    have bx : Below w.heap.size w (w1.alloc (.cells [.func (.func E.oF) #[] E.oC, .slice (some ⟨g, 0, none⟩) n sc, .slice (some ⟨w.heap.size + 1, 0, none⟩) n n, .slice (some ⟨w.heap.size, 0, none⟩) n n, .int .i64 0, .bool false, .int .i64 0, .int .i64 (n : Int), .bool false, .int .i64 0, .int .i64 0, .int .i64 0].toArray 80)) := (bw1.trans (bp.mono bw1.size)).trans (bt.mono (by rw [z1]; have := bw1.size; omega))
    have ow := own_mono (own_below (own_below ho1 bp) bt) (show w.heap.size ≤ _ by omega)
    have hh0 : ((w.alloc LO).alloc HO).heap[w.heap.size + 1]? = some HO := by
      have q := heap_new (w.alloc LO) HO
      rw [show (w.alloc LO).heap.size = w.heap.size + 1 by simp] at q
      exact q
    have hh1 : w1.heap[w.heap.size + 1]? = some HO := (hb1.block _ (by omega)).trans hh0
    have hh2 : w1.heap[w.heap.size + 1]? = some HO := (bp.block _ (by omega)).trans hh1
    have hh := ((bt.block _ (by rw [z1]; omega)).trans hh2).trans (congrArg some HHO.out)
    have hl0 : ((w.alloc LO).alloc HO).heap[w.heap.size]? = some LO := by
      have q := heap_new w LO
      exact (Below.heap_alloc (w.alloc LO) HO (w.heap.size) (by simp)).trans q
    have hl1 : w1.heap[w.heap.size]? = some LO := (hb1.block _ (by omega)).trans hl0
    have hl2 : w1.heap[w.heap.size]? = some LO := (bp.block _ (by omega)).trans hl1
    have hl := ((bt.block _ (by rw [z1]; omega)).trans hl2).trans (congrArg some HLO.out)
    have ct := CellsAt.new w1 [.func (.func E.oF) #[] E.oC, .slice (some ⟨g, 0, none⟩) n sc, .slice (some ⟨w.heap.size + 1, 0, none⟩) n n, .slice (some ⟨w.heap.size, 0, none⟩) n n, .int .i64 0, .bool false, .int .i64 0, .int .i64 (n : Int), .bool false, .int .i64 0, .int .i64 0, .int .i64 0] 80
    rw [z1] at ct
    have TT := Lib.hid (new_made OK.out HS.out bx H0.out H64.out (t := w1.heap.size) (hb := w.heap.size + 1) (lb := w.heap.size) (g := g) (sc := sc) (hc := n) (lc := n) ow hh hl ct (by omega) (by omega) (by omega) (by omega) (by omega) (by omega) (by omega) (by omega) (by omega))
    have BX := Lib.hid bx
    have GT := Lib.hid (show w.heap.size ≤ w1.heap.size ∧ w.heap.size ≤ w.heap.size + 1 ∧ w.heap.size ≤ w.heap.size by omega)
    clear ct hh hl ow bx bt bp bw1 b0 gi ho1 hb1 z1 zb sz1 mkH mkL hh0 hh1 hl0 hl1 hh2 hl2
    change Hid (TreeAt E _ false (w1.alloc (.cells #[.func (.func E.oF) #[] E.oC, .slice (some ⟨g, 0, none⟩) n sc, .slice (some ⟨w.heap.size + 1, 0, none⟩) n n, .slice (some ⟨w.heap.size, 0, none⟩) n n, .int .i64 0, .bool false, .int .i64 0, .int .i64 (n : Int), .bool false, .int .i64 0, .int .i64 0, .int .i64 0] 80)) Y (T0 n s)) at TT
    change Hid (Below w.heap.size w (w1.alloc (.cells #[.func (.func E.oF) #[] E.oC, .slice (some ⟨g, 0, none⟩) n sc, .slice (some ⟨w.heap.size + 1, 0, none⟩) n n, .slice (some ⟨w.heap.size, 0, none⟩) n n, .int .i64 0, .bool false, .int .i64 0, .int .i64 (n : Int), .bool false, .int .i64 0, .int .i64 0, .int .i64 0] 80))) at BX
    generalize w1.alloc (.cells #[.func (.func E.oF) #[] E.oC, .slice (some ⟨g, 0, none⟩) n sc, .slice (some ⟨w.heap.size + 1, 0, none⟩) n n, .slice (some ⟨w.heap.size, 0, none⟩) n n, .int .i64 0, .bool false, .int .i64 0, .int .i64 (n : Int), .bool false, .int .i64 0, .int .i64 0, .int .i64 0] 80) = x at TT BX ⊢
    go_wp2_with fail
    go_ret2
    exact ⟨⟨w1.heap.size, w.heap.size + 1, w.heap.size, g, n, n, sc, n⟩, rfl, rfl, GT.out.1, GT.out.2.1, GT.out.2.2, TT.out, BX.out⟩
end Go.Proofs.Ytjlcbhblpofjhaa
