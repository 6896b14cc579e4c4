/- The tree of losers: New of no sources, and of too many. -/
import Derived.Test.YtjlcbhblpofjhaaNe
namespace Go.Proofs.Ytjlcbhblpofjhaa
open Go.RowKit
set_option maxRecDepth 100000
def ManyR (w : World) (e : Ending) (w' : World) : Prop := e = .returned (.tuple #[.pointer none, .int .i64 90]) ∧ w = w'
theorem new_many {f : Nat} {cs : Array Value} {n : Nat} {w : World} {v : Value} {sF : Nat → Nat} {sC : Nat → Array Value} (hv : SrcRow w v n sF sC) (h : 64 < n) (hn : n < 4611686018427387904) : Calls Try.prog 12 #[.func (.func f) #[] cs, v] w (ManyR w) := by
  have hrun : ∀ w, Sem.run Try.prog (binOp BinOp.eql 34 (Value.func (.func f) #[] cs) Value.nilFunc) w = .ok (.bool false) w := fun _ => by kernel_rfl
  have CON := Lib.hid (contains_ok hv hn)
  obtain ⟨a, c, rfl, hb⟩ := hv.form
  have t1 : decide ((64 : Int) < (n : Int)) = true := decide_eq_true (by omega)
  have t1n : decide (64 < n) = true := decide_eq_true h
  clear hv hb h
  go_enter Try.func12, Try.ntmps12
  go_wp2_with fail
  refine CON.out.mono ?_
  rintro e w' ⟨rfl, rfl⟩
  go_wp2_with fail
  go_ret2
  exact ⟨rfl, rfl⟩
def geo0 (t : Nat) : Geo := ⟨t, t, t, t, 0, 0, 0, 0⟩
def NewZ {σ : Type} (E : Env σ) (w : World) (Y : Nat → Prop) (s : σ) (e : Ending) (w' : World) : Prop :=
  ∃ t, e = .returned (.tuple #[.pointer (some ⟨t, 0, none⟩), .int .i64 0]) ∧ w.heap.size ≤ t ∧ DeadAt E (geo0 t) false w' Y 0 0 0 s ∧ Below w.heap.size w w'
theorem own_form0 {W : World} {B : Nat} {v : Value} {xs : List Value} (h : W.ownsRow B 25 1 v 0 xs) : ∃ a sc, v = .slice a 0 sc := by
  rcases h.2 with ⟨h, _⟩ | ⟨g, cap, cur, hv, _⟩
  · exact ⟨none, 0, h⟩
  · exact ⟨_, cap, hv⟩
theorem zero_made {σ : Type} {E : Env σ} {n : Nat} (ok : E.Ok n) {w P x : World} {Y : Nat → Prop} {s : σ} (hS : E.S w Y s) (b : Below w.heap.size w x) {t : Nat} {vs : List Value} (ht : CellsAt x t vs) (h1 : ∃ a c, vs[1]? = some (.slice a 0 c)) (h8 : vs[8]? = some (.bool false)) (h9 : vs[9]? = some (.int .i64 0)) (h10 : vs[10]? = some (.int .i64 0)) (h11 : vs[11]? = some (.int .i64 0)) (g : w.heap.size ≤ t) : DeadAt E (geo0 t) false x Y 0 0 0 s := by
  obtain ⟨a, c, h1⟩ := h1
  exact ⟨ok.stable _ _ _ _ hS b.size fun c hc => b.block c (ok.low _ _ _ hS c hc), fun h => by have := ok.low _ _ _ hS t h; omega, ht.lt, ht.free, ⟨a, c, ht.cell 1 _ h1⟩, ht.cell 8 _ h8, ht.cell 9 _ h9, ht.cell 10 _ h10, ht.cell 11 _ h11⟩
set_option maxHeartbeats 4000000 in
theorem new_zero {σ : Type} {E : Env σ} (ok : E.Ok 0) {w : World} {Y : Nat → Prop} {s : σ} {v : Value} (hS : E.S w Y s) (hv : SrcRow w v 0 E.sF E.sC) (hcl : ∀ W, Calls Try.prog 39 #[v] W (CloneR 25 1 W 0 [])) :
    Calls Try.prog 12 #[.func (.func E.oF) #[] E.oC, v] w (NewZ E w Y s) := by
  have hrun : ∀ w, Sem.run Try.prog (binOp BinOp.eql 34 (Value.func (.func E.oF) #[] E.oC) Value.nilFunc) w = .ok (.bool false) w := fun _ => by kernel_rfl
  have mkH := make_hands 0 (by omega)
  have mkL := make_losers 0 (by omega)
  have CON := Lib.hid (contains_ok hv (by omega))
  have CL := Lib.hid hcl
  obtain ⟨a, c, rfl, hb⟩ := hv.form
  have OK := Lib.hid ok
  have HS := Lib.hid hS
  clear ok hS hv hb hcl
  go_enter Try.func12, Try.ntmps12
  go_wp2_with fail
  refine CON.out.mono ?_
  rintro e w' ⟨rfl, rfl⟩
  go_upto_region 7 with fail
  obtain ⟨HO, hHO⟩ : ∃ o, o = Obj.cells (madeCells #[.int .i64 0, .int .i64 0, .bool false] (0 * 3)) 89 (0, 0) := ⟨_, rfl⟩
  obtain ⟨LO, hLO⟩ : ∃ o, o = Obj.cells (madeCells #[.int .i64 0] 0) 3 (0, 0) := ⟨_, rfl⟩
  rw [← hHO] at mkH
  rw [← hLO] at mkL
  simp only [Int.natCast_zero] at mkH mkL
  clear hHO hLO
  go_region_held3 (fun _ => True) (trivial)
    ((go_at_call 39; refine (CL.out _).mono ?_; rintro e w1 ⟨v1, rfl, ho1, hb1⟩; obtain ⟨g, sc, rfl⟩ := own_form0 ho1))
  · have zb : w.drew.heap.size = w.heap.size := rfl
    have z1 : ((w1.alloc HO).alloc LO).heap.size = w1.heap.size + 1 + 1 := by simp
    rw [zb] at ho1 hb1
    have b0 := (Below.refl w.heap.size w).drew
    have bw1 : Below w.heap.size w w1 := b0.trans (hb1.mono (by omega))
    have bp : Below w1.heap.size w1 ((w1.alloc HO).alloc LO) := (((Below.refl w1.heap.size w1).alloc (by simp) HO).alloc (by simp <;> omega) LO)
    have bt := below_alloc ((w1.alloc HO).alloc LO) (.cells [.func (.func E.oF) #[] E.oC, .slice g 0 sc, .slice (some ⟨w1.heap.size, 0, none⟩) 0 0, .slice (some ⟨w1.heap.size + 1, 0, none⟩) 0 0, .int .i64 0, .bool false, .int .i64 0, .int .i64 0, .bool false, .int .i64 0, .int .i64 0, .int .i64 0].toArray 80)
    have bx : Below w.heap.size w (((w1.alloc HO).alloc LO).alloc (.cells [.func (.func E.oF) #[] E.oC, .slice g 0 sc, .slice (some ⟨w1.heap.size, 0, none⟩) 0 0, .slice (some ⟨w1.heap.size + 1, 0, none⟩) 0 0, .int .i64 0, .bool false, .int .i64 0, .int .i64 0, .bool false, .int .i64 0, .int .i64 0, .int .i64 0].toArray 80)) := (bw1.trans (bp.mono bw1.size)).trans (bt.mono (by rw [z1]; have := bw1.size; omega))
    have ct := CellsAt.new ((w1.alloc HO).alloc LO) [.func (.func E.oF) #[] E.oC, .slice g 0 sc, .slice (some ⟨w1.heap.size, 0, none⟩) 0 0, .slice (some ⟨w1.heap.size + 1, 0, none⟩) 0 0, .int .i64 0, .bool false, .int .i64 0, .int .i64 0, .bool false, .int .i64 0, .int .i64 0, .int .i64 0] 80
    rw [z1] at ct
    have GT := Lib.hid (show w.heap.size ≤ w1.heap.size + 1 + 1 by have := bw1.size; omega)
    have TT := Lib.hid (zero_made OK.out (P := w) HS.out bx ct ⟨g, sc, rfl⟩ rfl rfl rfl rfl GT.out)
    have BX := Lib.hid bx
    clear ct bx bt bp bw1 b0 ho1 hb1 z1 zb mkH mkL
    change Hid (DeadAt E _ false (((w1.alloc HO).alloc LO).alloc (.cells #[.func (.func E.oF) #[] E.oC, .slice g 0 sc, .slice (some ⟨w1.heap.size, 0, none⟩) 0 0, .slice (some ⟨w1.heap.size + 1, 0, none⟩) 0 0, .int .i64 0, .bool false, .int .i64 0, .int .i64 0, .bool false, .int .i64 0, .int .i64 0, .int .i64 0] 80)) Y 0 0 0 s) at TT
    change Hid (Below w.heap.size w (((w1.alloc HO).alloc LO).alloc (.cells #[.func (.func E.oF) #[] E.oC, .slice g 0 sc, .slice (some ⟨w1.heap.size, 0, none⟩) 0 0, .slice (some ⟨w1.heap.size + 1, 0, none⟩) 0 0, .int .i64 0, .bool false, .int .i64 0, .int .i64 0, .bool false, .int .i64 0, .int .i64 0, .int .i64 0] 80))) at BX
    generalize ((w1.alloc HO).alloc LO).alloc (.cells #[.func (.func E.oF) #[] E.oC, .slice g 0 sc, .slice (some ⟨w1.heap.size, 0, none⟩) 0 0, .slice (some ⟨w1.heap.size + 1, 0, none⟩) 0 0, .int .i64 0, .bool false, .int .i64 0, .int .i64 0, .bool false, .int .i64 0, .int .i64 0, .int .i64 0] 80) = x at TT BX ⊢
    go_wp2_with fail
    go_ret2
    exact ⟨w1.heap.size + 1 + 1, rfl, GT.out, TT.out, BX.out⟩
  · have zb : w.drew.heap.size = w.heap.size := rfl
    have z1 : ((w1.alloc LO).alloc HO).heap.size = w1.heap.size + 1 + 1 := by simp
    rw [zb] at ho1 hb1
    have b0 := (Below.refl w.heap.size w).drew
    have bw1 : Below w.heap.size w w1 := b0.trans (hb1.mono (by omega))
    have bp : Below w1.heap.size w1 ((w1.alloc LO).alloc HO) := (((Below.refl w1.heap.size w1).alloc (by simp) LO).alloc (by simp <;> omega) HO)
    have bt := below_alloc ((w1.alloc LO).alloc HO) (.cells [.func (.func E.oF) #[] E.oC, .slice g 0 sc, .slice (some ⟨w1.heap.size + 1, 0, none⟩) 0 0, .slice (some ⟨w1.heap.size, 0, none⟩) 0 0, .int .i64 0, .bool false, .int .i64 0, .int .i64 0, .bool false, .int .i64 0, .int .i64 0, .int .i64 0].toArray 80)
    have bx : Below w.heap.size w (((w1.alloc LO).alloc HO).alloc (.cells [.func (.func E.oF) #[] E.oC, .slice g 0 sc, .slice (some ⟨w1.heap.size + 1, 0, none⟩) 0 0, .slice (some ⟨w1.heap.size, 0, none⟩) 0 0, .int .i64 0, .bool false, .int .i64 0, .int .i64 0, .bool false, .int .i64 0, .int .i64 0, .int .i64 0].toArray 80)) := (bw1.trans (bp.mono bw1.size)).trans (bt.mono (by rw [z1]; have := bw1.size; omega))
    have ct := CellsAt.new ((w1.alloc LO).alloc HO) [.func (.func E.oF) #[] E.oC, .slice g 0 sc, .slice (some ⟨w1.heap.size + 1, 0, none⟩) 0 0, .slice (some ⟨w1.heap.size, 0, none⟩) 0 0, .int .i64 0, .bool false, .int .i64 0, .int .i64 0, .bool false, .int .i64 0, .int .i64 0, .int .i64 0] 80
    rw [z1] at ct
    have GT := Lib.hid (show w.heap.size ≤ w1.heap.size + 1 + 1 by have := bw1.size; omega)
    have TT := Lib.hid (zero_made OK.out (P := w) HS.out bx ct ⟨g, sc, rfl⟩ rfl rfl rfl rfl GT.out)
    have BX := Lib.hid bx
    clear ct bx bt bp bw1 b0 ho1 hb1 z1 zb mkH mkL
    change Hid (DeadAt E _ false (((w1.alloc LO).alloc HO).alloc (.cells #[.func (.func E.oF) #[] E.oC, .slice g 0 sc, .slice (some ⟨w1.heap.size + 1, 0, none⟩) 0 0, .slice (some ⟨w1.heap.size, 0, none⟩) 0 0, .int .i64 0, .bool false, .int .i64 0, .int .i64 0, .bool false, .int .i64 0, .int .i64 0, .int .i64 0] 80)) Y 0 0 0 s) at TT
    change Hid (Below w.heap.size w (((w1.alloc LO).alloc HO).alloc (.cells #[.func (.func E.oF) #[] E.oC, .slice g 0 sc, .slice (some ⟨w1.heap.size + 1, 0, none⟩) 0 0, .slice (some ⟨w1.heap.size, 0, none⟩) 0 0, .int .i64 0, .bool false, .int .i64 0, .int .i64 0, .bool false, .int .i64 0, .int .i64 0, .int .i64 0] 80))) at BX
    generalize ((w1.alloc LO).alloc HO).alloc (.cells #[.func (.func E.oF) #[] E.oC, .slice g 0 sc, .slice (some ⟨w1.heap.size + 1, 0, none⟩) 0 0, .slice (some ⟨w1.heap.size, 0, none⟩) 0 0, .int .i64 0, .bool false, .int .i64 0, .int .i64 0, .bool false, .int .i64 0, .int .i64 0, .int .i64 0] 80) = x at TT BX ⊢
    go_wp2_with fail
    go_ret2
    exact ⟨w1.heap.size + 1 + 1, rfl, GT.out, TT.out, BX.out⟩
  · have zb : (w.alloc HO).drew.heap.size = w.heap.size + 1 := by show (w.alloc HO).heap.size = _; simp
    have z1 : (w1.alloc LO).heap.size = w1.heap.size + 1 := by simp
    rw [zb] at ho1 hb1
    have b0 := ((Below.refl w.heap.size w).alloc (by simp) HO).drew
    have bw1 : Below w.heap.size w w1 := b0.trans (hb1.mono (by omega))
    have bp : Below w1.heap.size w1 (w1.alloc LO) := ((Below.refl w1.heap.size w1).alloc (by simp) LO)
    have bt := below_alloc (w1.alloc LO) (.cells [.func (.func E.oF) #[] E.oC, .slice g 0 sc, .slice (some ⟨w.heap.size, 0, none⟩) 0 0, .slice (some ⟨w1.heap.size, 0, none⟩) 0 0, .int .i64 0, .bool false, .int .i64 0, .int .i64 0, .bool false, .int .i64 0, .int .i64 0, .int .i64 0].toArray 80)
    have bx : Below w.heap.size w ((w1.alloc LO).alloc (.cells [.func (.func E.oF) #[] E.oC, .slice g 0 sc, .slice (some ⟨w.heap.size, 0, none⟩) 0 0, .slice (some ⟨w1.heap.size, 0, none⟩) 0 0, .int .i64 0, .bool false, .int .i64 0, .int .i64 0, .bool false, .int .i64 0, .int .i64 0, .int .i64 0].toArray 80)) := (bw1.trans (bp.mono bw1.size)).trans (bt.mono (by rw [z1]; have := bw1.size; omega))
    have ct := CellsAt.new (w1.alloc LO) [.func (.func E.oF) #[] E.oC, .slice g 0 sc, .slice (some ⟨w.heap.size, 0, none⟩) 0 0, .slice (some ⟨w1.heap.size, 0, none⟩) 0 0, .int .i64 0, .bool false, .int .i64 0, .int .i64 0, .bool false, .int .i64 0, .int .i64 0, .int .i64 0] 80
    rw [z1] at ct
    have GT := Lib.hid (show w.heap.size ≤ w1.heap.size + 1 by have := bw1.size; omega)
    have TT := Lib.hid (zero_made OK.out (P := w) HS.out bx ct ⟨g, sc, rfl⟩ rfl rfl rfl rfl GT.out)
    have BX := Lib.hid bx
    clear ct bx bt bp bw1 b0 ho1 hb1 z1 zb mkH mkL
    change Hid (DeadAt E _ false ((w1.alloc LO).alloc (.cells #[.func (.func E.oF) #[] E.oC, .slice g 0 sc, .slice (some ⟨w.heap.size, 0, none⟩) 0 0, .slice (some ⟨w1.heap.size, 0, none⟩) 0 0, .int .i64 0, .bool false, .int .i64 0, .int .i64 0, .bool false, .int .i64 0, .int .i64 0, .int .i64 0] 80)) Y 0 0 0 s) at TT
    change Hid (Below w.heap.size w ((w1.alloc LO).alloc (.cells #[.func (.func E.oF) #[] E.oC, .slice g 0 sc, .slice (some ⟨w.heap.size, 0, none⟩) 0 0, .slice (some ⟨w1.heap.size, 0, none⟩) 0 0, .int .i64 0, .bool false, .int .i64 0, .int .i64 0, .bool false, .int .i64 0, .int .i64 0, .int .i64 0] 80))) at BX
    generalize (w1.alloc LO).alloc (.cells #[.func (.func E.oF) #[] E.oC, .slice g 0 sc, .slice (some ⟨w.heap.size, 0, none⟩) 0 0, .slice (some ⟨w1.heap.size, 0, none⟩) 0 0, .int .i64 0, .bool false, .int .i64 0, .int .i64 0, .bool false, .int .i64 0, .int .i64 0, .int .i64 0] 80) = x at TT BX ⊢
    go_wp2_with fail
    go_ret2
    exact ⟨w1.heap.size + 1, rfl, GT.out, TT.out, BX.out⟩
  · have zb : ((w.alloc HO).alloc LO).drew.heap.size = w.heap.size + 1 + 1 := by show ((w.alloc HO).alloc LO).heap.size = _; simp
    have z1 : w1.heap.size = w1.heap.size := rfl
    rw [zb] at ho1 hb1
    have b0 := (((Below.refl w.heap.size w).alloc (by simp) HO).alloc (by simp <;> omega) LO).drew
    have bw1 : Below w.heap.size w w1 := b0.trans (hb1.mono (by omega))
    have bp : Below w1.heap.size w1 w1 := (Below.refl w1.heap.size w1)
    have bt := below_alloc w1 (.cells [.func (.func E.oF) #[] E.oC, .slice g 0 sc, .slice (some ⟨w.heap.size, 0, none⟩) 0 0, .slice (some ⟨w.heap.size + 1, 0, none⟩) 0 0, .int .i64 0, .bool false, .int .i64 0, .int .i64 0, .bool false, .int .i64 0, .int .i64 0, .int .i64 0].toArray 80)
    have bx : Below w.heap.size w (w1.alloc (.cells [.func (.func E.oF) #[] E.oC, .slice g 0 sc, .slice (some ⟨w.heap.size, 0, none⟩) 0 0, .slice (some ⟨w.heap.size + 1, 0, none⟩) 0 0, .int .i64 0, .bool false, .int .i64 0, .int .i64 0, .bool false, .int .i64 0, .int .i64 0, .int .i64 0].toArray 80)) := (bw1.trans (bp.mono bw1.size)).trans (bt.mono (by rw [z1]; have := bw1.size; omega))
    have ct := CellsAt.new w1 [.func (.func E.oF) #[] E.oC, .slice g 0 sc, .slice (some ⟨w.heap.size, 0, none⟩) 0 0, .slice (some ⟨w.heap.size + 1, 0, none⟩) 0 0, .int .i64 0, .bool false, .int .i64 0, .int .i64 0, .bool false, .int .i64 0, .int .i64 0, .int .i64 0] 80
    rw [z1] at ct
    have GT := Lib.hid (show w.heap.size ≤ w1.heap.size by have := bw1.size; omega)
    have TT := Lib.hid (zero_made OK.out (P := w) HS.out bx ct ⟨g, sc, rfl⟩ rfl rfl rfl rfl GT.out)
    have BX := Lib.hid bx
    clear ct bx bt bp bw1 b0 ho1 hb1 z1 zb mkH mkL
    change Hid (DeadAt E _ false (w1.alloc (.cells #[.func (.func E.oF) #[] E.oC, .slice g 0 sc, .slice (some ⟨w.heap.size, 0, none⟩) 0 0, .slice (some ⟨w.heap.size + 1, 0, none⟩) 0 0, .int .i64 0, .bool false, .int .i64 0, .int .i64 0, .bool false, .int .i64 0, .int .i64 0, .int .i64 0] 80)) Y 0 0 0 s) at TT
    change Hid (Below w.heap.size w (w1.alloc (.cells #[.func (.func E.oF) #[] E.oC, .slice g 0 sc, .slice (some ⟨w.heap.size, 0, none⟩) 0 0, .slice (some ⟨w.heap.size + 1, 0, none⟩) 0 0, .int .i64 0, .bool false, .int .i64 0, .int .i64 0, .bool false, .int .i64 0, .int .i64 0, .int .i64 0] 80))) at BX
    generalize w1.alloc (.cells #[.func (.func E.oF) #[] E.oC, .slice g 0 sc, .slice (some ⟨w.heap.size, 0, none⟩) 0 0, .slice (some ⟨w.heap.size + 1, 0, none⟩) 0 0, .int .i64 0, .bool false, .int .i64 0, .int .i64 0, .bool false, .int .i64 0, .int .i64 0, .int .i64 0] 80) = x at TT BX ⊢
    go_wp2_with fail
    go_ret2
    exact ⟨w1.heap.size, rfl, GT.out, TT.out, BX.out⟩
  · have zb : (w.alloc LO).drew.heap.size = w.heap.size + 1 := by show (w.alloc LO).heap.size = _; simp
    have z1 : (w1.alloc HO).heap.size = w1.heap.size + 1 := by simp
    rw [zb] at ho1 hb1
    have b0 := ((Below.refl w.heap.size w).alloc (by simp) LO).drew
    have bw1 : Below w.heap.size w w1 := b0.trans (hb1.mono (by omega))
    have bp : Below w1.heap.size w1 (w1.alloc HO) := ((Below.refl w1.heap.size w1).alloc (by simp) HO)
    have bt := below_alloc (w1.alloc HO) (.cells [.func (.func E.oF) #[] E.oC, .slice g 0 sc, .slice (some ⟨w1.heap.size, 0, none⟩) 0 0, .slice (some ⟨w.heap.size, 0, none⟩) 0 0, .int .i64 0, .bool false, .int .i64 0, .int .i64 0, .bool false, .int .i64 0, .int .i64 0, .int .i64 0].toArray 80)
    have bx : Below w.heap.size w ((w1.alloc HO).alloc (.cells [.func (.func E.oF) #[] E.oC, .slice g 0 sc, .slice (some ⟨w1.heap.size, 0, none⟩) 0 0, .slice (some ⟨w.heap.size, 0, none⟩) 0 0, .int .i64 0, .bool false, .int .i64 0, .int .i64 0, .bool false, .int .i64 0, .int .i64 0, .int .i64 0].toArray 80)) := (bw1.trans (bp.mono bw1.size)).trans (bt.mono (by rw [z1]; have := bw1.size; omega))
    have ct := CellsAt.new (w1.alloc HO) [.func (.func E.oF) #[] E.oC, .slice g 0 sc, .slice (some ⟨w1.heap.size, 0, none⟩) 0 0, .slice (some ⟨w.heap.size, 0, none⟩) 0 0, .int .i64 0, .bool false, .int .i64 0, .int .i64 0, .bool false, .int .i64 0, .int .i64 0, .int .i64 0] 80
    rw [z1] at ct
    have GT := Lib.hid (show w.heap.size ≤ w1.heap.size + 1 by have := bw1.size; omega)
    have TT := Lib.hid (zero_made OK.out (P := w) HS.out bx ct ⟨g, sc, rfl⟩ rfl rfl rfl rfl GT.out)
    have BX := Lib.hid bx
    clear ct bx bt bp bw1 b0 ho1 hb1 z1 zb mkH mkL
    change Hid (DeadAt E _ false ((w1.alloc HO).alloc (.cells #[.func (.func E.oF) #[] E.oC, .slice g 0 sc, .slice (some ⟨w1.heap.size, 0, none⟩) 0 0, .slice (some ⟨w.heap.size, 0, none⟩) 0 0, .int .i64 0, .bool false, .int .i64 0, .int .i64 0, .bool false, .int .i64 0, .int .i64 0, .int .i64 0] 80)) Y 0 0 0 s) at TT
    change Hid (Below w.heap.size w ((w1.alloc HO).alloc (.cells #[.func (.func E.oF) #[] E.oC, .slice g 0 sc, .slice (some ⟨w1.heap.size, 0, none⟩) 0 0, .slice (some ⟨w.heap.size, 0, none⟩) 0 0, .int .i64 0, .bool false, .int .i64 0, .int .i64 0, .bool false, .int .i64 0, .int .i64 0, .int .i64 0] 80))) at BX
    generalize (w1.alloc HO).alloc (.cells #[.func (.func E.oF) #[] E.oC, .slice g 0 sc, .slice (some ⟨w1.heap.size, 0, none⟩) 0 0, .slice (some ⟨w.heap.size, 0, none⟩) 0 0, .int .i64 0, .bool false, .int .i64 0, .int .i64 0, .bool false, .int .i64 0, .int .i64 0, .int .i64 0] 80) = x at TT BX ⊢
    go_wp2_with fail
    go_ret2
    exact ⟨w1.heap.size + 1, rfl, GT.out, TT.out, BX.out⟩
  · have zb : ((w.alloc LO).alloc HO).drew.heap.size = w.heap.size + 1 + 1 := by show ((w.alloc LO).alloc HO).heap.size = _; simp
    have z1 : w1.heap.size = w1.heap.size := rfl
    rw [zb] at ho1 hb1
    have b0 := (((Below.refl w.heap.size w).alloc (by simp) LO).alloc (by simp <;> omega) HO).drew
    have bw1 : Below w.heap.size w w1 := b0.trans (hb1.mono (by omega))
    have bp : Below w1.heap.size w1 w1 := (Below.refl w1.heap.size w1)
    have bt := below_alloc w1 (.cells [.func (.func E.oF) #[] E.oC, .slice g 0 sc, .slice (some ⟨w.heap.size + 1, 0, none⟩) 0 0, .slice (some ⟨w.heap.size, 0, none⟩) 0 0, .int .i64 0, .bool false, .int .i64 0, .int .i64 0, .bool false, .int .i64 0, .int .i64 0, .int .i64 0].toArray 80)
    have bx : Below w.heap.size w (w1.alloc (.cells [.func (.func E.oF) #[] E.oC, .slice g 0 sc, .slice (some ⟨w.heap.size + 1, 0, none⟩) 0 0, .slice (some ⟨w.heap.size, 0, none⟩) 0 0, .int .i64 0, .bool false, .int .i64 0, .int .i64 0, .bool false, .int .i64 0, .int .i64 0, .int .i64 0].toArray 80)) := (bw1.trans (bp.mono bw1.size)).trans (bt.mono (by rw [z1]; have := bw1.size; omega))
    have ct := CellsAt.new w1 [.func (.func E.oF) #[] E.oC, .slice g 0 sc, .slice (some ⟨w.heap.size + 1, 0, none⟩) 0 0, .slice (some ⟨w.heap.size, 0, none⟩) 0 0, .int .i64 0, .bool false, .int .i64 0, .int .i64 0, .bool false, .int .i64 0, .int .i64 0, .int .i64 0] 80
    rw [z1] at ct
    have GT := Lib.hid (show w.heap.size ≤ w1.heap.size by have := bw1.size; omega)
    have TT := Lib.hid (zero_made OK.out (P := w) HS.out bx ct ⟨g, sc, rfl⟩ rfl rfl rfl rfl GT.out)
    have BX := Lib.hid bx
    clear ct bx bt bp bw1 b0 ho1 hb1 z1 zb mkH mkL
    change Hid (DeadAt E _ false (w1.alloc (.cells #[.func (.func E.oF) #[] E.oC, .slice g 0 sc, .slice (some ⟨w.heap.size + 1, 0, none⟩) 0 0, .slice (some ⟨w.heap.size, 0, none⟩) 0 0, .int .i64 0, .bool false, .int .i64 0, .int .i64 0, .bool false, .int .i64 0, .int .i64 0, .int .i64 0] 80)) Y 0 0 0 s) at TT
    change Hid (Below w.heap.size w (w1.alloc (.cells #[.func (.func E.oF) #[] E.oC, .slice g 0 sc, .slice (some ⟨w.heap.size + 1, 0, none⟩) 0 0, .slice (some ⟨w.heap.size, 0, none⟩) 0 0, .int .i64 0, .bool false, .int .i64 0, .int .i64 0, .bool false, .int .i64 0, .int .i64 0, .int .i64 0] 80))) at BX
    generalize w1.alloc (.cells #[.func (.func E.oF) #[] E.oC, .slice g 0 sc, .slice (some ⟨w.heap.size + 1, 0, none⟩) 0 0, .slice (some ⟨w.heap.size, 0, none⟩) 0 0, .int .i64 0, .bool false, .int .i64 0, .int .i64 0, .bool false, .int .i64 0, .int .i64 0, .int .i64 0] 80) = x at TT BX ⊢
    go_wp2_with fail
    go_ret2
    exact ⟨w1.heap.size, rfl, GT.out, TT.out, BX.out⟩
theorem new_nil {σ : Type} {E : Env σ} (ok : E.Ok 0) {w : World} {Y : Nat → Prop} {s : σ} (hS : E.S w Y s) : Calls Try.prog 12 #[.func (.func E.oF) #[] E.oC, .slice none 0 0] w (NewZ E w Y s) :=
  new_zero ok hS ⟨⟨none, 0, rfl, fun h => by omega⟩, fun _ _ _ _ h => by omega, fun _ _ _ _ i hi => by omega⟩ clone_src_nil
theorem new_empty {σ : Type} {E : Env σ} (ok : E.Ok 0) {w : World} {Y : Nat → Prop} {s : σ} (hS : E.S w Y s) (ad : Addr) (c : Nat) : Calls Try.prog 12 #[.func (.func E.oF) #[] E.oC, .slice (some ad) 0 c] w (NewZ E w Y s) :=
  new_zero ok hS ⟨⟨some ad, c, rfl, fun h => by omega⟩, fun _ _ _ _ h => by omega, fun _ _ _ _ i hi => by omega⟩ fun W => clone_src W ad 0 c [] rfl (fun j u hu => by simp at hu) (fun u hu => by cases hu) (by omega)
end Go.Proofs.Ytjlcbhblpofjhaa
