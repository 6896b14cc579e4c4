/- The heap: drop. -/
import Derived.Test.YthajgfldjjgkiaaNh
import Derived.Sort.OwnSortedInts
import Derived.Test.YthajgfldjjgkiaaShelf
namespace Go.Proofs.Ythajgfldjjgkiaa
open Go.RowKit
set_option maxRecDepth 100000

theorem blk_ne {w : World} {a b : Nat} {s t : TypeId} {xs ys : List Value} (h : BlkAt w a s xs) (k : BlkAt w b t ys) (ht : s ≠ t) : a ≠ b := by
  rintro rfl
  unfold BlkAt at h k
  rw [h] at k
  injection k with k
  injection k with _ k
  exact ht k
/-- A heap in its variable. -/
structure HAt (w : World) (hb g m N : Nat) (F : Nat → Rn) : Prop where
  box : BlkAt w hb 59 [.slice (some ⟨g, 0, none⟩) m N]
  row : BlkAt w g 70 (rnV F N)
  le : m ≤ N
  lt : N ≤ 65536
theorem HAt.ne {w : World} {hb g m N : Nat} {F : Nat → Rn} (h : HAt w hb g m N F) : hb ≠ g := blk_ne h.box h.row (by decide)
theorem HAt.below {w w' : World} {hb g m N : Nat} {F : Nat → Rn} (h : HAt w hb g m N F) (k : Below w.heap.size w w') : HAt w' hb g m N F := ⟨h.box.below k, h.row.below k, h.le, h.lt⟩
theorem HAt.kp {w w' : World} {hb g m N : Nat} {F : Nat → Rn} {S : Nat → Prop} (h : HAt w hb g m N F) (k : Kp w w' S) (h1 : ¬ S hb) (h2 : ¬ S g) : HAt w' hb g m N F := ⟨h.box.kp k h1, h.row.kp k h2, h.le, h.lt⟩
def two (a b : Nat) : Nat → Prop := fun k => k = a ∨ k = b
def DropR (w : World) (hb g m N : Nat) (F : Nat → Rn) (A : List Int) (e : Ending) (w' : World) : Prop := e = .returned (.tuple #[]) ∧ ∃ G, HAt w' hb g m N G ∧ Heap 0 G m ∧ Cont G m (InL (A.set (F 0).num (-1))) ∧ Kp w w' (two hb g)
set_option maxHeartbeats 2000000 in
theorem drop_ok {w : World} {hb g m N : Nat} {F : Nat → Rn} {A : List Int} (h : HAt w hb g (m + 1) N F) (hh : Heap 0 F (m + 1)) (hc : Cont F (m + 1) (InL A)) (hm : 1 ≤ m) :
    Calls Try.prog 44 #[.pointer (some ⟨hb, 0, none⟩)] w (DropR w hb g m N F A) := by
  have H := Lib.hid h
  have HC := Lib.hid (cont_drop hc)
  have HH := Lib.hid (hh.put (k := m) (by omega) (F m))
  have c0 := h.box.cell 0 _ rfl
  have lhb := h.box.lt
  have hN := h.le
  have hN2 := h.lt
  have e0 := h.row.cell (m * 2) _ (rnV_at F N m (by omega)).1
  have e1 := h.row.cell (m * 2 + 1) _ (rnV_at F N m (by omega)).2
  have z0 := h.row.cell 0 _ (rnV_at F N 0 (by omega)).1
  have z1 := h.row.cell 1 _ (rnV_at F N 0 (by omega)).2
  have f0 := h.row.free 0
  have f1 := h.row.free 1
  have lg := h.row.lt
  have fb := h.box.free 0
  have im : (m : Int) < (m : Int) + 1 := by omega
  have im0 : (0 : Int) ≤ (m : Int) := by omega
  have ne := h.ne
  have e3 : IntKind.i64.wrap ((m : Int) + 1 - 1) = (m : Int) := by rw [show (m : Int) + 1 - 1 = (m : Int) by omega]; exact IntWalk.i64_in _ (by omega)
  clear h hh hc
  go_enter Try.func44, Try.ntmps44
  go_wp2_with fail
  go_quiet (fail)
  have H2 := Lib.hid (show HAt (w.drewN nq) hb g (m + 1) N F from H.out.below (below_drewN w nq))
  have K2 := Lib.hid (show Kp w (w.drewN nq) (two hb g) from Kp.of _ (below_drewN w nq))
  clear c0 e0 e1 z0 z1 f0 f1 fb H lhb lg
  generalize w.drewN nq = x at *
  have c0 := H2.out.box.cell 0 _ rfl
  have lhb := H2.out.box.lt
  have e0 := H2.out.row.cell (m * 2) _ (rnV_at F N m (by omega)).1
  have e1 := H2.out.row.cell (m * 2 + 1) _ (rnV_at F N m (by omega)).2
  have f0 := H2.out.row.free 0
  have f1 := H2.out.row.free 1
  have z0 := H2.out.row.cell 0 _ (rnV_at F N 0 (by omega)).1
  have z1 := H2.out.row.cell 1 _ (rnV_at F N 0 (by omega)).2
  have lg := H2.out.row.lt
  have P := Lib.hid (blk_put H2.out.row 0 (by omega) (F m))
  rw [show 0 * 2 = 0 from rfl, show 0 + 1 = 1 from rfl] at P
  have PK := Lib.hid (K2.out.tr ((Kp.set x g 0 (.int .i64 ((F m).wt : Int))).tr (Kp.set _ g 1 (.int .i64 ((F m).num : Int))) |>.mono (fun _ _ e => Or.inr e)))
  have BX := Lib.hid ((H2.out.box.other ne.symm 0 (.int .i64 ((F m).wt : Int))).other ne.symm 1 (.int .i64 ((F m).num : Int)))
  generalize F m = z at *
  have HNE := Lib.hid ne
  go_upto_region 2 with fail
  clear c0 e0 e1 f0 f1 z0 z1 lg lhb H2 K2
  generalize (x.setCell ⟨g, 0, none⟩ (.int .i64 (z.wt : Int))).setCell ⟨g, 1, none⟩ (.int .i64 (z.num : Int)) = y at *
  have c0 := BX.out.cell 0 _ rfl
  have lhb := BX.out.lt
  have fb := BX.out.free 0
  have B3 := Lib.hid (BX.out.set 0 (.slice (some ⟨g, 0, none⟩) m N))
  have R3 := Lib.hid (P.out.other HNE.out 0 (.slice (some ⟨g, 0, none⟩) m N))
  have K3 := Lib.hid (PK.out.tr ((Kp.set y hb 0 (.slice (some ⟨g, 0, none⟩) m N)).mono (fun _ _ e => Or.inl e)))
  clear BX P PK
  go_upto_region 3 with fail
  clear c0 lhb fb
  generalize y.setCell ⟨hb, 0, none⟩ (.slice (some ⟨g, 0, none⟩) m N) = u at *
  have c0 := B3.out.cell 0 _ rfl
  have lhb := B3.out.lt
  have SK := Lib.hid (sink_ok (w := u) (lo := 0) R3.out (show m ≤ N by omega) (by omega) hN2 HH.out)
  go_wp2_with fail
  refine SK.out.mono ?_
  rintro e w3 ⟨rfl, G, g1, g2, g3⟩
  have FIN := Lib.hid (show DropR w hb g m N F A (.returned (.tuple #[])) w3 from ⟨rfl, G, ⟨B3.out.kp g3 HNE.out, g1, by omega, hN2⟩, g2.1, g2.2 _ HC.out, K3.out.tr (g3.mono (fun _ _ e => Or.inr e))⟩)
  clear g1 g2 g3
  go_wp2_with fail
  go_end0
  exact FIN.out
end Go.Proofs.Ythajgfldjjgkiaa
