/- Forty bytes 97, packed. -/
import Derived.Test.YtfbeipfpkikakaaDoorAv
namespace Go.Proofs.YtfbeipfpkikakaaDoor
open Go.RowKit

set_option maxRecDepth 100000
def nilV : Value := .slice none 0 0
theorem layA0 {w : World} {bv : Value} (hb : SlB w bv aL) (T : Tabs w) : Calls Tryd.prog 39 #[bv, .slice none 0 0] w (RetLy w (.slice none 0 0) aF0 208) := by
  have hr : SlR w (.slice none 0 0) [] := ⟨none, 0, rfl, .inl rfl⟩
  have h := layout39_ok (l := aL) (reps := []) hb (by decide) hr T aReps0 (by decide) (by rw [aS0_eq]; decide) (by rw [aS0_eq]; exact ok00) (by rw [aS0_eq]; exact ok01) (fun j => by rw [aS0_eq, best0]; exact aF0_lt j)
  rw [aS0_eq, best0, bits0] at h
  exact h
theorem layA1 {w : World} {bv rv : Value} (hb : SlB w bv aL) (hr : SlR w rv [⟨1, 1, 39⟩]) (T : Tabs w) : Calls Tryd.prog 39 #[bv, rv] w (RetLy w rv aF1 199) := by
  have h := layout39_ok (l := aL) (reps := [⟨1, 1, 39⟩]) hb (by decide) hr T aReps1 (by decide) (by rw [aS1_eq]; decide) (by rw [aS1_eq]; exact ok10) (by rw [aS1_eq]; exact ok11) (fun j => by rw [aS1_eq, best1]; exact aF1_lt j)
  rw [aS1_eq, best1, bits1] at h
  exact h
theorem LyAt.of {w : World} {lp n : Nat} {rv : Value} {F : Nat → Nat} (h : BlkAt w lp 71 (layL rv F n)) : LyAt w lp F n rv :=
  ⟨h.cells.lt, h.cells.cell 0 _ rfl, fun j hj => h.cells.cell (1 + j) _ (layL_len' hj), h.cells.cell 303 _ (layL_bits _ _ _)⟩
theorem bodyA {w : World} {lp : Nat} {bv rv : Value} (h : BlkAt w lp 71 (layL rv aF1 199)) (hb : SlB w bv aL) (hr : SlR w rv [⟨1, 1, 39⟩]) (T : Tabs w) :
    Calls Tryd.prog 42 #[.pointer (some ⟨lp, 0, none⟩), bv] w (RetOwn w.heap.size w aBody) := by
  have k := body_ok (l := aL) (reps := [⟨1, 1, 39⟩]) (LyAt.of h) (by decide) aF1_lt aF1_code hb (by decide) hr T aReps1 (by decide) (by rw [aS1_eq]; decide)
  rw [aS1_eq] at k
  exact k
def RetPk (w : World) (e : Ending) (w' : World) : Prop := ∃ v, e = .returned (.tuple #[v, .int .i64 0]) ∧ OwnB w' w.heap.size v (frameN 2 40 aBody) ∧ Below w.heap.size w w'
set_option maxHeartbeats 3200000 in
theorem packA_ok {w : World} {bb bo bc : Nat} (hb : bb < w.heap.size) (hby : ∀ j, j < 40 → w.cell? ⟨bb, bo + j, none⟩ = some (.int .u8 97)) (T : Tabs w) : Calls Tryd.prog 28 #[.slice (some ⟨bb, bo, none⟩) 40 bc] w (RetPk w) := by
  have SB := Lib.hid (show SlB w (.slice (some ⟨bb, bo, none⟩) 40 bc) aL from ⟨_, _, rfl, fun h => (by cases h), .inr ⟨bb, bo, rfl, hb, fun j u hu => by
    have hj : j < 40 := (List.getElem?_eq_some_iff.1 hu).1
    have e : u = 97 := List.eq_of_mem_replicate (List.mem_of_getElem? hu)
    subst e
    exact hby j hj⟩⟩)
  have HY := Lib.hid hby
  have HT := Lib.hid T
  have Z71 := Lib.hid zero71
  have L0 := Lib.hid (layA0 SB.out T)
  clear hby T
  go_enter Tryd.func28, Tryd.ntmps28
  go_wp2_with fail
  refine L0.out.mono ?_
  rintro e w1 ⟨rfl, hb1⟩
  obtain ⟨P, hP⟩ : ∃ P, P = w1.heap.size := ⟨_, rfl⟩
  have GP := Lib.hid (show w.heap.size ≤ P by rw [hP]; exact hb1.size)
  have TH := newB_there w1 71 (layL (.slice none 0 0) (fun _ => 0) 0)
  have KB := newB_blk w1 71 (layL (.slice none 0 0) (fun _ => 0) 0) (layL (.slice none 0 0) aF0 208) (by rw [layL_len, layL_len])
  have BL := newB_below w1 71 (layL (.slice none 0 0) (fun _ => 0) 0) (layL (.slice none 0 0) aF0 208)
  have S1 : w1.heap.size = P := hP.symm
  rw [S1] at TH KB BL
  rw [layL_len] at TH
  have HTH := Lib.hid (show (w1.alloc (.cells (layL (.slice none 0 0) (fun _ => 0) 0).toArray 71)).there P 0 (layL (.slice none 0 0) aF0 208).toArray.size by simpa [layL_len] using TH)
  have HKB := Lib.hid KB
  have HB2 := Lib.hid (hb1.trans (BL.mono GP.out))
  clear TH KB BL hb1 hP L0
  go_upto_region 4 with (first
    | (guard_target =~ wpList _ _ _ (⟨some _, Op.alloc 71, _, _, _, _⟩ :: _) _ _; go_must (refine wp_alloc0 rfl 71 rfl _ Z71.out ?_; simp only [Value.cells, S1]))
    | (guard_target =~ wpList _ _ _ (⟨none, Op.store 71 _ _, _, _, _, _⟩ :: _) _ _; go_must (refine wpList_store_mid rfl 71 _ _ rfl P 0 (layL (.slice none 0 0) aF0 208).toArray rfl rfl HTH.out (info71a _ _ _) (layL_one rfl _ _) ?_; simp only [List.toList_toArray])))
  clear HTH S1
  generalize (w1.alloc (.cells (layL (.slice none 0 0) (fun _ => 0) 0).toArray 71)).setCells P 0 (layL (.slice none 0 0) aF0 208) = w2 at *
  have RP := Lib.hid (repeatsOf_ok (w := w2) (bb := bb) (bo := bo) (bc := bc) (Nat.lt_of_lt_of_le hb HB2.out.size) (fun j hj => ((bcell HB2.out).1 bb _ hb).trans (HY.out j hj)))
  go_wp2_with fail
  refine RP.out.mono ?_
  rintro e w3 ⟨rv, rfl, hr, hb3⟩
  obtain ⟨ra, rc, rfl⟩ := hr.form
  have HR3 := Lib.hid hr
  have HB3 := Lib.hid (HB2.out.trans (hb3.mono HB2.out.size))
  have HK3 := Lib.hid (HKB.out.below hb3)
  clear hr hb3 RP HKB HB2
  have L1 := Lib.hid (layA1 (SB.out.below HB3.out) HR3.out.slr (HT.out.below HB3.out))
  go_wp2_with fail
  refine L1.out.mono ?_
  rintro e w4 ⟨rfl, hb4⟩
  have HR4 := Lib.hid (HR3.out.below hb4)
  have HB4 := Lib.hid (HB3.out.trans (hb4.mono HB3.out.size))
  have HK4 := Lib.hid (HK3.out.below hb4)
  clear HR3 HB3 HK3 hb4 L1
  obtain ⟨rv, hrv⟩ : ∃ rv, rv = Value.slice (some ⟨ra, 0, none⟩) 1 rc := ⟨_, rfl⟩
  rw [← hrv] at HR4 ⊢
  have rv1 : rv.oneCell' = true := by rw [hrv]; rfl
  clear hrv
  obtain ⟨Q, hQ⟩ : ∃ Q, Q = w4.heap.size := ⟨_, rfl⟩
  have GQ := Lib.hid (show w.heap.size ≤ Q by rw [hQ]; exact HB4.out.size)
  have PQ : P < Q := by rw [hQ]; exact HK4.out.cells.lt
  have TH := newB_there w4 71 (layL (.slice none 0 0) (fun _ => 0) 0)
  have KB := newB_blk w4 71 (layL (.slice none 0 0) (fun _ => 0) 0) (layL rv aF1 199) (by rw [layL_len, layL_len])
  have BL := newB_below w4 71 (layL (.slice none 0 0) (fun _ => 0) 0) (layL rv aF1 199)
  have S4 : w4.heap.size = Q := hQ.symm
  have HK5 := Lib.hid (HK4.out.below BL)
  have HR5 := Lib.hid (HR4.out.below BL)
  have HB5 := Lib.hid (HB4.out.trans (BL.mono HB4.out.size))
  rw [S4] at TH KB HK5 HR5 HB5
  rw [layL_len] at TH
  have HTH := Lib.hid (show (w4.alloc (.cells (layL (.slice none 0 0) (fun _ => 0) 0).toArray 71)).there Q 0 (layL rv aF1 199).toArray.size by simpa [layL_len] using TH)
  have HKB := Lib.hid KB
  clear TH KB BL hQ HK4 HB4 HR4
  go_upto_region 5 with (first
    | (guard_target =~ wpList _ _ _ (⟨some _, Op.alloc 71, _, _, _, _⟩ :: _) _ _; go_must (refine wp_alloc0 rfl 71 rfl _ Z71.out ?_; simp only [Value.cells, S4]))
    | (guard_target =~ wpList _ _ _ (⟨none, Op.store 71 _ _, _, _, _, _⟩ :: _) _ _; go_must (refine wpList_store_mid rfl 71 _ _ rfl Q 0 (layL rv aF1 199).toArray rfl rfl HTH.out (info71a _ _ _) (layL_one rv1 _ _) ?_; simp only [List.toList_toArray])))
  clear HTH S4
  generalize (w4.alloc (.cells (layL (.slice none 0 0) (fun _ => 0) 0).toArray 71)).setCells Q 0 (layL rv aF1 199) = w5 at *
  have c199 : w5.cell? ⟨Q, 303, none⟩ = some (.int .i64 199) := HKB.out.cells.cell 303 _ (layL_bits _ _ _)
  have c208 : w5.cell? ⟨P, 303, none⟩ = some (.int .i64 208) := HK5.out.cells.cell 303 _ (layL_bits _ _ _)
  have lQ := HKB.out.cells.lt
  have lP := HK5.out.cells.lt
  go_upto_region 6 with fail
  clear c199 c208 lQ lP
  have RG := Lib.hid HKB.out.cells.range
  have TH := Lib.hid (show w5.there P 0 (layL rv aF1 199).toArray.size by have := HK5.out.cells.there; simpa [layL_len] using this)
  have K6 := Lib.hid (HK5.out.setsAll (us := layL rv aF1 199) (by rw [layL_len, layL_len]))
  have B6 := Lib.hid (below_sets P GP.out (layL rv aF1 199) 0 HB5.out)
  go_upto_region 7 with (first
    | (guard_target =~ wpList _ _ _ (⟨some _, Op.load 71 _, _, _, _, _⟩ :: _) _ _; go_must (refine wpList_load_mid rfl 71 _ rfl Q 0 rfl (layL rv aF1 199) _ RG.out Tryd.underlying71 rfl (info71n _ _ _) ?_))
    | (guard_target =~ wpList _ _ _ (⟨none, Op.store 71 _ _, _, _, _, _⟩ :: _) _ _; go_must (refine wpList_store_mid rfl 71 _ _ rfl P 0 (layL rv aF1 199).toArray rfl rfl TH.out (info71a _ _ _) (layL_one rv1 _ _) ?_; simp only [List.toList_toArray])))
  have HR6 := Lib.hid (HR5.out.osets HK5.out (by decide) (layL rv aF1 199) 0)
  clear RG TH HR5 HB5 HK5 HKB
  generalize w5.setCells P 0 (layL rv aF1 199) = w6 at *
  have c199 : w6.cell? ⟨P, 303, none⟩ = some (.int .i64 199) := K6.out.cells.cell 303 _ (layL_bits _ _ _)
  have lP := K6.out.cells.lt
  have BO := Lib.hid (bytesOf_ok 199 (by omega) w6)
  have BD := Lib.hid (bodyA K6.out (SB.out.below B6.out) HR6.out.slr (HT.out.below B6.out))
  clear HR6
  go_wp2_with fail
  refine BO.out.mono ?_
  rintro e w7 ⟨rfl, rfl⟩
  go_wp2_with fail
  refine BD.out.mono ?_
  rintro e w7 ⟨u, rfl, hu, hb7, _⟩
  have FR := Lib.hid (framed_ok 2 40 (by omega) u aBody w7 hu.sl (by rw [aBody_len]; omega) (HT.out.below (B6.out.trans (hb7.mono B6.out.size))))
  have HB7 := Lib.hid (B6.out.trans (hb7.mono B6.out.size))
  clear hu hb7 BD BO K6
  go_wp2_with fail
  refine FR.out.mono ?_
  rintro e w8 ⟨v, rfl, hv, hb8, _⟩
  have OV := Lib.hid (hv.mono HB7.out.size)
  have B8 := Lib.hid (HB7.out.trans (hb8.mono HB7.out.size))
  clear hv hb8 FR
  go_wp2_with fail
  go_ret2
  exact ⟨v, rfl, OV.out, B8.out⟩
end Go.Proofs.YtfbeipfpkikakaaDoor
