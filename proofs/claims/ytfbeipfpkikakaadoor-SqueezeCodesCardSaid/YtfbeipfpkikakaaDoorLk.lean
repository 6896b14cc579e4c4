/- Look. -/
import Derived.Test.YtfbeipfpkikakaaDoorHd
import Derived.Deep.RegionHeld3
namespace Go.Proofs.YtfbeipfpkikakaaDoor
open Go.RowKit

set_option maxRecDepth 100000
def RetLook (w : World) (m r d z p f : Int) (e : Ending) (w' : World) : Prop := e = .returned (.tuple #[.agg #[.int .i64 m, .int .i64 r, .int .i64 d, .int .i64 z], .int .i64 p, .int .i64 f]) ∧ Below w.heap.size w w'
set_option maxHeartbeats 1600000 in
theorem look_short (a : Option Addr) (cp n : Nat) (h : n < 12) (w : World) : Calls Tryd.prog 21 #[.slice a n cp] w (RetLook w 0 0 0 0 n 63) := by
  have t1 : decide ((n : Int) < 12) = true := decide_eq_true (by omega)
  go_enter Tryd.func21, Tryd.ntmps21
  go_wp2_with fail
  exact bodyPost_ret (v := .tuple #[.agg #[.int .i64 0, .int .i64 0, .int .i64 0, .int .i64 0], .int .i64 n, .int .i64 63]) (by simp [results, Tryd.results21, go_sem]) rfl ⟨rfl, below_alloc _ _⟩
set_option maxHeartbeats 1600000 in
theorem look_long (b off cp : Nat) (l : List UInt8) (h12 : 12 ≤ l.length) (hcp : l.length ≤ cp) (hl : cp ≤ 9223372036854775807) (w : World) (HB : HeldB w b off l) (T : Tabs w) (F : Nat × Nat) (m r d : Nat) (hm : m = (l.getD 1 0).toNat) (hr : r = numB (cutN l 2 3)) (hd : d = numB (cutN l 5 3)) (hF : F = faultN (l.getD 0 0).toNat m (numB (cutN l 8 4)) (sumN (cutN l 0 8)) r d) :
    Calls Tryd.prog 21 #[.slice (some ⟨b, off, none⟩) l.length cp] w (if F.2 = 0 then RetLook w m r d (16 + d) 0 0 else RetLook w 0 0 0 0 F.1 F.2) := by
  have l3 : (cutN l 2 3).length = 3 := cutN_len (by omega)
  have l5 : (cutN l 5 3).length = 3 := cutN_len (by omega)
  have c1 := HB.cell 1 (l.getD 1 0) (by simp [List.getD]; rw [List.getElem?_eq_getElem (by omega)]; rfl)
  have r3 := numB_bound (l := cutN l 2 3) (by omega)
  have r5 := numB_bound (l := cutN l 5 3) (by omega)
  have N2 := Lib.hid (fun (c : Nat) (W : World) (k : Below w.heap.size w W) => same_q (number_some b (off + 2) c (cutN l 2 3) (by omega) W ((HB.below k).cut 2 3).lt ((HB.below k).cut 2 3).cell))
  have N5 := Lib.hid (fun (c : Nat) (W : World) (k : Below w.heap.size w W) => same_q (number_some b (off + 5) c (cutN l 5 3) (by omega) W ((HB.below k).cut 5 3).lt ((HB.below k).cut 5 3).cell))
  have m8 := (l.getD 1 0).toNat_lt
  rw [l3] at N2
  rw [l5] at N5
  rw [← hr] at r3 N2
  rw [← hd] at r5 N5
  rw [← hm] at c1 m8
  have HFC := Lib.hid (fun (W : World) (k : Below w.heap.size w W) => headFault_ok b off cp l h12 hcp hl m r d (by omega) r3 r5 (16 + (d : Int)) W (HB.below k) (T.below k))
  rw [← hF] at HFC
  have hbl := HB.lt
  clear l3 l5 HB T hr hd hm hF
  generalize l.length = L at *
  by_cases hz : F.2 = 0
  · rw [if_pos hz]
    obtain ⟨F1, F2⟩ := F
    obtain rfl : F2 = 0 := hz
    have t1 : decide ((L : Int) < 12) = false := decide_eq_false (by omega)
    go_enter Tryd.func21, Tryd.ntmps21
    go_upto_region 3 with fail
    have A1 := Lib.hid (CellsAt.new w [.int .i64 0, .int .i64 0, .int .i64 0, .int .i64 0] 44)
    have B1 := Lib.hid (below_alloc w (Obj.cells #[.int .i64 0, .int .i64 0, .int .i64 0, .int .i64 0] 44))
    replace c1 := ((bcell B1.out).1 b (off + 1) hbl).trans c1
    have hs1 : w.heap.size < (w.alloc (Obj.cells #[.int .i64 0, .int .i64 0, .int .i64 0, .int .i64 0] 44)).heap.size := by simp
    generalize hX : w.alloc (Obj.cells #[.int .i64 0, .int .i64 0, .int .i64 0, .int .i64 0] 44) = x1 at *
    clear hX
    have C1 : x1.drew.cell? ⟨b, off + 1, none⟩ = some (.int .u8 m) := c1
    have hb1 : Below w.heap.size w x1.drew := B1.out.drew
    have i1 : (1 : Int) < (L : Int) := by omega
    have i2 : 1 < L := by omega
    have i3 : (5 : Int) ≤ (cp : Int) := by omega
    have i4 : (8 : Int) ≤ (cp : Int) := by omega
    have i5 : 5 ≤ cp := by omega
    have i6 : 8 ≤ cp := by omega
    have n2 : ¬ cp = 2 := by omega
    have n5 : ¬ cp = 5 := by omega
    have hb3 : Below w.heap.size w (x1.alloc (Obj.cells #[.int .i64 0, .int .i64 0, .int .i64 0, .int .i64 0] 44)).drew := (B1.out.alloc (by omega) _).drew
    have hb2 : Below w.heap.size w (x1.drew.alloc (Obj.cells #[.int .i64 0, .int .i64 0, .int .i64 0, .int .i64 0] 44)) := B1.out.drew.alloc (by show w.heap.size ≤ x1.heap.size; omega) _
    have wm : IntKind.i64.wrap (m : Int) = m := IntWalk.i64_in _ (by omega)
    have wr : IntKind.i64.wrap (r : Int) = r := IntWalk.i64_in _ (by omega)
    have wd : IntKind.i64.wrap (d : Int) = d := IntWalk.i64_in _ (by omega)
    go_region_held3 (fun w' => w'.cell? ⟨b, off + 1, none⟩ = some (.int .u8 m))
      (first | go_keep)
      ((first
        | (go_at_call 34; ((with_reducible refine (N2.out _ _ hb1).mono ?_); rintro e w6 ⟨rfl, rfl⟩))
        | (go_at_call 34; ((with_reducible refine (N2.out _ _ hb2).mono ?_); rintro e w6 ⟨rfl, rfl⟩))
        | (go_at_call 34; ((with_reducible refine (N2.out _ _ hb3).mono ?_); rintro e w6 ⟨rfl, rfl⟩))
        | (go_at_call 34; ((with_reducible refine (N5.out _ _ hb1).mono ?_); rintro e w6 ⟨rfl, rfl⟩))
        | (go_at_call 34; ((with_reducible refine (N5.out _ _ hb2).mono ?_); rintro e w6 ⟨rfl, rfl⟩))
        | (go_at_call 34; ((with_reducible refine (N5.out _ _ hb3).mono ?_); rintro e w6 ⟨rfl, rfl⟩))))
    all_goals
      have A2 := Lib.hid ((CellsAt.new x1 [.int .i64 m, .int .i64 r, .int .i64 d, .int .i64 0] 44).step (Below.refl _ _).drew)
      have Az := Lib.hid ((A1.out.alloc (Obj.cells #[.int .i64 m, .int .i64 r, .int .i64 d, .int .i64 0] 44)).step (Below.refl _ _).drew)
      have B2 := Lib.hid (B1.out.alloc (Nat.le_of_lt hs1) (Obj.cells #[.int .i64 m, .int .i64 r, .int .i64 d, .int .i64 0] 44)).drew
      clear C1 c1 hb1 hb2 hb3 wm wr wd A1 B1
      generalize hX : (x1.alloc (Obj.cells #[.int .i64 m, .int .i64 r, .int .i64 d, .int .i64 0] 44)).drew = y1 at *
      clear hX
      have a2 := A2.out.cell 2 _ rfl
      have f3 := A2.out.free 3
      have a3 := A2.out.cell 3 _ rfl
      go_upto_region 5 with fail
      have A3 := Lib.hid (A2.out.set 3 (.int .i64 (16 + (d : Int))) (by simp))
      have Az3 := Lib.hid (Az.out.other (c := x1.heap.size) (by omega) 3 (.int .i64 (16 + (d : Int))))
      have B3 := Lib.hid (B2.out.setCell (p := ⟨x1.heap.size, 3, none⟩) (by show w.heap.size ≤ x1.heap.size; omega) (.int .i64 (16 + (d : Int))))
      clear a2 f3 a3
      generalize hX : y1.setCell ⟨x1.heap.size, 3, none⟩ (.int .i64 (16 + (d : Int))) = y2 at *
      clear hX A2 Az B2
      have a0 := A3.out.cell 0 _ rfl
      have a1 := A3.out.cell 1 _ rfl
      have a2 := A3.out.cell 2 _ rfl
      have a3 := A3.out.cell 3 _ rfl
      go_wp2_with fail
      refine (HFC.out y2 B3.out).mono ?_
      rintro e w5 ⟨rfl, hb5⟩
      have A4 := Lib.hid (A3.out.step hb5)
      have Az4 := Lib.hid (Az3.out.step hb5)
      have B4 := Lib.hid (B3.out.trans (hb5.mono B3.out.size))
      clear a0 a1 a2 a3 hb5 A3 Az3 B3
      have a0 := A4.out.cell 0 _ rfl
      have a1 := A4.out.cell 1 _ rfl
      have a2 := A4.out.cell 2 _ rfl
      have a3 := A4.out.cell 3 _ rfl
      have z0 := Az4.out.cell 0 _ rfl
      have z1 := Az4.out.cell 1 _ rfl
      have z2 := Az4.out.cell 2 _ rfl
      have z3 := Az4.out.cell 3 _ rfl
      have g0 := Az4.out.free 0
      have g1 := Az4.out.free 1
      have g2 := Az4.out.free 2
      have g3 := Az4.out.free 3
      go_wp2_with fail
      have E := Lib.hid ((((Az4.out.set 0 (.int .i64 m) (by simp)).set 1 (.int .i64 r) (by simp)).set 2 (.int .i64 d) (by simp)).set 3 (.int .i64 (16 + (d : Int))) (by simp))
      have BE := Lib.hid ((((B4.out.setCell (p := ⟨w.heap.size, 0, none⟩) (Nat.le_refl _) (.int .i64 m)).setCell (p := ⟨w.heap.size, 1, none⟩) (Nat.le_refl _) (.int .i64 r)).setCell (p := ⟨w.heap.size, 2, none⟩) (Nat.le_refl _) (.int .i64 d)).setCell (p := ⟨w.heap.size, 3, none⟩) (Nat.le_refl _) (.int .i64 (16 + (d : Int))))
      generalize (((w5.setCell ⟨w.heap.size, 0, none⟩ (.int .i64 m)).setCell ⟨w.heap.size, 1, none⟩ (.int .i64 r)).setCell ⟨w.heap.size, 2, none⟩ (.int .i64 d)).setCell ⟨w.heap.size, 3, none⟩ (.int .i64 (16 + (d : Int))) = y3 at E BE ⊢
      have e0 := E.out.cell 0 _ rfl
      have e1 := E.out.cell 1 _ rfl
      have e2 := E.out.cell 2 _ rfl
      have e3 := E.out.cell 3 _ rfl
      clear a0 a1 a2 a3 z0 z1 z2 z3 g0 g1 g2 g3
      exact bodyPost_ret (v := .tuple #[.agg #[.int .i64 m, .int .i64 r, .int .i64 d, .int .i64 (16 + (d : Int))], .int .i64 0, .int .i64 0]) (by simp [results, Tryd.results21, go_sem, e0, e1, e2, e3]) rfl ⟨rfl, BE.out⟩
  · rw [if_neg hz]
    have tz : ((F.2 : Int) != 0) = true := by simp; omega
    have t1 : decide ((L : Int) < 12) = false := decide_eq_false (by omega)
    go_enter Tryd.func21, Tryd.ntmps21
    go_upto_region 3 with fail
    have A1 := Lib.hid (CellsAt.new w [.int .i64 0, .int .i64 0, .int .i64 0, .int .i64 0] 44)
    have B1 := Lib.hid (below_alloc w (Obj.cells #[.int .i64 0, .int .i64 0, .int .i64 0, .int .i64 0] 44))
    replace c1 := ((bcell B1.out).1 b (off + 1) hbl).trans c1
    have hs1 : w.heap.size < (w.alloc (Obj.cells #[.int .i64 0, .int .i64 0, .int .i64 0, .int .i64 0] 44)).heap.size := by simp
    generalize hX : w.alloc (Obj.cells #[.int .i64 0, .int .i64 0, .int .i64 0, .int .i64 0] 44) = x1 at *
    clear hX
    have C1 : x1.drew.cell? ⟨b, off + 1, none⟩ = some (.int .u8 m) := c1
    have hb1 : Below w.heap.size w x1.drew := B1.out.drew
    have i1 : (1 : Int) < (L : Int) := by omega
    have i2 : 1 < L := by omega
    have i3 : (5 : Int) ≤ (cp : Int) := by omega
    have i4 : (8 : Int) ≤ (cp : Int) := by omega
    have i5 : 5 ≤ cp := by omega
    have i6 : 8 ≤ cp := by omega
    have n2 : ¬ cp = 2 := by omega
    have n5 : ¬ cp = 5 := by omega
    have hb3 : Below w.heap.size w (x1.alloc (Obj.cells #[.int .i64 0, .int .i64 0, .int .i64 0, .int .i64 0] 44)).drew := (B1.out.alloc (by omega) _).drew
    have hb2 : Below w.heap.size w (x1.drew.alloc (Obj.cells #[.int .i64 0, .int .i64 0, .int .i64 0, .int .i64 0] 44)) := B1.out.drew.alloc (by show w.heap.size ≤ x1.heap.size; omega) _
    have wm : IntKind.i64.wrap (m : Int) = m := IntWalk.i64_in _ (by omega)
    have wr : IntKind.i64.wrap (r : Int) = r := IntWalk.i64_in _ (by omega)
    have wd : IntKind.i64.wrap (d : Int) = d := IntWalk.i64_in _ (by omega)
    go_region_held3 (fun w' => w'.cell? ⟨b, off + 1, none⟩ = some (.int .u8 m))
      (first | go_keep)
      ((first
        | (go_at_call 34; ((with_reducible refine (N2.out _ _ hb1).mono ?_); rintro e w6 ⟨rfl, rfl⟩))
        | (go_at_call 34; ((with_reducible refine (N2.out _ _ hb2).mono ?_); rintro e w6 ⟨rfl, rfl⟩))
        | (go_at_call 34; ((with_reducible refine (N2.out _ _ hb3).mono ?_); rintro e w6 ⟨rfl, rfl⟩))
        | (go_at_call 34; ((with_reducible refine (N5.out _ _ hb1).mono ?_); rintro e w6 ⟨rfl, rfl⟩))
        | (go_at_call 34; ((with_reducible refine (N5.out _ _ hb2).mono ?_); rintro e w6 ⟨rfl, rfl⟩))
        | (go_at_call 34; ((with_reducible refine (N5.out _ _ hb3).mono ?_); rintro e w6 ⟨rfl, rfl⟩))))
    all_goals
      have A2 := Lib.hid ((CellsAt.new x1 [.int .i64 m, .int .i64 r, .int .i64 d, .int .i64 0] 44).step (Below.refl _ _).drew)
      have Az := Lib.hid ((A1.out.alloc (Obj.cells #[.int .i64 m, .int .i64 r, .int .i64 d, .int .i64 0] 44)).step (Below.refl _ _).drew)
      have B2 := Lib.hid (B1.out.alloc (Nat.le_of_lt hs1) (Obj.cells #[.int .i64 m, .int .i64 r, .int .i64 d, .int .i64 0] 44)).drew
      clear C1 c1 hb1 hb2 hb3 wm wr wd A1 B1
      generalize hX : (x1.alloc (Obj.cells #[.int .i64 m, .int .i64 r, .int .i64 d, .int .i64 0] 44)).drew = y1 at *
      clear hX
      have a2 := A2.out.cell 2 _ rfl
      have f3 := A2.out.free 3
      have a3 := A2.out.cell 3 _ rfl
      go_upto_region 5 with fail
      have A3 := Lib.hid (A2.out.set 3 (.int .i64 (16 + (d : Int))) (by simp))
      have Az3 := Lib.hid (Az.out.other (c := x1.heap.size) (by omega) 3 (.int .i64 (16 + (d : Int))))
      have B3 := Lib.hid (B2.out.setCell (p := ⟨x1.heap.size, 3, none⟩) (by show w.heap.size ≤ x1.heap.size; omega) (.int .i64 (16 + (d : Int))))
      clear a2 f3 a3
      generalize hX : y1.setCell ⟨x1.heap.size, 3, none⟩ (.int .i64 (16 + (d : Int))) = y2 at *
      clear hX A2 Az B2
      have a0 := A3.out.cell 0 _ rfl
      have a1 := A3.out.cell 1 _ rfl
      have a2 := A3.out.cell 2 _ rfl
      have a3 := A3.out.cell 3 _ rfl
      go_wp2_with fail
      refine (HFC.out y2 B3.out).mono ?_
      rintro e w5 ⟨rfl, hb5⟩
      have A4 := Lib.hid (A3.out.step hb5)
      have Az4 := Lib.hid (Az3.out.step hb5)
      have B4 := Lib.hid (B3.out.trans (hb5.mono B3.out.size))
      clear a0 a1 a2 a3 hb5 A3 Az3 B3
      have a0 := A4.out.cell 0 _ rfl
      have a1 := A4.out.cell 1 _ rfl
      have a2 := A4.out.cell 2 _ rfl
      have a3 := A4.out.cell 3 _ rfl
      have z0 := Az4.out.cell 0 _ rfl
      have z1 := Az4.out.cell 1 _ rfl
      have z2 := Az4.out.cell 2 _ rfl
      have z3 := Az4.out.cell 3 _ rfl
      have g0 := Az4.out.free 0
      have g1 := Az4.out.free 1
      have g2 := Az4.out.free 2
      have g3 := Az4.out.free 3
      go_wp2_with fail
      have E := Lib.hid ((((Az4.out.set 0 (.int .i64 0) (by simp)).set 1 (.int .i64 0) (by simp)).set 2 (.int .i64 0) (by simp)).set 3 (.int .i64 0) (by simp))
      have BE := Lib.hid ((((B4.out.setCell (p := ⟨w.heap.size, 0, none⟩) (Nat.le_refl _) (.int .i64 0)).setCell (p := ⟨w.heap.size, 1, none⟩) (Nat.le_refl _) (.int .i64 0)).setCell (p := ⟨w.heap.size, 2, none⟩) (Nat.le_refl _) (.int .i64 0)).setCell (p := ⟨w.heap.size, 3, none⟩) (Nat.le_refl _) (.int .i64 0))
      generalize (((w5.setCell ⟨w.heap.size, 0, none⟩ (.int .i64 0)).setCell ⟨w.heap.size, 1, none⟩ (.int .i64 0)).setCell ⟨w.heap.size, 2, none⟩ (.int .i64 0)).setCell ⟨w.heap.size, 3, none⟩ (.int .i64 0) = y3 at E BE ⊢
      have e0 := E.out.cell 0 _ rfl
      have e1 := E.out.cell 1 _ rfl
      have e2 := E.out.cell 2 _ rfl
      have e3 := E.out.cell 3 _ rfl
      clear a0 a1 a2 a3 z0 z1 z2 z3 g0 g1 g2 g3
      exact bodyPost_ret (v := .tuple #[.agg #[.int .i64 0, .int .i64 0, .int .i64 0, .int .i64 0], .int .i64 F.1, .int .i64 F.2]) (by simp [results, Tryd.results21, go_sem, e0, e1, e2, e3]) rfl ⟨rfl, BE.out⟩
end Go.Proofs.YtfbeipfpkikakaaDoor
