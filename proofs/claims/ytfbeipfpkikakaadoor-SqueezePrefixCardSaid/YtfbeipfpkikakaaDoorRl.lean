/- The document's Look; SqueezeLooks but for alive. -/
import Derived.Test.YtfbeipfpkikakaaDoorSt
namespace Go.Proofs.YtfbeipfpkikakaaDoor
open Go.RowKit

set_option maxRecDepth 100000
set_option maxHeartbeats 1600000 in
theorem refLook_short (a : Option Addr) (cp n : Nat) (h : n < 12) (w : World) : Calls Tryd.prog 22 #[.slice a n cp] w (RetLook w 0 0 0 0 n 63) := by
  have t1 : decide ((n : Int) < 12) = true := decide_eq_true (by omega)
  go_enter Tryd.func22, Tryd.ntmps22
  go_wp2_with fail
  exact bodyPost_ret (v := .tuple #[.agg #[.int .i64 0, .int .i64 0, .int .i64 0, .int .i64 0], .int .i64 n, .int .i64 63]) (by simp [results, Tryd.results22, go_sem]) rfl ⟨rfl, below_alloc _ _⟩
set_option maxHeartbeats 3200000 in
theorem refLook_long (b off cp : Nat) (l : List UInt8) (h12 : 12 ≤ l.length) (hcp : l.length ≤ cp) (hl : cp ≤ 9223372036854775807) (w : World) (HB : HeldB w b off l) (F : Nat × Nat) (m r d : Nat) (hm : m = (l.getD 1 0).toNat) (hr : r = numB (cutN l 2 3)) (hd : d = numB (cutN l 5 3)) (hF : F = faultN (l.getD 0 0).toNat m (numB (cutN l 8 4)) (sumN (cutN l 0 8)) r d) :
    Calls Tryd.prog 22 #[.slice (some ⟨b, off, none⟩) l.length cp] w (if F.2 = 0 then RetLook w m r d (16 + d) 0 0 else RetLook w 0 0 0 0 F.1 F.2) := by
  have l3 : (cutN l 2 3).length = 3 := cutN_len (by omega)
  have l5 : (cutN l 5 3).length = 3 := cutN_len (by omega)
  have l4 : (cutN l 8 4).length = 4 := cutN_len (by omega)
  have l8 : (cutN l 0 8).length = 8 := cutN_len (by omega)
  have c0 := HB.cell 0 (l.getD 0 0) (by simp [List.getD]; rw [List.getElem?_eq_getElem (by omega)]; rfl)
  have c1 := HB.cell 1 (l.getD 1 0) (by simp [List.getD]; rw [List.getElem?_eq_getElem (by omega)]; rfl)
  have r3 := numB_bound (l := cutN l 2 3) (by omega)
  have r5 := numB_bound (l := cutN l 5 3) (by omega)
  have b4 := numB_bound4 (l := cutN l 8 4) (by omega)
  have b8 : sumN (cutN l 0 8) < 2 ^ 32 := sumMoreN_lt (by decide) _
  have N2 := Lib.hid (fun (c : Nat) (W : World) (k : Below w.heap.size w W) => value_some b (off + 2) c (cutN l 2 3) (by omega) W ((HB.below k).cut 2 3).lt ((HB.below k).cut 2 3).cell)
  have N5 := Lib.hid (fun (c : Nat) (W : World) (k : Below w.heap.size w W) => value_some b (off + 5) c (cutN l 5 3) (by omega) W ((HB.below k).cut 5 3).lt ((HB.below k).cut 5 3).cell)
  have NB := Lib.hid (fun (c : Nat) (W : World) (k : Below w.heap.size w W) => same_q (value_some b (off + 8) c (cutN l 8 4) (by omega) W ((HB.below k).cut 8 4).lt ((HB.below k).cut 8 4).cell))
  have SB := Lib.hid (fun (c : Nat) (W : World) (k : Below w.heap.size w W) => same_q (refSum_ok _ (cutN l 0 8) W (by omega) (((HB.below k).cut 0 8).sl (c := c))))
  have h0 := (l.getD 0 0).toNat_lt
  have m8 := (l.getD 1 0).toNat_lt
  rw [l3] at N2
  rw [l5] at N5
  rw [l4] at NB
  rw [l8, Nat.add_zero] at SB
  rw [Nat.add_zero] at c0
  rw [← hr] at r3 N2
  rw [← hd] at r5 N5
  rw [← hm] at c1 m8
  have hbl := HB.lt
  clear l3 l4 l5 l8 HB hr hd hm
  generalize numB (cutN l 8 4) = sa at *
  generalize sumN (cutN l 0 8) = sb at *
  generalize (l.getD 0 0).toNat = a at *
  generalize l.length = L at *
  have t1 : decide ((L : Int) < 12) = false := decide_eq_false (by omega)
  by_cases e1 : a = 181
  · subst e1
    rcases (show m = 1 ∨ m = 2 ∨ (m ≠ 1 ∧ m ≠ 2) by omega) with rfl | rfl | ⟨e2, e3⟩
    · by_cases e4 : sa = sb
      · subst e4
        by_cases e5 : d = r
        · subst e5
          obtain rfl : F = (0, 0) := by rw [hF]; simp [faultN]
          clear hF
          rw [if_pos rfl]
          go_enter Tryd.func22, Tryd.ntmps22
          go_upto_region 1 with fail
          have A1 := Lib.hid (CellsAt.new w [.int .i64 0, .int .i64 0, .int .i64 0, .int .i64 0] 44)
          have B1 := Lib.hid (below_alloc w (Obj.cells #[.int .i64 0, .int .i64 0, .int .i64 0, .int .i64 0] 44))
          replace c0 := ((bcell B1.out).1 b off hbl).trans c0
          replace c1 := ((bcell B1.out).1 b (off + 1) hbl).trans c1
          generalize hX : w.alloc (Obj.cells #[.int .i64 0, .int .i64 0, .int .i64 0, .int .i64 0] 44) = y1 at *
          clear hX
          go_upto_region 7 with fail
          have i5 : IntKind.i64.wrap (sa : Int) = (sa : Int) := IntWalk.i64_in _ (by omega)
          go_quiet ((first | (go_at_call 36; exact Calls.quiet_of_same (NB.out _ _ (bdrewB B1.out _))) | (go_at_call 17; exact Calls.quiet_of_same (SB.out _ _ (bdrewB B1.out _)))))
          clear i5
          have A2 := Lib.hid (A1.out.step (below_drewN y1 nq))
          have B2 := Lib.hid (bdrewB B1.out nq)
          have d1 : (y1.drewN nq).cell? ⟨b, off + 1, none⟩ = some (.int .u8 (1 : Nat)) := c1
          clear c0 c1 A1 B1
          generalize y1.drewN nq = y2 at *
          have z0 := A2.out.cell 0 _ rfl
          have z1 := A2.out.cell 1 _ rfl
          have z2 := A2.out.cell 2 _ rfl
          have z3 := A2.out.cell 3 _ rfl
          have g0 := A2.out.free 0
          have g1 := A2.out.free 1
          have g2 := A2.out.free 2
          have g3 := A2.out.free 3
          go_wp2_with fail
          refine (N2.out _ _ B2.out).mono ?_
          rintro e w1 ⟨rfl, rfl⟩
          go_wp2_with fail
          refine (N5.out _ _ B2.out).mono ?_
          rintro e w1 ⟨rfl, rfl⟩
          go_wp2_with fail
          have E := Lib.hid ((((A2.out.set 0 (.int .i64 1) (by simp)).set 1 (.int .i64 d) (by simp)).set 2 (.int .i64 d) (by simp)).set 3 (.int .i64 (16 + (d : Int))) (by simp))
          have BE := Lib.hid ((((B2.out.setCell (p := ⟨w.heap.size, 0, none⟩) (Nat.le_refl _) (.int .i64 1)).setCell (p := ⟨w.heap.size, 1, none⟩) (Nat.le_refl _) (.int .i64 d)).setCell (p := ⟨w.heap.size, 2, none⟩) (Nat.le_refl _) (.int .i64 d)).setCell (p := ⟨w.heap.size, 3, none⟩) (Nat.le_refl _) (.int .i64 (16 + (d : Int))))
          generalize (((y2.setCell ⟨w.heap.size, 0, none⟩ (.int .i64 1)).setCell ⟨w.heap.size, 1, none⟩ (.int .i64 d)).setCell ⟨w.heap.size, 2, none⟩ (.int .i64 d)).setCell ⟨w.heap.size, 3, none⟩ (.int .i64 (16 + (d : Int))) = y3 at E BE ⊢
          have e0 := E.out.cell 0 _ rfl
          have e1 := E.out.cell 1 _ rfl
          have e2 := E.out.cell 2 _ rfl
          have e3 := E.out.cell 3 _ rfl
          clear z0 z1 z2 z3 g0 g1 g2 g3
          exact bodyPost_ret (v := .tuple #[.agg #[.int .i64 1, .int .i64 d, .int .i64 d, .int .i64 (16 + (d : Int))], .int .i64 0, .int .i64 0]) (by simp [results, Tryd.results22, go_sem, e0, e1, e2, e3]) rfl ⟨rfl, BE.out⟩
        · have t5 : ((d : Int) != r) = true := by simp; omega
          obtain rfl : F = (5, 60) := by rw [hF]; simp [faultN, e5]
          clear hF
          rw [if_neg (by decide)]
          go_enter Tryd.func22, Tryd.ntmps22
          go_upto_region 1 with fail
          have A1 := Lib.hid (CellsAt.new w [.int .i64 0, .int .i64 0, .int .i64 0, .int .i64 0] 44)
          have B1 := Lib.hid (below_alloc w (Obj.cells #[.int .i64 0, .int .i64 0, .int .i64 0, .int .i64 0] 44))
          replace c0 := ((bcell B1.out).1 b off hbl).trans c0
          replace c1 := ((bcell B1.out).1 b (off + 1) hbl).trans c1
          generalize hX : w.alloc (Obj.cells #[.int .i64 0, .int .i64 0, .int .i64 0, .int .i64 0] 44) = y1 at *
          clear hX
          go_upto_region 7 with fail
          have i5 : IntKind.i64.wrap (sa : Int) = (sa : Int) := IntWalk.i64_in _ (by omega)
          go_quiet ((first | (go_at_call 36; exact Calls.quiet_of_same (NB.out _ _ (bdrewB B1.out _))) | (go_at_call 17; exact Calls.quiet_of_same (SB.out _ _ (bdrewB B1.out _)))))
          clear i5
          have A2 := Lib.hid (A1.out.step (below_drewN y1 nq))
          have B2 := Lib.hid (bdrewB B1.out nq)
          have d1 : (y1.drewN nq).cell? ⟨b, off + 1, none⟩ = some (.int .u8 (1 : Nat)) := c1
          clear c0 c1 A1 B1
          generalize y1.drewN nq = y2 at *
          have z0 := A2.out.cell 0 _ rfl
          have z1 := A2.out.cell 1 _ rfl
          have z2 := A2.out.cell 2 _ rfl
          have z3 := A2.out.cell 3 _ rfl
          have g0 := A2.out.free 0
          have g1 := A2.out.free 1
          have g2 := A2.out.free 2
          have g3 := A2.out.free 3
          go_wp2_with fail
          refine (N2.out _ _ B2.out).mono ?_
          rintro e w1 ⟨rfl, rfl⟩
          go_wp2_with fail
          refine (N5.out _ _ B2.out).mono ?_
          rintro e w1 ⟨rfl, rfl⟩
          go_wp2_with fail
          have E := Lib.hid ((((A2.out.set 0 (.int .i64 0) (by simp)).set 1 (.int .i64 0) (by simp)).set 2 (.int .i64 0) (by simp)).set 3 (.int .i64 0) (by simp))
          have BE := Lib.hid ((((B2.out.setCell (p := ⟨w.heap.size, 0, none⟩) (Nat.le_refl _) (.int .i64 0)).setCell (p := ⟨w.heap.size, 1, none⟩) (Nat.le_refl _) (.int .i64 0)).setCell (p := ⟨w.heap.size, 2, none⟩) (Nat.le_refl _) (.int .i64 0)).setCell (p := ⟨w.heap.size, 3, none⟩) (Nat.le_refl _) (.int .i64 0))
          generalize (((y2.setCell ⟨w.heap.size, 0, none⟩ (.int .i64 0)).setCell ⟨w.heap.size, 1, none⟩ (.int .i64 0)).setCell ⟨w.heap.size, 2, none⟩ (.int .i64 0)).setCell ⟨w.heap.size, 3, none⟩ (.int .i64 0) = y3 at E BE ⊢
          have e0 := E.out.cell 0 _ rfl
          have e1 := E.out.cell 1 _ rfl
          have e2 := E.out.cell 2 _ rfl
          have e3 := E.out.cell 3 _ rfl
          clear z0 z1 z2 z3 g0 g1 g2 g3
          exact bodyPost_ret (v := .tuple #[.agg #[.int .i64 0, .int .i64 0, .int .i64 0, .int .i64 0], .int .i64 5, .int .i64 60]) (by simp [results, Tryd.results22, go_sem, e0, e1, e2, e3]) rfl ⟨rfl, BE.out⟩
      · have t4 : ((sa : Int) != sb) = true := by simp; omega
        obtain rfl : F = (8, 62) := by rw [hF]; simp [faultN, e4]
        clear hF
        rw [if_neg (by decide)]
        go_enter Tryd.func22, Tryd.ntmps22
        go_upto_region 1 with fail
        have A1 := Lib.hid (CellsAt.new w [.int .i64 0, .int .i64 0, .int .i64 0, .int .i64 0] 44)
        have B1 := Lib.hid (below_alloc w (Obj.cells #[.int .i64 0, .int .i64 0, .int .i64 0, .int .i64 0] 44))
        replace c0 := ((bcell B1.out).1 b off hbl).trans c0
        replace c1 := ((bcell B1.out).1 b (off + 1) hbl).trans c1
        generalize hX : w.alloc (Obj.cells #[.int .i64 0, .int .i64 0, .int .i64 0, .int .i64 0] 44) = y1 at *
        clear hX
        go_upto_region 7 with fail
        have i5 : IntKind.i64.wrap (sb : Int) = (sb : Int) := IntWalk.i64_in _ (by omega)
        go_quiet ((first | (go_at_call 36; exact Calls.quiet_of_same (NB.out _ _ (bdrewB B1.out _))) | (go_at_call 17; exact Calls.quiet_of_same (SB.out _ _ (bdrewB B1.out _)))))
        clear i5
        have A2 := Lib.hid (A1.out.step (below_drewN y1 nq))
        have B2 := Lib.hid (bdrewB B1.out nq)
        have d1 : (y1.drewN nq).cell? ⟨b, off + 1, none⟩ = some (.int .u8 (1 : Nat)) := c1
        clear c0 c1 A1 B1
        generalize y1.drewN nq = y2 at *
        have z0 := A2.out.cell 0 _ rfl
        have z1 := A2.out.cell 1 _ rfl
        have z2 := A2.out.cell 2 _ rfl
        have z3 := A2.out.cell 3 _ rfl
        have g0 := A2.out.free 0
        have g1 := A2.out.free 1
        have g2 := A2.out.free 2
        have g3 := A2.out.free 3
        go_wp2_with fail
        have E := Lib.hid ((((A2.out.set 0 (.int .i64 0) (by simp)).set 1 (.int .i64 0) (by simp)).set 2 (.int .i64 0) (by simp)).set 3 (.int .i64 0) (by simp))
        have BE := Lib.hid ((((B2.out.setCell (p := ⟨w.heap.size, 0, none⟩) (Nat.le_refl _) (.int .i64 0)).setCell (p := ⟨w.heap.size, 1, none⟩) (Nat.le_refl _) (.int .i64 0)).setCell (p := ⟨w.heap.size, 2, none⟩) (Nat.le_refl _) (.int .i64 0)).setCell (p := ⟨w.heap.size, 3, none⟩) (Nat.le_refl _) (.int .i64 0))
        generalize (((y2.setCell ⟨w.heap.size, 0, none⟩ (.int .i64 0)).setCell ⟨w.heap.size, 1, none⟩ (.int .i64 0)).setCell ⟨w.heap.size, 2, none⟩ (.int .i64 0)).setCell ⟨w.heap.size, 3, none⟩ (.int .i64 0) = y3 at E BE ⊢
        have e0 := E.out.cell 0 _ rfl
        have e1 := E.out.cell 1 _ rfl
        have e2 := E.out.cell 2 _ rfl
        have e3 := E.out.cell 3 _ rfl
        clear z0 z1 z2 z3 g0 g1 g2 g3
        exact bodyPost_ret (v := .tuple #[.agg #[.int .i64 0, .int .i64 0, .int .i64 0, .int .i64 0], .int .i64 8, .int .i64 62]) (by simp [results, Tryd.results22, go_sem, e0, e1, e2, e3]) rfl ⟨rfl, BE.out⟩
    · by_cases e4 : sa = sb
      · subst e4
        by_cases e5 : r = 0
        · subst e5
          obtain rfl : F = (2, 60) := by rw [hF]; simp [faultN]
          clear hF
          rw [if_neg (by decide)]
          go_enter Tryd.func22, Tryd.ntmps22
          go_upto_region 1 with fail
          have A1 := Lib.hid (CellsAt.new w [.int .i64 0, .int .i64 0, .int .i64 0, .int .i64 0] 44)
          have B1 := Lib.hid (below_alloc w (Obj.cells #[.int .i64 0, .int .i64 0, .int .i64 0, .int .i64 0] 44))
          replace c0 := ((bcell B1.out).1 b off hbl).trans c0
          replace c1 := ((bcell B1.out).1 b (off + 1) hbl).trans c1
          generalize hX : w.alloc (Obj.cells #[.int .i64 0, .int .i64 0, .int .i64 0, .int .i64 0] 44) = y1 at *
          clear hX
          go_upto_region 7 with fail
          have i5 : IntKind.i64.wrap (sa : Int) = (sa : Int) := IntWalk.i64_in _ (by omega)
          go_quiet ((first | (go_at_call 36; exact Calls.quiet_of_same (NB.out _ _ (bdrewB B1.out _))) | (go_at_call 17; exact Calls.quiet_of_same (SB.out _ _ (bdrewB B1.out _)))))
          clear i5
          have A2 := Lib.hid (A1.out.step (below_drewN y1 nq))
          have B2 := Lib.hid (bdrewB B1.out nq)
          have d1 : (y1.drewN nq).cell? ⟨b, off + 1, none⟩ = some (.int .u8 (2 : Nat)) := c1
          clear c0 c1 A1 B1
          generalize y1.drewN nq = y2 at *
          have z0 := A2.out.cell 0 _ rfl
          have z1 := A2.out.cell 1 _ rfl
          have z2 := A2.out.cell 2 _ rfl
          have z3 := A2.out.cell 3 _ rfl
          have g0 := A2.out.free 0
          have g1 := A2.out.free 1
          have g2 := A2.out.free 2
          have g3 := A2.out.free 3
          go_wp2_with fail
          refine (N2.out _ _ B2.out).mono ?_
          rintro e w1 ⟨rfl, rfl⟩
          go_wp2_with fail
          refine (N5.out _ _ B2.out).mono ?_
          rintro e w1 ⟨rfl, rfl⟩
          go_wp2_with fail
          have E := Lib.hid ((((A2.out.set 0 (.int .i64 0) (by simp)).set 1 (.int .i64 0) (by simp)).set 2 (.int .i64 0) (by simp)).set 3 (.int .i64 0) (by simp))
          have BE := Lib.hid ((((B2.out.setCell (p := ⟨w.heap.size, 0, none⟩) (Nat.le_refl _) (.int .i64 0)).setCell (p := ⟨w.heap.size, 1, none⟩) (Nat.le_refl _) (.int .i64 0)).setCell (p := ⟨w.heap.size, 2, none⟩) (Nat.le_refl _) (.int .i64 0)).setCell (p := ⟨w.heap.size, 3, none⟩) (Nat.le_refl _) (.int .i64 0))
          generalize (((y2.setCell ⟨w.heap.size, 0, none⟩ (.int .i64 0)).setCell ⟨w.heap.size, 1, none⟩ (.int .i64 0)).setCell ⟨w.heap.size, 2, none⟩ (.int .i64 0)).setCell ⟨w.heap.size, 3, none⟩ (.int .i64 0) = y3 at E BE ⊢
          have e0 := E.out.cell 0 _ rfl
          have e1 := E.out.cell 1 _ rfl
          have e2 := E.out.cell 2 _ rfl
          have e3 := E.out.cell 3 _ rfl
          clear z0 z1 z2 z3 g0 g1 g2 g3
          exact bodyPost_ret (v := .tuple #[.agg #[.int .i64 0, .int .i64 0, .int .i64 0, .int .i64 0], .int .i64 2, .int .i64 60]) (by simp [results, Tryd.results22, go_sem, e0, e1, e2, e3]) rfl ⟨rfl, BE.out⟩
        · have t5 : ((r : Int) == 0) = false := by simp; omega
          by_cases e6 : d = 0
          · subst e6
            obtain rfl : F = (5, 60) := by rw [hF]; simp [faultN, e5]
            clear hF
            rw [if_neg (by decide)]
            go_enter Tryd.func22, Tryd.ntmps22
            go_upto_region 1 with fail
            have A1 := Lib.hid (CellsAt.new w [.int .i64 0, .int .i64 0, .int .i64 0, .int .i64 0] 44)
            have B1 := Lib.hid (below_alloc w (Obj.cells #[.int .i64 0, .int .i64 0, .int .i64 0, .int .i64 0] 44))
            replace c0 := ((bcell B1.out).1 b off hbl).trans c0
            replace c1 := ((bcell B1.out).1 b (off + 1) hbl).trans c1
            generalize hX : w.alloc (Obj.cells #[.int .i64 0, .int .i64 0, .int .i64 0, .int .i64 0] 44) = y1 at *
            clear hX
            go_upto_region 7 with fail
            have i5 : IntKind.i64.wrap (sa : Int) = (sa : Int) := IntWalk.i64_in _ (by omega)
            go_quiet ((first | (go_at_call 36; exact Calls.quiet_of_same (NB.out _ _ (bdrewB B1.out _))) | (go_at_call 17; exact Calls.quiet_of_same (SB.out _ _ (bdrewB B1.out _)))))
            clear i5
            have A2 := Lib.hid (A1.out.step (below_drewN y1 nq))
            have B2 := Lib.hid (bdrewB B1.out nq)
            have d1 : (y1.drewN nq).cell? ⟨b, off + 1, none⟩ = some (.int .u8 (2 : Nat)) := c1
            clear c0 c1 A1 B1
            generalize y1.drewN nq = y2 at *
            have z0 := A2.out.cell 0 _ rfl
            have z1 := A2.out.cell 1 _ rfl
            have z2 := A2.out.cell 2 _ rfl
            have z3 := A2.out.cell 3 _ rfl
            have g0 := A2.out.free 0
            have g1 := A2.out.free 1
            have g2 := A2.out.free 2
            have g3 := A2.out.free 3
            go_wp2_with fail
            refine (N2.out _ _ B2.out).mono ?_
            rintro e w1 ⟨rfl, rfl⟩
            go_wp2_with fail
            refine (N5.out _ _ B2.out).mono ?_
            rintro e w1 ⟨rfl, rfl⟩
            go_wp2_with fail
            have E := Lib.hid ((((A2.out.set 0 (.int .i64 0) (by simp)).set 1 (.int .i64 0) (by simp)).set 2 (.int .i64 0) (by simp)).set 3 (.int .i64 0) (by simp))
            have BE := Lib.hid ((((B2.out.setCell (p := ⟨w.heap.size, 0, none⟩) (Nat.le_refl _) (.int .i64 0)).setCell (p := ⟨w.heap.size, 1, none⟩) (Nat.le_refl _) (.int .i64 0)).setCell (p := ⟨w.heap.size, 2, none⟩) (Nat.le_refl _) (.int .i64 0)).setCell (p := ⟨w.heap.size, 3, none⟩) (Nat.le_refl _) (.int .i64 0))
            generalize (((y2.setCell ⟨w.heap.size, 0, none⟩ (.int .i64 0)).setCell ⟨w.heap.size, 1, none⟩ (.int .i64 0)).setCell ⟨w.heap.size, 2, none⟩ (.int .i64 0)).setCell ⟨w.heap.size, 3, none⟩ (.int .i64 0) = y3 at E BE ⊢
            have e0 := E.out.cell 0 _ rfl
            have e1 := E.out.cell 1 _ rfl
            have e2 := E.out.cell 2 _ rfl
            have e3 := E.out.cell 3 _ rfl
            clear z0 z1 z2 z3 g0 g1 g2 g3
            exact bodyPost_ret (v := .tuple #[.agg #[.int .i64 0, .int .i64 0, .int .i64 0, .int .i64 0], .int .i64 5, .int .i64 60]) (by simp [results, Tryd.results22, go_sem, e0, e1, e2, e3]) rfl ⟨rfl, BE.out⟩
          · have t6 : ((d : Int) == 0) = false := by simp; omega
            obtain rfl : F = (0, 0) := by rw [hF]; simp [faultN, e5, e6]
            clear hF
            rw [if_pos rfl]
            go_enter Tryd.func22, Tryd.ntmps22
            go_upto_region 1 with fail
            have A1 := Lib.hid (CellsAt.new w [.int .i64 0, .int .i64 0, .int .i64 0, .int .i64 0] 44)
            have B1 := Lib.hid (below_alloc w (Obj.cells #[.int .i64 0, .int .i64 0, .int .i64 0, .int .i64 0] 44))
            replace c0 := ((bcell B1.out).1 b off hbl).trans c0
            replace c1 := ((bcell B1.out).1 b (off + 1) hbl).trans c1
            generalize hX : w.alloc (Obj.cells #[.int .i64 0, .int .i64 0, .int .i64 0, .int .i64 0] 44) = y1 at *
            clear hX
            go_upto_region 7 with fail
            have i5 : IntKind.i64.wrap (sa : Int) = (sa : Int) := IntWalk.i64_in _ (by omega)
            go_quiet ((first | (go_at_call 36; exact Calls.quiet_of_same (NB.out _ _ (bdrewB B1.out _))) | (go_at_call 17; exact Calls.quiet_of_same (SB.out _ _ (bdrewB B1.out _)))))
            clear i5
            have A2 := Lib.hid (A1.out.step (below_drewN y1 nq))
            have B2 := Lib.hid (bdrewB B1.out nq)
            have d1 : (y1.drewN nq).cell? ⟨b, off + 1, none⟩ = some (.int .u8 (2 : Nat)) := c1
            clear c0 c1 A1 B1
            generalize y1.drewN nq = y2 at *
            have z0 := A2.out.cell 0 _ rfl
            have z1 := A2.out.cell 1 _ rfl
            have z2 := A2.out.cell 2 _ rfl
            have z3 := A2.out.cell 3 _ rfl
            have g0 := A2.out.free 0
            have g1 := A2.out.free 1
            have g2 := A2.out.free 2
            have g3 := A2.out.free 3
            go_wp2_with fail
            refine (N2.out _ _ B2.out).mono ?_
            rintro e w1 ⟨rfl, rfl⟩
            go_wp2_with fail
            refine (N5.out _ _ B2.out).mono ?_
            rintro e w1 ⟨rfl, rfl⟩
            go_wp2_with fail
            have E := Lib.hid ((((A2.out.set 0 (.int .i64 2) (by simp)).set 1 (.int .i64 r) (by simp)).set 2 (.int .i64 d) (by simp)).set 3 (.int .i64 (16 + (d : Int))) (by simp))
            have BE := Lib.hid ((((B2.out.setCell (p := ⟨w.heap.size, 0, none⟩) (Nat.le_refl _) (.int .i64 2)).setCell (p := ⟨w.heap.size, 1, none⟩) (Nat.le_refl _) (.int .i64 r)).setCell (p := ⟨w.heap.size, 2, none⟩) (Nat.le_refl _) (.int .i64 d)).setCell (p := ⟨w.heap.size, 3, none⟩) (Nat.le_refl _) (.int .i64 (16 + (d : Int))))
            generalize (((y2.setCell ⟨w.heap.size, 0, none⟩ (.int .i64 2)).setCell ⟨w.heap.size, 1, none⟩ (.int .i64 r)).setCell ⟨w.heap.size, 2, none⟩ (.int .i64 d)).setCell ⟨w.heap.size, 3, none⟩ (.int .i64 (16 + (d : Int))) = y3 at E BE ⊢
            have e0 := E.out.cell 0 _ rfl
            have e1 := E.out.cell 1 _ rfl
            have e2 := E.out.cell 2 _ rfl
            have e3 := E.out.cell 3 _ rfl
            clear z0 z1 z2 z3 g0 g1 g2 g3
            exact bodyPost_ret (v := .tuple #[.agg #[.int .i64 2, .int .i64 r, .int .i64 d, .int .i64 (16 + (d : Int))], .int .i64 0, .int .i64 0]) (by simp [results, Tryd.results22, go_sem, e0, e1, e2, e3]) rfl ⟨rfl, BE.out⟩
      · have t4 : ((sa : Int) != sb) = true := by simp; omega
        obtain rfl : F = (8, 62) := by rw [hF]; simp [faultN, e4]
        clear hF
        rw [if_neg (by decide)]
        go_enter Tryd.func22, Tryd.ntmps22
        go_upto_region 1 with fail
        have A1 := Lib.hid (CellsAt.new w [.int .i64 0, .int .i64 0, .int .i64 0, .int .i64 0] 44)
        have B1 := Lib.hid (below_alloc w (Obj.cells #[.int .i64 0, .int .i64 0, .int .i64 0, .int .i64 0] 44))
        replace c0 := ((bcell B1.out).1 b off hbl).trans c0
        replace c1 := ((bcell B1.out).1 b (off + 1) hbl).trans c1
        generalize hX : w.alloc (Obj.cells #[.int .i64 0, .int .i64 0, .int .i64 0, .int .i64 0] 44) = y1 at *
        clear hX
        go_upto_region 7 with fail
        have i5 : IntKind.i64.wrap (sb : Int) = (sb : Int) := IntWalk.i64_in _ (by omega)
        go_quiet ((first | (go_at_call 36; exact Calls.quiet_of_same (NB.out _ _ (bdrewB B1.out _))) | (go_at_call 17; exact Calls.quiet_of_same (SB.out _ _ (bdrewB B1.out _)))))
        clear i5
        have A2 := Lib.hid (A1.out.step (below_drewN y1 nq))
        have B2 := Lib.hid (bdrewB B1.out nq)
        have d1 : (y1.drewN nq).cell? ⟨b, off + 1, none⟩ = some (.int .u8 (2 : Nat)) := c1
        clear c0 c1 A1 B1
        generalize y1.drewN nq = y2 at *
        have z0 := A2.out.cell 0 _ rfl
        have z1 := A2.out.cell 1 _ rfl
        have z2 := A2.out.cell 2 _ rfl
        have z3 := A2.out.cell 3 _ rfl
        have g0 := A2.out.free 0
        have g1 := A2.out.free 1
        have g2 := A2.out.free 2
        have g3 := A2.out.free 3
        go_wp2_with fail
        have E := Lib.hid ((((A2.out.set 0 (.int .i64 0) (by simp)).set 1 (.int .i64 0) (by simp)).set 2 (.int .i64 0) (by simp)).set 3 (.int .i64 0) (by simp))
        have BE := Lib.hid ((((B2.out.setCell (p := ⟨w.heap.size, 0, none⟩) (Nat.le_refl _) (.int .i64 0)).setCell (p := ⟨w.heap.size, 1, none⟩) (Nat.le_refl _) (.int .i64 0)).setCell (p := ⟨w.heap.size, 2, none⟩) (Nat.le_refl _) (.int .i64 0)).setCell (p := ⟨w.heap.size, 3, none⟩) (Nat.le_refl _) (.int .i64 0))
        generalize (((y2.setCell ⟨w.heap.size, 0, none⟩ (.int .i64 0)).setCell ⟨w.heap.size, 1, none⟩ (.int .i64 0)).setCell ⟨w.heap.size, 2, none⟩ (.int .i64 0)).setCell ⟨w.heap.size, 3, none⟩ (.int .i64 0) = y3 at E BE ⊢
        have e0 := E.out.cell 0 _ rfl
        have e1 := E.out.cell 1 _ rfl
        have e2 := E.out.cell 2 _ rfl
        have e3 := E.out.cell 3 _ rfl
        clear z0 z1 z2 z3 g0 g1 g2 g3
        exact bodyPost_ret (v := .tuple #[.agg #[.int .i64 0, .int .i64 0, .int .i64 0, .int .i64 0], .int .i64 8, .int .i64 62]) (by simp [results, Tryd.results22, go_sem, e0, e1, e2, e3]) rfl ⟨rfl, BE.out⟩
    · have t2 : ((m : Int) != 1) = true := by simp; omega
      have t3 : ((m : Int) != 2) = true := by simp; omega
      obtain rfl : F = (1, 60) := by rw [hF]; simp [faultN, e2, e3]
      clear hF
      rw [if_neg (by decide)]
      go_enter Tryd.func22, Tryd.ntmps22
      go_upto_region 1 with fail
      have A1 := Lib.hid (CellsAt.new w [.int .i64 0, .int .i64 0, .int .i64 0, .int .i64 0] 44)
      have B1 := Lib.hid (below_alloc w (Obj.cells #[.int .i64 0, .int .i64 0, .int .i64 0, .int .i64 0] 44))
      replace c0 := ((bcell B1.out).1 b off hbl).trans c0
      replace c1 := ((bcell B1.out).1 b (off + 1) hbl).trans c1
      generalize hX : w.alloc (Obj.cells #[.int .i64 0, .int .i64 0, .int .i64 0, .int .i64 0] 44) = y1 at *
      clear hX
      have z0 := A1.out.cell 0 _ rfl
      have z1 := A1.out.cell 1 _ rfl
      have z2 := A1.out.cell 2 _ rfl
      have z3 := A1.out.cell 3 _ rfl
      have g0 := A1.out.free 0
      have g1 := A1.out.free 1
      have g2 := A1.out.free 2
      have g3 := A1.out.free 3
      go_wp2_with fail
      have E := Lib.hid ((((A1.out.set 0 (.int .i64 0) (by simp)).set 1 (.int .i64 0) (by simp)).set 2 (.int .i64 0) (by simp)).set 3 (.int .i64 0) (by simp))
      have BE := Lib.hid ((((B1.out.setCell (p := ⟨w.heap.size, 0, none⟩) (Nat.le_refl _) (.int .i64 0)).setCell (p := ⟨w.heap.size, 1, none⟩) (Nat.le_refl _) (.int .i64 0)).setCell (p := ⟨w.heap.size, 2, none⟩) (Nat.le_refl _) (.int .i64 0)).setCell (p := ⟨w.heap.size, 3, none⟩) (Nat.le_refl _) (.int .i64 0))
      generalize (((y1.setCell ⟨w.heap.size, 0, none⟩ (.int .i64 0)).setCell ⟨w.heap.size, 1, none⟩ (.int .i64 0)).setCell ⟨w.heap.size, 2, none⟩ (.int .i64 0)).setCell ⟨w.heap.size, 3, none⟩ (.int .i64 0) = y3 at E BE ⊢
      have e0 := E.out.cell 0 _ rfl
      have e1 := E.out.cell 1 _ rfl
      have e2 := E.out.cell 2 _ rfl
      have e3 := E.out.cell 3 _ rfl
      clear z0 z1 z2 z3 g0 g1 g2 g3
      exact bodyPost_ret (v := .tuple #[.agg #[.int .i64 0, .int .i64 0, .int .i64 0, .int .i64 0], .int .i64 1, .int .i64 60]) (by simp [results, Tryd.results22, go_sem, e0, e1, e2, e3]) rfl ⟨rfl, BE.out⟩
  · have t1 : ((a : Int) != 181) = true := by simp; omega
    obtain rfl : F = (0, 60) := by rw [hF]; simp [faultN, e1]
    clear hF
    rw [if_neg (by decide)]
    go_enter Tryd.func22, Tryd.ntmps22
    go_upto_region 1 with fail
    have A1 := Lib.hid (CellsAt.new w [.int .i64 0, .int .i64 0, .int .i64 0, .int .i64 0] 44)
    have B1 := Lib.hid (below_alloc w (Obj.cells #[.int .i64 0, .int .i64 0, .int .i64 0, .int .i64 0] 44))
    replace c0 := ((bcell B1.out).1 b off hbl).trans c0
    replace c1 := ((bcell B1.out).1 b (off + 1) hbl).trans c1
    generalize hX : w.alloc (Obj.cells #[.int .i64 0, .int .i64 0, .int .i64 0, .int .i64 0] 44) = y1 at *
    clear hX
    have z0 := A1.out.cell 0 _ rfl
    have z1 := A1.out.cell 1 _ rfl
    have z2 := A1.out.cell 2 _ rfl
    have z3 := A1.out.cell 3 _ rfl
    have g0 := A1.out.free 0
    have g1 := A1.out.free 1
    have g2 := A1.out.free 2
    have g3 := A1.out.free 3
    go_wp2_with fail
    have E := Lib.hid ((((A1.out.set 0 (.int .i64 0) (by simp)).set 1 (.int .i64 0) (by simp)).set 2 (.int .i64 0) (by simp)).set 3 (.int .i64 0) (by simp))
    have BE := Lib.hid ((((B1.out.setCell (p := ⟨w.heap.size, 0, none⟩) (Nat.le_refl _) (.int .i64 0)).setCell (p := ⟨w.heap.size, 1, none⟩) (Nat.le_refl _) (.int .i64 0)).setCell (p := ⟨w.heap.size, 2, none⟩) (Nat.le_refl _) (.int .i64 0)).setCell (p := ⟨w.heap.size, 3, none⟩) (Nat.le_refl _) (.int .i64 0))
    generalize (((y1.setCell ⟨w.heap.size, 0, none⟩ (.int .i64 0)).setCell ⟨w.heap.size, 1, none⟩ (.int .i64 0)).setCell ⟨w.heap.size, 2, none⟩ (.int .i64 0)).setCell ⟨w.heap.size, 3, none⟩ (.int .i64 0) = y3 at E BE ⊢
    have e0 := E.out.cell 0 _ rfl
    have e1 := E.out.cell 1 _ rfl
    have e2 := E.out.cell 2 _ rfl
    have e3 := E.out.cell 3 _ rfl
    clear z0 z1 z2 z3 g0 g1 g2 g3
    exact bodyPost_ret (v := .tuple #[.agg #[.int .i64 0, .int .i64 0, .int .i64 0, .int .i64 0], .int .i64 0, .int .i64 60]) (by simp [results, Tryd.results22, go_sem, e0, e1, e2, e3]) rfl ⟨rfl, BE.out⟩
end Go.Proofs.YtfbeipfpkikakaaDoor
