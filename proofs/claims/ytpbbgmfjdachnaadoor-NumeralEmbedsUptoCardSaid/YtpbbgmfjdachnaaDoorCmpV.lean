/- numeral's values compared; Compare of every kind. -/
import Derived.Test.YtpbbgmfjdachnaaDoorValueOf
namespace Go.Proofs.YtpbbgmfjdachnaaDoor
open Go.RowKit

/-- A value whose parts are of bounded length. -/
structure VlOk (v : Val) : Prop where
  whole : v.whole.length ≤ 1125899906842624
  frac : v.frac.length ≤ 1125899906842624

set_option maxRecDepth 100000 in
set_option maxHeartbeats 1600000 in
theorem compareSizes_ok (v u : Val) (w : World) (hv : VlOk v) (hu : VlOk u) :
    Calls Tryd.prog 79 #[valV v, valV u] w (RetBelow w (.int .i64 (cmpSize v u))) := by
  have DC := Lib.hid (fun W : World => digCompare_ok (bs v.whole) (bs v.frac) (bs u.whole) (bs u.frac) W (by rw [bs_size]; exact hv.whole) (by rw [bs_size]; exact hv.frac) (by rw [bs_size]; exact hu.whole) (by rw [bs_size]; exact hu.frac))
  rw [bs_list, bs_list, bs_list, bs_list] at DC
  have ES := Lib.hid (show cmpSize v u = thenC (cmpI v.rank u.rank) (thenC (cmpI v.exp u.exp) (cmpL (v.whole ++ v.frac) (u.whole ++ u.frac))) from rfl)
  have hB := ((Below.refl w.heap.size w).alloc (Nat.le_refl _) (Obj.cells #[.int .u8 v.cls, .int .i64 v.rank, .int .i64 v.exp, .string (bs v.whole), .string (bs v.frac)] 65)).alloc (by simp) (Obj.cells #[.int .u8 u.cls, .int .i64 u.rank, .int .i64 u.exp, .string (bs u.whole), .string (bs u.frac)] 65)
  have HB := Lib.hid hB
  clear hB
  unfold valV
  generalize bs v.whole = a1 at *
  generalize bs v.frac = a2 at *
  generalize bs u.whole = b1 at *
  generalize bs u.frac = b2 at *
  by_cases hr : v.rank = u.rank
  · have t1 : ((v.rank : Int) != (u.rank : Int)) = false := by rw [hr]; simp
    have R := Lib.hid (show cmpI (v.rank : Int) u.rank = 0 by rw [hr]; exact cmpI_is.refl _)
    clear hr
    by_cases he : v.exp = u.exp
    · have t2 : (v.exp != u.exp) = false := by rw [he]; simp
      have X := Lib.hid (show cmpI v.exp u.exp = 0 by rw [he]; exact cmpI_is.refl _)
      clear he
      go_enter Tryd.func79, Tryd.ntmps79
      go_wp2_with fail
      refine (DC.out _).mono ?_
      rintro e w1 ⟨rfl, hb⟩
      have B1 := Lib.hid (HB.out.trans (hb.mono (by simp; omega)))
      clear hb
      go_wp2_with fail
      go_ret
      exact ⟨by rw [ES.out, R.out, thenC_zero, X.out, thenC_zero]; rfl, B1.out⟩
    · have t2 : (v.exp != u.exp) = true := by rw [bne_iff_ne]; exact he
      have X := Lib.hid (show cmpI v.exp u.exp ≠ 0 from fun h => he (cmpI_zero h))
      clear he
      go_enter Tryd.func79, Tryd.ntmps79
      go_wp2_with fail
      refine (cmpInt_ok _ _ _).mono ?_
      rintro e w1 ⟨rfl, rfl⟩
      go_wp2_with fail
      go_ret
      exact ⟨by rw [ES.out, R.out, thenC_zero, thenC_ne X.out]; rfl, HB.out⟩
  · have t1 : ((v.rank : Int) != (u.rank : Int)) = true := by rw [bne_iff_ne]; omega
    have R := Lib.hid (show cmpI (v.rank : Int) u.rank ≠ 0 from fun h => hr (by have := cmpI_zero h; omega))
    clear hr
    go_enter Tryd.func79, Tryd.ntmps79
    go_wp2_with fail
    refine (cmpInt_ok _ _ _).mono ?_
    rintro e w1 ⟨rfl, rfl⟩
    go_wp2_with fail
    go_ret
    exact ⟨by rw [ES.out, thenC_ne R.out]; rfl, HB.out⟩

set_option maxRecDepth 100000 in
set_option maxHeartbeats 1600000 in
theorem valueCompare_ok (v u : Val) (w : World) (hv : VlOk v) (hu : VlOk u) :
    Calls Tryd.prog 40 #[valV v, valV u] w (RetBelow w (.int .i64 (cmpVal v u))) := by
  have S1 := Lib.hid (fun W : World => compareSizes_ok v u W hv hu)
  have S2 := Lib.hid (fun W : World => compareSizes_ok u v W hu hv)
  have hB := ((Below.refl w.heap.size w).alloc (Nat.le_refl _) (Obj.cells #[.int .u8 v.cls, .int .i64 v.rank, .int .i64 v.exp, .string (bs v.whole), .string (bs v.frac)] 65)).alloc (by simp) (Obj.cells #[.int .u8 u.cls, .int .i64 u.rank, .int .i64 u.exp, .string (bs u.whole), .string (bs u.frac)] 65)
  have HB := Lib.hid hB
  clear hB
  have EV := Lib.hid (show cmpVal v u = thenC (cmpI v.cls u.cls) (if v.cls = 64 then cmpSize u v else cmpSize v u) from rfl)
  unfold valV at *
  generalize bs v.whole = a1 at *
  generalize bs v.frac = a2 at *
  generalize bs u.whole = b1 at *
  generalize bs u.frac = b2 at *
  by_cases hc : v.cls = u.cls
  · have t1 : ((v.cls : Int) != (u.cls : Int)) = false := by rw [hc]; simp
    have C := Lib.hid (show cmpI (v.cls : Int) u.cls = 0 by rw [hc]; exact cmpI_is.refl _)
    clear hc
    by_cases h64 : v.cls = 64
    · have t2 : ((v.cls : Int) == 64) = true := by rw [h64]; rfl
      have H64 := Lib.hid h64
      clear h64
      go_enter Tryd.func40, Tryd.ntmps40
      go_wp2_with fail
      refine (S2.out _).mono ?_
      rintro e w1 ⟨rfl, hb⟩
      have B1 := Lib.hid (HB.out.trans (hb.mono (by simp; omega)))
      clear hb
      go_wp2_with fail
      go_ret
      exact ⟨by rw [EV.out, C.out, thenC_zero, if_pos H64.out]; rfl, B1.out⟩
    · have t2 : ((v.cls : Int) == 64) = false := by rw [beq_eq_false_iff_ne]; omega
      have H64 := Lib.hid h64
      clear h64
      go_enter Tryd.func40, Tryd.ntmps40
      go_wp2_with fail
      refine (S1.out _).mono ?_
      rintro e w1 ⟨rfl, hb⟩
      have B1 := Lib.hid (HB.out.trans (hb.mono (by simp; omega)))
      clear hb
      go_wp2_with fail
      go_ret
      exact ⟨by rw [EV.out, C.out, thenC_zero, if_neg H64.out]; rfl, B1.out⟩
  · have t1 : ((v.cls : Int) != (u.cls : Int)) = true := by rw [bne_iff_ne]; omega
    have C := Lib.hid (show cmpI (v.cls : Int) u.cls ≠ 0 from fun h => hc (by have := cmpI_zero h; omega))
    clear hc
    go_enter Tryd.func40, Tryd.ntmps40
    go_wp2_with fail
    refine (cmpByte_ok _ _ _).mono ?_
    rintro e w1 ⟨rfl, rfl⟩
    go_wp2_with fail
    go_ret
    exact ⟨by rw [EV.out, thenC_ne C.out]; rfl, HB.out⟩
end Go.Proofs.YtpbbgmfjdachnaaDoor
