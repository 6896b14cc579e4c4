/- numeral's Decimal of a number that is not below 0. -/
import Derived.Test.YtpbbgmfjdachnaaDoorDecimal
import Derived.Deep.RegionHeld3
import Derived.Deep.RegionWith
namespace Go.Proofs.YtpbbgmfjdachnaaDoor
open Go.RowKit

set_option maxRecDepth 100000 in
set_option maxHeartbeats 3200000 in
theorem decimalPos_ok (h : Hd) (w : World) (ok : HdOk h) (hw : h.whole.length ≤ 281474976710656) (hf : h.frac.length ≤ 281474976710656) (hneg : h.neg = false) : Calls Tryd.prog 33 #[headV h] w (RetBelow w (decV h)) := by
  have C1 := Lib.hid (fun W : World => trimL_ok (bs h.whole) W)
  have C2 := Lib.hid (fun W : World => trimR_ok (bs h.frac) W (by rw [bs_size]; have := ok.frac; omega))
  rw [bs_list] at C1 C2
  have Z := Lib.hid (fun W : World => headZero_ok h W ok)
  have L1 := Lib.hid (fun W : World => clone_ok (bs (trimL h.whole)) W (by rw [bs_size]; have := trimL_len h.whole; omega))
  have L2 := Lib.hid (fun W : World => clone_ok (bs (trimR h.frac)) W (by rw [bs_size]; have := trimR_len h.frac; omega))
  have HV := Lib.hid (show headV h = .agg #[.int .u8 h.cls, .bool false, .string (bs h.whole), .string (bs h.frac), .int .i64 h.exp, .int .i64 h.size] by unfold headV; rw [hneg])
  have H0 := (CellsAt.new w [.int .u8 h.cls, .bool false, .string (bs h.whole), .string (bs h.frac), .int .i64 h.exp, .int .i64 h.size] 54).alloc (.cells #[.bool false, .string ⟨#[]⟩, .string ⟨#[]⟩, .int .i64 0] 25)
  have A0 := CellsAt.new (w.alloc (.cells #[.int .u8 h.cls, .bool false, .string (bs h.whole), .string (bs h.frac), .int .i64 h.exp, .int .i64 h.size] 54)) [.bool false, .string ⟨#[]⟩, .string ⟨#[]⟩, .int .i64 0] 25
  have B0 := Lib.hid (((Below.refl w.heap.size w).alloc (Nat.le_refl _) (.cells #[.int .u8 h.cls, .bool false, .string (bs h.whole), .string (bs h.frac), .int .i64 h.exp, .int .i64 h.size] 54)).alloc (by simp) (.cells #[.bool false, .string ⟨#[]⟩, .string ⟨#[]⟩, .int .i64 0] 25))
  rw [HV.out]
  rw [HV.out] at Z
  have HNEG := Lib.hid hneg
  clear hneg
  go_enter Tryd.func33, Tryd.ntmps33
  go_wp2_with fail
  rw [show (w.alloc (.cells #[.int .u8 h.cls, .bool false, .string (bs h.whole), .string (bs h.frac), .int .i64 h.exp, .int .i64 h.size] 54)).heap.size = w.heap.size + 1 by simp] at A0
  have HH0 := Lib.hid H0
  have HA0 := Lib.hid A0
  clear H0 A0
  generalize (w.alloc (Obj.cells #[.int .u8 h.cls, .bool false, .string (bs h.whole), .string (bs h.frac), .int .i64 h.exp, .int .i64 h.size] 54)).alloc (.cells #[.bool false, .string ⟨#[]⟩, .string ⟨#[]⟩, .int .i64 0] 25) = W0 at *
  have k2 := HH0.out.cell 2 _ rfl
  have k3 := HH0.out.cell 3 _ rfl
  generalize bs h.whole = Wo at *
  generalize bs h.frac = Fo at *
  go_quiet ((first | (go_at_call 37; exact Calls.quiet_of_same ((C1.out _).mono fun _ _ h => ⟨h.1, h.2.symm⟩)) | (go_at_call 70; exact Calls.quiet_of_same ((C2.out _).mono fun _ _ h => ⟨h.1, h.2.symm⟩))))
  go_wp2_with fail
  have HH1 := HH0.out.step (below_drewN W0 nq)
  have HA1 := HA0.out.step (below_drewN W0 nq)
  have B1 := Lib.hid (B0.out.trans ((below_drewN W0 nq).mono B0.out.size))
  clear k2 k3 HH0 HA0 B0
  generalize W0.drewN nq = W1 at *
  have HDV := Lib.hid (show decV h = .agg #[.bool (decNeg h), .string (bs (trimL h.whole)), .string (bs (trimR h.frac)), .int .i64 h.size] from rfl)
  generalize bs (trimL h.whole) = Wt at *
  generalize bs (trimR h.frac) = Ft at *
  have EN := Lib.hid (show decNeg h = (h.neg && !(decide (numD h = []))) from rfl)
  generalize decide (numD h = []) = zb at *
  have h0 := HH1.cell 0 _ rfl
  have h1 := HH1.cell 1 _ rfl
  have h2 := HH1.cell 2 _ rfl
  have h3 := HH1.cell 3 _ rfl
  have h4 := HH1.cell 4 _ rfl
  have h5 := HH1.cell 5 _ rfl
  have a0 := HA1.cell 0 _ rfl
  have a1 := HA1.cell 1 _ rfl
  have a2 := HA1.cell 2 _ rfl
  have a3 := HA1.cell 3 _ rfl
  have f0 := HA1.free 0
  have f1 := HA1.free 1
  have f2 := HA1.free 2
  have f3 := HA1.free 3
  have hz1 := HA1.lt
  rw [HNEG.out] at EN
  have hh : CellsAt W1.drew w.heap.size [.int .u8 h.cls, .bool false, .string Wo, .string Fo, .int .i64 h.exp, .int .i64 h.size] := HH1.step ((Below.refl _ _).drew)
  have ha : CellsAt W1.drew (w.heap.size + 1) [.bool false, .string ⟨#[]⟩, .string ⟨#[]⟩, .int .i64 0] := HA1.step ((Below.refl _ _).drew)
  have hbw : Below w.heap.size w W1.drew := B1.out.drew
  clear HH1 HA1
  go_region_with (first | (go_at_call 71; first | ((with_reducible refine (L1.out _).mono ?_); rintro e w5 ⟨rfl, hbb⟩; have hh : CellsAt w5 w.heap.size _ := CellsAt.step (by assumption) hbb; have ha : CellsAt w5 (w.heap.size + 1) _ := CellsAt.step (by assumption) hbb; have hbw : Below w.heap.size w w5 := belowTo (by assumption) hbb; have h0 := hh.cell 0 _ rfl; have h1 := hh.cell 1 _ rfl; have h2 := hh.cell 2 _ rfl; have h3 := hh.cell 3 _ rfl; have h4 := hh.cell 4 _ rfl; have h5 := hh.cell 5 _ rfl; have a0 := ha.cell 0 _ rfl; have f0 := ha.free 0; have a1 := ha.cell 1 _ rfl; have f1 := ha.free 1; have a2 := ha.cell 2 _ rfl; have f2 := ha.free 2; have a3 := ha.cell 3 _ rfl; have f3 := ha.free 3) | ((with_reducible refine (L2.out _).mono ?_); rintro e w5 ⟨rfl, hbb⟩; have hh : CellsAt w5 w.heap.size _ := CellsAt.step (by assumption) hbb; have ha : CellsAt w5 (w.heap.size + 1) _ := CellsAt.step (by assumption) hbb; have hbw : Below w.heap.size w w5 := belowTo (by assumption) hbb; have h0 := hh.cell 0 _ rfl; have h1 := hh.cell 1 _ rfl; have h2 := hh.cell 2 _ rfl; have h3 := hh.cell 3 _ rfl; have h4 := hh.cell 4 _ rfl; have h5 := hh.cell 5 _ rfl; have a0 := ha.cell 0 _ rfl; have f0 := ha.free 0; have a1 := ha.cell 1 _ rfl; have f1 := ha.free 1; have a2 := ha.cell 2 _ rfl; have f2 := ha.free 2; have a3 := ha.cell 3 _ rfl; have f3 := ha.free 3)))
  trace "behind"
  all_goals
    go_wp2_with fail
    exact bodyPost_ret (v := .agg #[.bool false, .string Wt, .string Ft, .int .i64 h.size]) (by simp [results, Tryd.results33, go_sem, a0, a1, a2, a3]) rfl ⟨by rw [HDV.out, EN.out]; rfl, (((hbw.setCell (p := ⟨w.heap.size + 1, 0, none⟩) (by simp) _).setCell (p := ⟨w.heap.size + 1, 1, none⟩) (by simp) _).setCell (p := ⟨w.heap.size + 1, 2, none⟩) (by simp) _).setCell (p := ⟨w.heap.size + 1, 3, none⟩) (by simp) _⟩
end Go.Proofs.YtpbbgmfjdachnaaDoor
