/- numeral's General. -/
import Derived.Test.YtpbbgmfjdachnaaDoorVOk
import Derived.Test.YtpbbgmfjdachnaaDoorCnt
import Derived.Test.YtpbbgmfjdachnaaDoorDecimal
import Derived.Deep.RegionHeld3
namespace Go.Proofs.YtpbbgmfjdachnaaDoor
open Go.RowKit

set_option maxRecDepth 100000
set_option maxHeartbeats 800000 in
theorem digText_ok (p q : ByteArray) (w : World) (hp : p.size ≤ 1000000000) (hq : q.size ≤ 1000000000) (hne : p.data.toList ++ q.data.toList ≠ []) :
    Calls Tryd.prog 36 #[.agg #[.string p, .string q]] w (RetBelow w (.string (bs (p.data.toList ++ q.data.toList)))) := by
  have HB := Lib.hid ((Below.refl w.heap.size w).alloc (Nat.le_refl _) (Obj.cells #[Value.string p, Value.string q] 58))
  have HO := Lib.hid (OwnB.nil (w.alloc (Obj.cells #[Value.string p, Value.string q] 58)))
  have hs1 : (w.alloc (Obj.cells #[Value.string p, Value.string q] 58)).heap.size = w.heap.size + 1 := by simp
  rw [hs1] at HO
  have HNE := Lib.hid hne
  clear hne hs1
  go_enter Tryd.func36, Tryd.ntmps36
  go_wp2_with fail
  refine (digAppend_ok (w.heap.size + 1) (.slice none 0 0) [] p q _ HO.out (by simp) hp hq).mono ?_
  rintro e w1 ⟨v1, rfl, h1, h2, _⟩
  have hback := h1.back (by simpa using HNE.out)
  have B1 := Lib.hid (HB.out.trans (h2.mono (by omega)))
  clear h1 h2
  go_wp2_with fail
  go_ret
  exact ⟨rfl, B1.out⟩

/-- What General tells of a head. -/
def genV (h : Hd) : Value :=
  if numD h = [] then .agg #[.int .u8 h.cls, .bool false, .string ⟨#[]⟩, .int .i64 0, .int .i64 h.size]
  else .agg #[.int .u8 h.cls, .bool h.neg, .string (bs (numD h)), .int .i64 (numE h), .int .i64 h.size]

set_option maxHeartbeats 1600000 in
theorem general_zero (s : ByteArray) (w : World) (hs : s.size ≤ 1000000) (T : Tabs w) (hz : numD (scanS s.data.toList true) = []) : Calls Tryd.prog 17 #[.string s] w (RetBelow w (genV (scanS s.data.toList true))) := by
  have ok := scanS_ok s true (by omega)
  have SC := Lib.hid (fun (W : World) (hT : Tabs W) => scan_ok s true W (by omega) hT)
  have EG := Lib.hid (show genV (scanS s.data.toList true) = .agg #[.int .u8 (scanS s.data.toList true).cls, .bool false, .string ⟨#[]⟩, .int .i64 0, .int .i64 (scanS s.data.toList true).size] by unfold genV; rw [if_pos hz])
  rw [EG.out]
  clear EG
  generalize scanS s.data.toList true = h at *
  have NC := Lib.hid (fun W : World => number_ok h W ok.whole ok.frac ok.exp)
  have ZC := Lib.hid (fun W : World => digZero_ok (bs (numW h)) (bs (numF h)) W (by rw [bs_size]; have := numW_le h; have := ok.whole; omega) (by rw [bs_size]; have := numF_le h; have := ok.frac; omega))
  rw [numD_nil, hz] at ZC
  have HT := Lib.hid T
  have A0 := CellsAt.new w [.int .u8 0, .bool false, .string ⟨#[]⟩, .int .i64 0, .int .i64 0] 29
  have B0 := Lib.hid ((Below.refl w.heap.size w).alloc (Nat.le_refl _) (Obj.cells #[.int .u8 0, .bool false, .string ⟨#[]⟩, .int .i64 0, .int .i64 0] 29))
  have HA0 := Lib.hid A0
  clear A0 T ok hz
  unfold headV at SC NC
  generalize bs (numW h) = W at *
  generalize bs (numF h) = F at *
  generalize bs h.whole = Wh at *
  generalize bs h.frac = Fr at *
  go_enter Tryd.func17, Tryd.ntmps17
  go_wp2_with fail
  refine (SC.out _ (HT.out.below B0.out)).mono ?_
  rintro e w1 ⟨rfl, hb1⟩
  have A1 := Lib.hid (HA0.out.step hb1)
  have B1 := Lib.hid (B0.out.trans (hb1.mono (by simp)))
  clear hb1
  have A3 := Lib.hid ((CellsAt.new w1 [.int .u8 h.cls, .bool h.neg, .string Wh, .string Fr, .int .i64 h.exp, .int .i64 h.size] 54).alloc (Obj.cells #[.int .u8 h.cls, .bool false, .string ⟨#[]⟩, .int .i64 0, .int .i64 h.size] 29))
  have A4 := CellsAt.new (w1.alloc (Obj.cells #[.int .u8 h.cls, .bool h.neg, .string Wh, .string Fr, .int .i64 h.exp, .int .i64 h.size] 54)) [.int .u8 h.cls, .bool false, .string ⟨#[]⟩, .int .i64 0, .int .i64 h.size] 29
  rw [show (w1.alloc (Obj.cells #[.int .u8 h.cls, .bool h.neg, .string Wh, .string Fr, .int .i64 h.exp, .int .i64 h.size] 54)).heap.size = w1.heap.size + 1 by simp] at A4
  have HA4 := Lib.hid A4
  have A2 := Lib.hid ((A1.out.alloc (Obj.cells #[.int .u8 h.cls, .bool h.neg, .string Wh, .string Fr, .int .i64 h.exp, .int .i64 h.size] 54)).alloc (Obj.cells #[.int .u8 h.cls, .bool false, .string ⟨#[]⟩, .int .i64 0, .int .i64 h.size] 29))
  have B2 := Lib.hid ((B1.out.alloc B1.out.size (Obj.cells #[.int .u8 h.cls, .bool h.neg, .string Wh, .string Fr, .int .i64 h.exp, .int .i64 h.size] 54)).alloc (by have := B1.out.size; simp; omega) (Obj.cells #[.int .u8 h.cls, .bool false, .string ⟨#[]⟩, .int .i64 0, .int .i64 h.size] 29))
  clear A4 A1 HA0 B0
  go_wp2_with fail
  generalize (w1.alloc (Obj.cells #[.int .u8 h.cls, .bool h.neg, .string Wh, .string Fr, .int .i64 h.exp, .int .i64 h.size] 54)).alloc (Obj.cells #[.int .u8 h.cls, .bool false, .string ⟨#[]⟩, .int .i64 0, .int .i64 h.size] 29) = w2 at *
  refine (NC.out _).mono ?_
  rintro e w3 ⟨rfl, hb3⟩
  have A53 := Lib.hid ((A3.out.step hb3).alloc (Obj.cells #[.string W, .string F] 58))
  have A54 := Lib.hid ((HA4.out.step hb3).alloc (Obj.cells #[.string W, .string F] 58))
  have A52 := Lib.hid ((A2.out.step hb3).alloc (Obj.cells #[.string W, .string F] 58))
  have A55 := Lib.hid (CellsAt.new w3 [.string W, .string F] 58)
  have B3 := Lib.hid ((B2.out.trans (hb3.mono B2.out.size)).alloc (Nat.le_trans B2.out.size hb3.size) (Obj.cells #[.string W, .string F] 58))
  clear hb3 A3 HA4 A2
  go_wp2_with fail
  generalize hw4 : w3.alloc (Obj.cells #[.string W, .string F] 58) = w4 at *
  have hz3 : w3.heap.size < w4.heap.size := by rw [← hw4]; simp
  clear hw4
  refine (ZC.out _).mono ?_
  rintro e w5 ⟨rfl, hb5⟩
  have D2 := Lib.hid (A52.out.step hb5)
  have D3 := Lib.hid (A53.out.step hb5)
  have D4 := Lib.hid (A54.out.step hb5)
  have D5 := Lib.hid (A55.out.step hb5)
  have B5 := Lib.hid (B3.out.trans (hb5.mono B3.out.size))
  clear hb5 A52 A53 A54 A55
  have l2 := D2.out.lt
  have hw1 := B1.out.size
  have a0 := D2.out.cell 0 _ rfl
  have a1 := D2.out.cell 1 _ rfl
  have a2 := D2.out.cell 2 _ rfl
  have a3 := D2.out.cell 3 _ rfl
  have a4 := D2.out.cell 4 _ rfl
  have f0 := D2.out.free 0
  have f1 := D2.out.free 1
  have f2 := D2.out.free 2
  have f3 := D2.out.free 3
  have f4 := D2.out.free 4
  have e0 := D4.out.cell 0 _ rfl
  have e1 := D4.out.cell 1 _ rfl
  have e2 := D4.out.cell 2 _ rfl
  have e3 := D4.out.cell 3 _ rfl
  have e4 := D4.out.cell 4 _ rfl
  go_wp2_with fail
  exact bodyPost_ret (v := .agg #[.int .u8 h.cls, .bool false, .string ⟨#[]⟩, .int .i64 0, .int .i64 h.size]) (by simp [results, Tryd.results17, go_sem, a0, a1, a2, a3, a4]) rfl ⟨rfl, ((((B5.out.setCell (p := ⟨w.heap.size, 0, none⟩) (by simp) _).setCell (p := ⟨w.heap.size, 1, none⟩) (by simp) _).setCell (p := ⟨w.heap.size, 2, none⟩) (by simp) _).setCell (p := ⟨w.heap.size, 3, none⟩) (by simp) _).setCell (p := ⟨w.heap.size, 4, none⟩) (by simp) _⟩

theorem gen_end (a : Act) (X : World) (w : World) (v0 v1 v2 v3 v4 : Value) (hp : a.tmps.getD 2 undef = .pointer (some ⟨w.heap.size, 0, none⟩)) (hd : a.defers = [])
    (hX : CellsAt X w.heap.size [.int .u8 0, .bool false, .string ⟨#[]⟩, .int .i64 0, .int .i64 0]) (hB : Below w.heap.size w X) :
    bodyPost Tryd.prog Tryd.f17 (RetBelow w (.agg #[v0, v1, v2, v3, v4])) Exit.ret a (((((X.setCell ⟨w.heap.size, 0, none⟩ v0).setCell ⟨w.heap.size, 1, none⟩ v1).setCell ⟨w.heap.size, 2, none⟩ v2).setCell ⟨w.heap.size, 3, none⟩ v3).setCell ⟨w.heap.size, 4, none⟩ v4) := by
  have C := ((((hX.set 0 v0 (by simp)).set 1 v1 (by simp)).set 2 v2 (by simp)).set 3 v3 (by simp)).set 4 v4 (by simp)
  have hp2 := hp
  simp only [Array.getD_eq_getD_getElem?] at hp2
  have BX := ((((hB.setCell (p := ⟨w.heap.size, 0, none⟩) (by simp) v0).setCell (p := ⟨w.heap.size, 1, none⟩) (by simp) v1).setCell (p := ⟨w.heap.size, 2, none⟩) (by simp) v2).setCell (p := ⟨w.heap.size, 3, none⟩) (by simp) v3).setCell (p := ⟨w.heap.size, 4, none⟩) (by simp) v4
  generalize ((((X.setCell ⟨w.heap.size, 0, none⟩ v0).setCell ⟨w.heap.size, 1, none⟩ v1).setCell ⟨w.heap.size, 2, none⟩ v2).setCell ⟨w.heap.size, 3, none⟩ v3).setCell ⟨w.heap.size, 4, none⟩ v4 = Y at *
  have c0 := C.cell 0 _ rfl
  have c1 := C.cell 1 _ rfl
  have c2 := C.cell 2 _ rfl
  have c3 := C.cell 3 _ rfl
  have c4 := C.cell 4 _ rfl
  exact bodyPost_ret (v := .agg #[v0, v1, v2, v3, v4]) (by simp [results, Tryd.results17, go_sem, hp2, c0, c1, c2, c3, c4]) hd ⟨rfl, BX⟩

set_option maxHeartbeats 1600000 in
theorem general_num (s : ByteArray) (w : World) (hs : s.size ≤ 1000000) (T : Tabs w) (hz : numD (scanS s.data.toList true) ≠ []) : Calls Tryd.prog 17 #[.string s] w (RetBelow w (genV (scanS s.data.toList true))) := by
  have ok := scanS_ok s true (by omega)
  have SC := Lib.hid (fun (W : World) (hT : Tabs W) => scan_ok s true W (by omega) hT)
  have EG := Lib.hid (show genV (scanS s.data.toList true) = .agg #[.int .u8 (scanS s.data.toList true).cls, .bool (scanS s.data.toList true).neg, .string (bs (numD (scanS s.data.toList true))), .int .i64 (numE (scanS s.data.toList true)), .int .i64 (scanS s.data.toList true).size] by unfold genV; rw [if_neg hz])
  rw [EG.out]
  clear EG
  have pk := scanS_parts s.data.toList true
  rw [← Lib.size_eq] at pk
  generalize scanS s.data.toList true = h at *
  have NC := Lib.hid (fun W : World => number_ok h W ok.whole ok.frac ok.exp)
  have ZC := Lib.hid (fun W : World => digZero_ok (bs (numW h)) (bs (numF h)) W (by rw [bs_size]; have := numW_le h; have := ok.whole; omega) (by rw [bs_size]; have := numF_le h; have := ok.frac; omega))
  rw [numD_nil, decide_eq_false hz] at ZC
  have DT := Lib.hid (fun X : World => digText_ok (bs (numW h)) (bs (numF h)) X (by rw [bs_size]; have := numW_le h; have := pk.wl; omega) (by rw [bs_size]; have := numF_le h; have := pk.fl; omega) (by rw [bs_list, bs_list]; exact hz))
  rw [bs_list, bs_list] at DT
  have EDD := Lib.hid (show bs (numD h) = bs (numW h ++ numF h) from rfl)
  rw [EDD.out]
  clear EDD pk
  generalize bs (numW h ++ numF h) = DD at *
  have HT := Lib.hid T
  have A0 := CellsAt.new w [.int .u8 0, .bool false, .string ⟨#[]⟩, .int .i64 0, .int .i64 0] 29
  have B0 := Lib.hid ((Below.refl w.heap.size w).alloc (Nat.le_refl _) (Obj.cells #[.int .u8 0, .bool false, .string ⟨#[]⟩, .int .i64 0, .int .i64 0] 29))
  have HA0 := Lib.hid A0
  clear A0 T ok hz
  generalize numE h = XE at *
  unfold headV at SC NC
  generalize bs (numW h) = W at *
  generalize bs (numF h) = F at *
  generalize bs h.whole = Wh at *
  generalize bs h.frac = Fr at *
  go_enter Tryd.func17, Tryd.ntmps17
  go_wp2_with fail
  refine (SC.out _ (HT.out.below B0.out)).mono ?_
  rintro e w1 ⟨rfl, hb1⟩
  have A1 := Lib.hid (HA0.out.step hb1)
  have B1 := Lib.hid (B0.out.trans (hb1.mono (by simp)))
  clear hb1
  have A1LT := Lib.hid (show w.heap.size + 1 ≤ w1.heap.size from A1.out.lt)
  have A3 := Lib.hid ((CellsAt.new w1 [.int .u8 h.cls, .bool h.neg, .string Wh, .string Fr, .int .i64 h.exp, .int .i64 h.size] 54).alloc (Obj.cells #[.int .u8 h.cls, .bool false, .string ⟨#[]⟩, .int .i64 0, .int .i64 h.size] 29))
  have A4 := CellsAt.new (w1.alloc (Obj.cells #[.int .u8 h.cls, .bool h.neg, .string Wh, .string Fr, .int .i64 h.exp, .int .i64 h.size] 54)) [.int .u8 h.cls, .bool false, .string ⟨#[]⟩, .int .i64 0, .int .i64 h.size] 29
  rw [show (w1.alloc (Obj.cells #[.int .u8 h.cls, .bool h.neg, .string Wh, .string Fr, .int .i64 h.exp, .int .i64 h.size] 54)).heap.size = w1.heap.size + 1 by simp] at A4
  have HA4 := Lib.hid A4
  have A2 := Lib.hid ((A1.out.alloc (Obj.cells #[.int .u8 h.cls, .bool h.neg, .string Wh, .string Fr, .int .i64 h.exp, .int .i64 h.size] 54)).alloc (Obj.cells #[.int .u8 h.cls, .bool false, .string ⟨#[]⟩, .int .i64 0, .int .i64 h.size] 29))
  have B2 := Lib.hid ((B1.out.alloc B1.out.size (Obj.cells #[.int .u8 h.cls, .bool h.neg, .string Wh, .string Fr, .int .i64 h.exp, .int .i64 h.size] 54)).alloc (by have := B1.out.size; simp; omega) (Obj.cells #[.int .u8 h.cls, .bool false, .string ⟨#[]⟩, .int .i64 0, .int .i64 h.size] 29))
  clear A4 A1 HA0 B0
  go_wp2_with fail
  generalize (w1.alloc (Obj.cells #[.int .u8 h.cls, .bool h.neg, .string Wh, .string Fr, .int .i64 h.exp, .int .i64 h.size] 54)).alloc (Obj.cells #[.int .u8 h.cls, .bool false, .string ⟨#[]⟩, .int .i64 0, .int .i64 h.size] 29) = w2 at *
  refine (NC.out _).mono ?_
  rintro e w3 ⟨rfl, hb3⟩
  have A53 := Lib.hid ((A3.out.step hb3).alloc (Obj.cells #[.string W, .string F] 58))
  have A54 := Lib.hid ((HA4.out.step hb3).alloc (Obj.cells #[.string W, .string F] 58))
  have A52 := Lib.hid ((A2.out.step hb3).alloc (Obj.cells #[.string W, .string F] 58))
  have A55 := Lib.hid (CellsAt.new w3 [.string W, .string F] 58)
  have B3 := Lib.hid ((B2.out.trans (hb3.mono B2.out.size)).alloc (Nat.le_trans B2.out.size hb3.size) (Obj.cells #[.string W, .string F] 58))
  have LW := Lib.hid (show w1.heap.size + 1 < w3.heap.size from (HA4.out.step hb3).lt)
  clear hb3 A3 HA4 A2
  go_wp2_with fail
  generalize hw4 : w3.alloc (Obj.cells #[.string W, .string F] 58) = w4 at *
  have hz3 : w3.heap.size < w4.heap.size := by rw [← hw4]; simp
  clear hw4
  refine (ZC.out _).mono ?_
  rintro e w5 ⟨rfl, hb5⟩
  have D2 := Lib.hid (A52.out.step hb5)
  have D3 := Lib.hid (A53.out.step hb5)
  have D4 := Lib.hid (A54.out.step hb5)
  have D5 := Lib.hid (A55.out.step hb5)
  have B5 := Lib.hid (B3.out.trans (hb5.mono B3.out.size))
  clear hb5 A52 A53 A54 A55
  have l2 := D2.out.lt
  have hw1 : w.heap.size + 1 ≤ w1.heap.size := A1LT.out
  have a0 := D2.out.cell 0 _ rfl
  have a1 := D2.out.cell 1 _ rfl
  have a2 := D2.out.cell 2 _ rfl
  have a3 := D2.out.cell 3 _ rfl
  have a4 := D2.out.cell 4 _ rfl
  have f0 := D2.out.free 0
  have f1 := D2.out.free 1
  have f2 := D2.out.free 2
  have f3 := D2.out.free 3
  have f4 := D2.out.free 4
  have e0 := D4.out.cell 0 _ rfl
  have e1 := D4.out.cell 1 _ rfl
  have e2 := D4.out.cell 2 _ rfl
  have e3 := D4.out.cell 3 _ rfl
  have e4 := D4.out.cell 4 _ rfl
  have lw := LW.out
  have ne43 : w1.heap.size + 1 ≠ w1.heap.size := by omega
  have ne45 : w1.heap.size + 1 ≠ w3.heap.size := by omega
  have ne42 : w1.heap.size + 1 ≠ w.heap.size := by omega
  have hBw : w.heap.size ≤ w1.heap.size + 1 := by omega
  have g1 := D3.out.cell 1 _ rfl
  have k0 := D5.out.cell 0 _ rfl
  have k1 := D5.out.cell 1 _ rfl
  go_wp2_with fail
  go_region_held3 (fun w' => w'.cell? ⟨w1.heap.size, 1, none⟩ = some (.bool h.neg) ∧ w'.cell? ⟨w3.heap.size, 0, none⟩ = some (.string W) ∧ w'.cell? ⟨w3.heap.size, 1, none⟩ = some (.string F))
    (first | exact ⟨g19, k09, k19⟩ | go_keep)
    ((first
      | (go_at_call 36; ((with_reducible refine (DT.out w5.drew).mono ?_); rintro e w9 ⟨rfl, hbb⟩; have hb9 := hbb; have q3 := (D3.out.step ((Below.refl _ _).drew)).step hbb; have q5 := (D5.out.step ((Below.refl _ _).drew)).step hbb; have q2 := (D2.out.step ((Below.refl _ _).drew)).step hbb; have q4 := (D4.out.step ((Below.refl _ _).drew)).step hbb; have g19 := q3.cell 1 _ rfl; have k09 := q5.cell 0 _ rfl; have k19 := q5.cell 1 _ rfl; have u0 := q4.cell 0 _ rfl; have uf0 := q4.free 0; have u1 := q4.cell 1 _ rfl; have uf1 := q4.free 1; have u2 := q4.cell 2 _ rfl; have uf2 := q4.free 2; have u3 := q4.cell 3 _ rfl; have uf3 := q4.free 3; have u4 := q4.cell 4 _ rfl; have uf4 := q4.free 4; have r0 := q2.cell 0 _ rfl; have rf0 := q2.free 0; have r1 := q2.cell 1 _ rfl; have rf1 := q2.free 1; have r2 := q2.cell 2 _ rfl; have rf2 := q2.free 2; have r3 := q2.cell 3 _ rfl; have rf3 := q2.free 3; have r4 := q2.cell 4 _ rfl; have rf4 := q2.free 4; have B9 := Lib.hid ((B5.out.drew).trans (hb9.mono (B5.out.drew).size)); have q2l := q2.lt))
      | (go_at_call 36; ((with_reducible refine (DT.out (w5.setCell ⟨w1.heap.size + 1, 1, none⟩ (.bool h.neg)).drew).mono ?_); rintro e w9 ⟨rfl, hbb⟩; have hb9 := hbb; have q3 := ((D3.out.other ne43 1 (.bool h.neg)).step ((Below.refl _ _).drew)).step hbb; have q5 := ((D5.out.other ne45 1 (.bool h.neg)).step ((Below.refl _ _).drew)).step hbb; have q2 := ((D2.out.other ne42 1 (.bool h.neg)).step ((Below.refl _ _).drew)).step hbb; have q4 := ((D4.out.set 1 (.bool h.neg) (by decide)).step ((Below.refl _ _).drew)).step hbb; have g19 := q3.cell 1 _ rfl; have k09 := q5.cell 0 _ rfl; have k19 := q5.cell 1 _ rfl; have u0 := q4.cell 0 _ rfl; have uf0 := q4.free 0; have u1 := q4.cell 1 _ rfl; have uf1 := q4.free 1; have u2 := q4.cell 2 _ rfl; have uf2 := q4.free 2; have u3 := q4.cell 3 _ rfl; have uf3 := q4.free 3; have u4 := q4.cell 4 _ rfl; have uf4 := q4.free 4; have r0 := q2.cell 0 _ rfl; have rf0 := q2.free 0; have r1 := q2.cell 1 _ rfl; have rf1 := q2.free 1; have r2 := q2.cell 2 _ rfl; have rf2 := q2.free 2; have r3 := q2.cell 3 _ rfl; have rf3 := q2.free 3; have r4 := q2.cell 4 _ rfl; have rf4 := q2.free 4; have B9 := Lib.hid (((B5.out.setCell (p := ⟨w1.heap.size + 1, 1, none⟩) hBw (.bool h.neg)).drew).trans (hb9.mono ((B5.out.setCell (p := ⟨w1.heap.size + 1, 1, none⟩) hBw (.bool h.neg)).drew).size)); have q2l := q2.lt))
      | (go_at_call 36; ((with_reducible refine (DT.out (w5.setCell ⟨w1.heap.size + 1, 3, none⟩ (.int .i64 XE)).drew).mono ?_); rintro e w9 ⟨rfl, hbb⟩; have hb9 := hbb; have q3 := ((D3.out.other ne43 3 (.int .i64 XE)).step ((Below.refl _ _).drew)).step hbb; have q5 := ((D5.out.other ne45 3 (.int .i64 XE)).step ((Below.refl _ _).drew)).step hbb; have q2 := ((D2.out.other ne42 3 (.int .i64 XE)).step ((Below.refl _ _).drew)).step hbb; have q4 := ((D4.out.set 3 (.int .i64 XE) (by decide)).step ((Below.refl _ _).drew)).step hbb; have g19 := q3.cell 1 _ rfl; have k09 := q5.cell 0 _ rfl; have k19 := q5.cell 1 _ rfl; have u0 := q4.cell 0 _ rfl; have uf0 := q4.free 0; have u1 := q4.cell 1 _ rfl; have uf1 := q4.free 1; have u2 := q4.cell 2 _ rfl; have uf2 := q4.free 2; have u3 := q4.cell 3 _ rfl; have uf3 := q4.free 3; have u4 := q4.cell 4 _ rfl; have uf4 := q4.free 4; have r0 := q2.cell 0 _ rfl; have rf0 := q2.free 0; have r1 := q2.cell 1 _ rfl; have rf1 := q2.free 1; have r2 := q2.cell 2 _ rfl; have rf2 := q2.free 2; have r3 := q2.cell 3 _ rfl; have rf3 := q2.free 3; have r4 := q2.cell 4 _ rfl; have rf4 := q2.free 4; have B9 := Lib.hid (((B5.out.setCell (p := ⟨w1.heap.size + 1, 3, none⟩) hBw (.int .i64 XE)).drew).trans (hb9.mono ((B5.out.setCell (p := ⟨w1.heap.size + 1, 3, none⟩) hBw (.int .i64 XE)).drew).size)); have q2l := q2.lt))
      | (go_at_call 36; ((with_reducible refine (DT.out ((w5.setCell ⟨w1.heap.size + 1, 1, none⟩ (.bool h.neg)).setCell ⟨w1.heap.size + 1, 3, none⟩ (.int .i64 XE)).drew).mono ?_); rintro e w9 ⟨rfl, hbb⟩; have hb9 := hbb; have q3 := (((D3.out.other ne43 1 (.bool h.neg)).other ne43 3 (.int .i64 XE)).step ((Below.refl _ _).drew)).step hbb; have q5 := (((D5.out.other ne45 1 (.bool h.neg)).other ne45 3 (.int .i64 XE)).step ((Below.refl _ _).drew)).step hbb; have q2 := (((D2.out.other ne42 1 (.bool h.neg)).other ne42 3 (.int .i64 XE)).step ((Below.refl _ _).drew)).step hbb; have q4 := (((D4.out.set 1 (.bool h.neg) (by decide)).set 3 (.int .i64 XE) (by decide)).step ((Below.refl _ _).drew)).step hbb; have g19 := q3.cell 1 _ rfl; have k09 := q5.cell 0 _ rfl; have k19 := q5.cell 1 _ rfl; have u0 := q4.cell 0 _ rfl; have uf0 := q4.free 0; have u1 := q4.cell 1 _ rfl; have uf1 := q4.free 1; have u2 := q4.cell 2 _ rfl; have uf2 := q4.free 2; have u3 := q4.cell 3 _ rfl; have uf3 := q4.free 3; have u4 := q4.cell 4 _ rfl; have uf4 := q4.free 4; have r0 := q2.cell 0 _ rfl; have rf0 := q2.free 0; have r1 := q2.cell 1 _ rfl; have rf1 := q2.free 1; have r2 := q2.cell 2 _ rfl; have rf2 := q2.free 2; have r3 := q2.cell 3 _ rfl; have rf3 := q2.free 3; have r4 := q2.cell 4 _ rfl; have rf4 := q2.free 4; have B9 := Lib.hid ((((B5.out.setCell (p := ⟨w1.heap.size + 1, 1, none⟩) hBw (.bool h.neg)).setCell (p := ⟨w1.heap.size + 1, 3, none⟩) hBw (.int .i64 XE)).drew).trans (hb9.mono (((B5.out.setCell (p := ⟨w1.heap.size + 1, 1, none⟩) hBw (.bool h.neg)).setCell (p := ⟨w1.heap.size + 1, 3, none⟩) hBw (.int .i64 XE)).drew).size)); have q2l := q2.lt))
      | (go_at_call 36; ((with_reducible refine (DT.out ((w5.setCell ⟨w1.heap.size + 1, 3, none⟩ (.int .i64 XE)).setCell ⟨w1.heap.size + 1, 1, none⟩ (.bool h.neg)).drew).mono ?_); rintro e w9 ⟨rfl, hbb⟩; have hb9 := hbb; have q3 := (((D3.out.other ne43 3 (.int .i64 XE)).other ne43 1 (.bool h.neg)).step ((Below.refl _ _).drew)).step hbb; have q5 := (((D5.out.other ne45 3 (.int .i64 XE)).other ne45 1 (.bool h.neg)).step ((Below.refl _ _).drew)).step hbb; have q2 := (((D2.out.other ne42 3 (.int .i64 XE)).other ne42 1 (.bool h.neg)).step ((Below.refl _ _).drew)).step hbb; have q4 := (((D4.out.set 3 (.int .i64 XE) (by decide)).set 1 (.bool h.neg) (by decide)).step ((Below.refl _ _).drew)).step hbb; have g19 := q3.cell 1 _ rfl; have k09 := q5.cell 0 _ rfl; have k19 := q5.cell 1 _ rfl; have u0 := q4.cell 0 _ rfl; have uf0 := q4.free 0; have u1 := q4.cell 1 _ rfl; have uf1 := q4.free 1; have u2 := q4.cell 2 _ rfl; have uf2 := q4.free 2; have u3 := q4.cell 3 _ rfl; have uf3 := q4.free 3; have u4 := q4.cell 4 _ rfl; have uf4 := q4.free 4; have r0 := q2.cell 0 _ rfl; have rf0 := q2.free 0; have r1 := q2.cell 1 _ rfl; have rf1 := q2.free 1; have r2 := q2.cell 2 _ rfl; have rf2 := q2.free 2; have r3 := q2.cell 3 _ rfl; have rf3 := q2.free 3; have r4 := q2.cell 4 _ rfl; have rf4 := q2.free 4; have B9 := Lib.hid ((((B5.out.setCell (p := ⟨w1.heap.size + 1, 3, none⟩) hBw (.int .i64 XE)).setCell (p := ⟨w1.heap.size + 1, 1, none⟩) hBw (.bool h.neg)).drew).trans (hb9.mono (((B5.out.setCell (p := ⟨w1.heap.size + 1, 3, none⟩) hBw (.int .i64 XE)).setCell (p := ⟨w1.heap.size + 1, 1, none⟩) hBw (.bool h.neg)).drew).size)); have q2l := q2.lt))))
  trace "behind"
  all_goals
    go_wp2_with fail
    refine gen_end _ _ w _ _ _ _ _ rfl rfl ?_ ?_
    · repeat (first | exact q2 | refine CellsAt.other ?_ ne42 _ _)
    · repeat (first | exact B9.out | refine Below.setCell ?_ (by simp; try omega) _)
end Go.Proofs.YtpbbgmfjdachnaaDoor
