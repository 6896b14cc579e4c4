/- The document's answer for numbers: Compare; NumeralCompares' walk. -/
import Derived.Test.YtgpcmlbmmcnkjaaGreatDoorNumRefGc
import Derived.Deep.RegionHeld3
namespace Go.Proofs.YtgpcmlbmmcnkjaaGreatDoor.Num
open Go.RowKit

set_option maxRecDepth 100000
theorem cmpR_nh (kind : Nat) (hk : kind = 16 ∨ kind = 64) (s t : ByteArray) (w : World) (hs : s.size ≤ 1048576) (ht : t.size ≤ 1048576) :
    Calls Tryz.prog 50 #[.int .i64 kind, .string s, .string t] w (RetBelow w (.int .i64 (cmpS kind s.data.toList t.data.toList))) := by
  have N1 := Lib.hid (fun W => number_ok16 kind hk s W (by omega))
  have N2 := Lib.hid (fun W => number_ok16 kind hk t W (by omega))
  have l1 := numD_len s.data.toList false
  have l2 := numD_len t.data.toList false
  rw [← Lib.size_eq] at l1 l2
  have OC := Lib.hid (fun W => order_ok (nrNeg (scanS s.data.toList false)) (nrNeg (scanS t.data.toList false)) (numD (scanS s.data.toList false)) (numD (scanS t.data.toList false)) (nrP (scanS s.data.toList false)) (nrP (scanS t.data.toList false)) ((if kind = 64 then nrR (scanS s.data.toList false) s.data.toList else 0 : Nat) : Int) ((if kind = 64 then nrR (scanS t.data.toList false) t.data.toList else 0 : Nat) : Int) W (numD_dig _ _) (numD_dig _ _) (by omega) (by omega))
  rw [cmp_nh kind hk] at OC
  unfold numR at N1 N2
  generalize cmpS kind s.data.toList t.data.toList = c at *
  unfold numV at N1 N2 OC
  generalize ((if kind = 64 then nrR (scanS s.data.toList false) s.data.toList else 0 : Nat) : Int) = r1 at *
  generalize ((if kind = 64 then nrR (scanS t.data.toList false) t.data.toList else 0 : Nat) : Int) = r2 at *
  generalize bs (numD (scanS s.data.toList false)) = d1 at *
  generalize bs (numD (scanS t.data.toList false)) = d2 at *
  generalize nrP (scanS s.data.toList false) = p1 at *
  generalize nrP (scanS t.data.toList false) = p2 at *
  generalize nrNeg (scanS s.data.toList false) = n1 at *
  generalize nrNeg (scanS t.data.toList false) = n2 at *
  clear l1 l2
  rcases hk with rfl | rfl
  all_goals
    go_enter Tryz.func50, Tryz.ntmps50
    go_wp2_with fail
    refine (N1.out _).mono ?_
    rintro e w1 ⟨rfl, hb1⟩
    have B1 := Lib.hid hb1
    clear hb1
    go_wp2_with fail
    refine (N2.out _).mono ?_
    rintro e w2 ⟨rfl, hb2⟩
    have B2 := Lib.hid (B1.out.trans (hb2.mono B1.out.size))
    clear hb2
    go_wp2_with fail
    refine (OC.out _).mono ?_
    rintro e w3 ⟨rfl, hb3⟩
    have B3 := Lib.hid (B2.out.trans (hb3.mono B2.out.size))
    clear hb3
    go_wp2_with fail
    go_ret
    exact ⟨rfl, B3.out⟩

theorem cmpR_m (s t : ByteArray) (w : World) (hs : s.size ≤ 1048576) (ht : t.size ≤ 1048576) :
    Calls Tryz.prog 50 #[.int .i64 128, .string s, .string t] w (RetBelow w (.int .i64 (cmpS 128 s.data.toList t.data.toList))) := by
  have N1 := Lib.hid (fun W => monthR_ok s W (by omega))
  have N2 := Lib.hid (fun W => monthR_ok t W (by omega))
  have EC := Lib.hid (show cmpS 128 s.data.toList t.data.toList = cmpI (monthS s.data.toList) (monthS t.data.toList) from rfl)
  rw [EC.out]
  clear EC
  generalize (monthS s.data.toList : Int) = x at *
  generalize (monthS t.data.toList : Int) = y at *
  go_enter Tryz.func50, Tryz.ntmps50
  go_wp2_with fail
  refine (N1.out _).mono ?_
  rintro e w1 ⟨rfl, hb1⟩
  have B1 := Lib.hid hb1
  clear hb1
  go_wp2_with fail
  refine (N2.out _).mono ?_
  rintro e w2 ⟨rfl, hb2⟩
  have B2 := Lib.hid (B1.out.trans (hb2.mono B1.out.size))
  clear hb2
  go_wp2_with fail
  refine (ints_ok _ _ _).mono ?_
  rintro e w3 ⟨rfl, rfl⟩
  go_wp2_with fail
  go_ret
  exact ⟨rfl, B2.out⟩

theorem cmpR_v (s t : ByteArray) (w : World) (hs : s.size ≤ 1048576) (ht : t.size ≤ 1048576) :
    Calls Tryz.prog 50 #[.int .i64 256, .string s, .string t] w (RetBelow w (.int .i64 (cmpS 256 s.data.toList t.data.toList))) := by
  have VC := Lib.hid (fun W => ver_walk s t hs ht W)
  have EC := Lib.hid (show cmpS 256 s.data.toList t.data.toList = cmpVer s.data.toList t.data.toList from rfl)
  rw [EC.out]
  clear EC
  generalize cmpVer s.data.toList t.data.toList = c at *
  go_enter Tryz.func50, Tryz.ntmps50
  go_wp2_with fail
  refine (VC.out _).mono ?_
  rintro e w1 ⟨rfl, hb1⟩
  have B1 := Lib.hid hb1
  clear hb1
  go_wp2_with fail
  go_ret
  exact ⟨rfl, B1.out⟩

theorem cmpR_b (kind : Nat) (h1 : kind ≠ 16) (h2 : kind ≠ 32) (h3 : kind ≠ 64) (h4 : kind ≠ 128) (h5 : kind ≠ 256) (s t : ByteArray) (w : World) (hs : s.size ≤ 1048576) (ht : t.size ≤ 1048576) :
    Calls Tryz.prog 50 #[.int .i64 kind, .string s, .string t] w (RetBelow w (.int .i64 (cmpS kind s.data.toList t.data.toList))) := by
  have BC := Lib.hid (fun W => bytes_ok s t W (by omega) (by omega))
  have EC := Lib.hid (show cmpS kind s.data.toList t.data.toList = cmpL s.data.toList t.data.toList by
    unfold cmpS
    rw [if_neg (by omega), if_neg h4, if_neg h5])
  rw [EC.out]
  clear EC
  generalize cmpL s.data.toList t.data.toList = c at *
  have t1 : ((kind : Int) == 16) = false := by rw [beq_eq_false_iff_ne]; omega
  have t2 : ((kind : Int) == 32) = false := by rw [beq_eq_false_iff_ne]; omega
  have t3 : ((kind : Int) == 64) = false := by rw [beq_eq_false_iff_ne]; omega
  have t4 : ((kind : Int) == 128) = false := by rw [beq_eq_false_iff_ne]; omega
  have t5 : ((kind : Int) == 256) = false := by rw [beq_eq_false_iff_ne]; omega
  clear h1 h2 h3 h4 h5
  go_enter Tryz.func50, Tryz.ntmps50
  go_wp2_with fail
  refine (BC.out _).mono ?_
  rintro e w1 ⟨rfl, hb1⟩
  have B1 := Lib.hid hb1
  clear hb1
  go_wp2_with fail
  go_ret
  exact ⟨rfl, B1.out⟩

theorem belowTo3 {w W w5 : World} (h : Below w.heap.size w W) (k : Below W.heap.size W w5) : Below w.heap.size w w5 := h.trans (k.mono h.size)
set_option maxHeartbeats 3200000 in
theorem cmpR_g (s t : ByteArray) (w : World) (hs : s.size ≤ 1048576) (ht : t.size ≤ 1048576) :
    Calls Tryz.prog 50 #[.int .i64 32, .string s, .string t] w (RetBelow w (.int .i64 (cmpS 32 s.data.toList t.data.toList))) := by
  have N1 := Lib.hid (fun W => generalR_ok s W (by omega))
  have N2 := Lib.hid (fun W => generalR_ok t W (by omega))
  have l1 := numD_len s.data.toList true
  have l2 := numD_len t.data.toList true
  rw [← Lib.size_eq] at l1 l2
  have OC := Lib.hid (fun W => order_ok (gNeg (scanS s.data.toList true)) (gNeg (scanS t.data.toList true)) (numD (scanS s.data.toList true)) (numD (scanS t.data.toList true)) (gExp (scanS s.data.toList true)) (gExp (scanS t.data.toList true)) 0 0 W (numD_dig _ _) (numD_dig _ _) (by omega) (by omega))
  have EC := cmp_g s.data.toList t.data.toList
  have k1 := (scan_cls s.data.toList).1
  have k2 := (scan_cls t.data.toList).1
  have G1 := Lib.hid (fun W => gnum_ok (scanS s.data.toList true).cls (gNeg (scanS s.data.toList true)) (bs (numD (scanS s.data.toList true))) (gExp (scanS s.data.toList true)) ((scanS s.data.toList true).size : Int) W)
  have G2 := Lib.hid (fun W => gnum_ok (scanS t.data.toList true).cls (gNeg (scanS t.data.toList true)) (bs (numD (scanS t.data.toList true))) (gExp (scanS t.data.toList true)) ((scanS t.data.toList true).size : Int) W)
  simp only [genV_flat] at N1 N2
  unfold numV at G1 G2 OC
  generalize cmpS 32 s.data.toList t.data.toList = c at *
  generalize orderR (gNeg (scanS s.data.toList true)) (numD (scanS s.data.toList true)) (gExp (scanS s.data.toList true)) 0 (gNeg (scanS t.data.toList true)) (numD (scanS t.data.toList true)) (gExp (scanS t.data.toList true)) 0 = oo at *
  generalize bs (numD (scanS s.data.toList true)) = d1 at *
  generalize bs (numD (scanS t.data.toList true)) = d2 at *
  generalize gExp (scanS s.data.toList true) = p1 at *
  generalize gExp (scanS t.data.toList true) = p2 at *
  generalize gNeg (scanS s.data.toList true) = n1 at *
  generalize gNeg (scanS t.data.toList true) = n2 at *
  generalize ((scanS s.data.toList true).size : Int) = z1 at *
  generalize ((scanS t.data.toList true).size : Int) = z2 at *
  generalize (scanS s.data.toList true).cls = c1 at *
  generalize (scanS t.data.toList true).cls = c2 at *
  clear l1 l2
  have HEC := Lib.hid EC
  clear EC
  go_enter Tryz.func50, Tryz.ntmps50
  go_wp2_with fail
  refine (N1.out _).mono ?_
  rintro e w1 ⟨rfl, hb1⟩
  have A1 := Lib.hid (CellsAt.new w1 [.int .u8 c1, .bool n1, .string d1, .int .i64 p1, .int .i64 z1] 98)
  have B1 := Lib.hid (hb1.alloc hb1.size (Obj.cells #[.int .u8 c1, .bool n1, .string d1, .int .i64 p1, .int .i64 z1] 98))
  clear hb1
  go_wp2_with fail
  generalize hX : w1.alloc (Obj.cells #[.int .u8 c1, .bool n1, .string d1, .int .i64 p1, .int .i64 z1] 98) = x1 at *
  clear hX
  refine (N2.out _).mono ?_
  rintro e w2 ⟨rfl, hb2⟩
  have A2 := Lib.hid ((A1.out.step hb2).alloc (Obj.cells #[.int .u8 c2, .bool n2, .string d2, .int .i64 p2, .int .i64 z2] 98))
  have C2 := Lib.hid (CellsAt.new w2 [.int .u8 c2, .bool n2, .string d2, .int .i64 p2, .int .i64 z2] 98)
  have B2 := Lib.hid ((B1.out.trans (hb2.mono B1.out.size)).alloc (Nat.le_trans B1.out.size hb2.size) (Obj.cells #[.int .u8 c2, .bool n2, .string d2, .int .i64 p2, .int .i64 z2] 98))
  clear hb2
  go_upto_region 8 with fail
  generalize hX : w2.alloc (Obj.cells #[.int .u8 c2, .bool n2, .string d2, .int .i64 p2, .int .i64 z2] 98) = x2 at *
  clear hX
  have a0 := A2.out.cell 0 _ rfl
  have b0 := C2.out.cell 0 _ rfl
  by_cases hne : c1 = c2
  · have t1 : ((c1 : Int) != (c2 : Int)) = false := by rw [hne]; simp
    have HR := Lib.hid (show oo = c by have := HEC.out; rwa [if_neg (by simpa using hne)] at this)
    clear hne
    have a1 := A2.out.cell 1 _ rfl
    have a2 := A2.out.cell 2 _ rfl
    have a3 := A2.out.cell 3 _ rfl
    have a4 := A2.out.cell 4 _ rfl
    have b1 := C2.out.cell 1 _ rfl
    have b2 := C2.out.cell 2 _ rfl
    have b3 := C2.out.cell 3 _ rfl
    have b4 := C2.out.cell 4 _ rfl
    go_upto_region 10 with fail
    have hA : CellsAt x2.drew w1.heap.size [.int .u8 c1, .bool n1, .string d1, .int .i64 p1, .int .i64 z1] := A2.out.step ((Below.refl _ _).drew)
    have hC : CellsAt x2.drew w2.heap.size [.int .u8 c2, .bool n2, .string d2, .int .i64 p2, .int .i64 z2] := C2.out.step ((Below.refl _ _).drew)
    have hbw : Below w.heap.size w x2.drew := B2.out.drew
    go_region_held3 (fun w' => w'.cell? ⟨w1.heap.size, 0, none⟩ = some (.int .u8 c1) ∧ w'.cell? ⟨w1.heap.size, 1, none⟩ = some (.bool n1) ∧ w'.cell? ⟨w1.heap.size, 2, none⟩ = some (.string d1) ∧ w'.cell? ⟨w1.heap.size, 3, none⟩ = some (.int .i64 p1) ∧ w'.cell? ⟨w1.heap.size, 4, none⟩ = some (.int .i64 z1) ∧ w'.cell? ⟨w2.heap.size, 0, none⟩ = some (.int .u8 c2) ∧ w'.cell? ⟨w2.heap.size, 1, none⟩ = some (.bool n2) ∧ w'.cell? ⟨w2.heap.size, 2, none⟩ = some (.string d2) ∧ w'.cell? ⟨w2.heap.size, 3, none⟩ = some (.int .i64 p2) ∧ w'.cell? ⟨w2.heap.size, 4, none⟩ = some (.int .i64 z2))
      (first | go_keep)
      ((first
        | (go_at_call 65; ((with_reducible refine (G1.out _).mono ?_); rintro e w6 ⟨rfl, hbb⟩; have hA : CellsAt w6 w1.heap.size _ := CellsAt.step (by assumption) hbb; have hC : CellsAt w6 w2.heap.size _ := CellsAt.step (by assumption) hbb; have hbw : Below w.heap.size w w6 := belowTo3 (by assumption) hbb; have a0 := hA.cell 0 _ rfl; have a1 := hA.cell 1 _ rfl; have a2 := hA.cell 2 _ rfl; have a3 := hA.cell 3 _ rfl; have a4 := hA.cell 4 _ rfl; have b0 := hC.cell 0 _ rfl; have b1 := hC.cell 1 _ rfl; have b2 := hC.cell 2 _ rfl; have b3 := hC.cell 3 _ rfl; have b4 := hC.cell 4 _ rfl))
        | (go_at_call 65; ((with_reducible refine (G2.out _).mono ?_); rintro e w6 ⟨rfl, hbb⟩; have hA : CellsAt w6 w1.heap.size _ := CellsAt.step (by assumption) hbb; have hC : CellsAt w6 w2.heap.size _ := CellsAt.step (by assumption) hbb; have hbw : Below w.heap.size w w6 := belowTo3 (by assumption) hbb; have a0 := hA.cell 0 _ rfl; have a1 := hA.cell 1 _ rfl; have a2 := hA.cell 2 _ rfl; have a3 := hA.cell 3 _ rfl; have a4 := hA.cell 4 _ rfl; have b0 := hC.cell 0 _ rfl; have b1 := hC.cell 1 _ rfl; have b2 := hC.cell 2 _ rfl; have b3 := hC.cell 3 _ rfl; have b4 := hC.cell 4 _ rfl))
        | (go_at_call 61; ((with_reducible refine (OC.out _).mono ?_); rintro e w6 ⟨rfl, hbb⟩; have hA : CellsAt w6 w1.heap.size _ := CellsAt.step (by assumption) hbb; have hC : CellsAt w6 w2.heap.size _ := CellsAt.step (by assumption) hbb; have hbw : Below w.heap.size w w6 := belowTo3 (by assumption) hbb; have a0 := hA.cell 0 _ rfl; have a1 := hA.cell 1 _ rfl; have a2 := hA.cell 2 _ rfl; have a3 := hA.cell 3 _ rfl; have a4 := hA.cell 4 _ rfl; have b0 := hC.cell 0 _ rfl; have b1 := hC.cell 1 _ rfl; have b2 := hC.cell 2 _ rfl; have b3 := hC.cell 3 _ rfl; have b4 := hC.cell 4 _ rfl))))
    all_goals
      go_wp2_with fail
      go_ret
      exact ⟨by rw [← HR.out]; rfl, hbw⟩
  · have t1 : ((c1 : Int) != (c2 : Int)) = true := bne_iff_ne.2 (by omega)
    have HR := Lib.hid (show cmpI (c1 : Int) (c2 : Int) = c by have := HEC.out; rwa [if_pos hne] at this)
    clear hne
    have hc1 : (c1 : Int) ≤ 4 := by omega
    have hc2 : (c2 : Int) ≤ 4 := by omega
    go_wp2_with fail
    refine (ints_ok _ _ _).mono ?_
    rintro e w3 ⟨rfl, rfl⟩
    go_wp2_with fail
    go_ret
    exact ⟨by rw [← HR.out]; rfl, B2.out⟩

theorem compareR_ok (kind : Nat) (s t : ByteArray) (w : World) (hs : s.size ≤ 1048576) (ht : t.size ≤ 1048576) :
    Calls Tryz.prog 50 #[.int .i64 kind, .string s, .string t] w (RetBelow w (.int .i64 (cmpS kind s.data.toList t.data.toList))) := by
  by_cases h1 : kind = 16
  · exact cmpR_nh kind (Or.inl h1) s t w hs ht
  · by_cases h2 : kind = 64
    · exact cmpR_nh kind (Or.inr h2) s t w hs ht
    · by_cases h3 : kind = 32
      · subst h3; exact cmpR_g s t w hs ht
      · by_cases h4 : kind = 128
        · subst h4; exact cmpR_m s t w hs ht
        · by_cases h5 : kind = 256
          · subst h5; exact cmpR_v s t w hs ht
          · exact cmpR_b kind h1 h3 h2 h4 h5 s t w hs ht
end Go.Proofs.YtgpcmlbmmcnkjaaGreatDoor.Num
