/- numeral's valueOf: the walk. -/
import Derived.Test.YtpbbgmfjdachnaaDoorVal
import Derived.Deep.DeepCutAuto
namespace Go.Proofs.YtpbbgmfjdachnaaDoor
open Go.RowKit

theorem valPost (w w' : World) (v v' : Val) (h : v = v') (b : Below w.heap.size w w') : RetBelow w (valV v') (.returned (valV v)) w' := ⟨by rw [h], b⟩

set_option maxRecDepth 100000 in
set_option maxHeartbeats 3200000 in
theorem valueOf_ok (kind : Nat) (s : ByteArray) (w : World) (hs : s.size ≤ 1125899906842624) (T : Tabs w) :
    Calls Tryd.prog 39 #[.int .u16 kind, .string s] w (RetBelow w (valV (valS kind s.data.toList))) := by
  have ok := scanS_ok s (kind == 32) hs
  have EV := Lib.hid (show valS kind s.data.toList = valH kind (scanS s.data.toList (kind == 32)) s.data.toList from rfl)
  have hk32 : ((kind : Int) == 32) = (kind == 32) := by rw [Bool.eq_iff_iff, beq_iff_eq, beq_iff_eq]; omega
  have SC := Lib.hid (fun (W : World) (hT : Tabs W) => scan_ok s (kind == 32) W hs hT)
  have HK := Lib.hid (show ∀ b, (kind == 32) = b → ((kind : Int) == 32) = b from fun b hb => by rw [hk32, hb])
  clear hk32
  obtain ⟨g, hg⟩ : ∃ g, g = (kind == 32) := ⟨_, rfl⟩
  rw [← hg] at SC EV ok
  have t32 := HK.out g hg.symm
  have HG := Lib.hid hg
  clear hg HK
  obtain ⟨h, hh⟩ : ∃ h, h = scanS s.data.toList g := ⟨_, rfl⟩
  rw [← hh] at SC EV ok
  clear hh
  have HOK := Lib.hid ok
  have HT := Lib.hid T
  clear ok T
  have A0 := CellsAt.new w [.int .u8 0, .int .i64 0, .int .i64 0, .string ⟨#[]⟩, .string ⟨#[]⟩] 65
  have B0 := Lib.hid ((Below.refl w.heap.size w).alloc (Nat.le_refl _) (Obj.cells #[Value.int IntKind.u8 0, Value.int IntKind.i64 0, Value.int IntKind.i64 0, Value.string ⟨#[]⟩, Value.string ⟨#[]⟩] 65))
  go_enter Tryd.func39, Tryd.ntmps39
  go_wp2_with fail
  refine (SC.out _ (HT.out.below B0.out)).mono ?_
  rintro e w1 ⟨rfl, hb1⟩
  have A1 := A0.step hb1
  have B1 := Lib.hid (B0.out.trans (hb1.mono (by simp)))
  clear hb1 A0 B0
  have HA1 := Lib.hid A1
  clear A1
  have A2 := HA1.out.alloc (Obj.cells #[Value.int IntKind.u8 h.cls, Value.bool h.neg, Value.string (bs h.whole), Value.string (bs h.frac), Value.int IntKind.i64 h.exp, Value.int IntKind.i64 h.size] 54)
  have H2 := CellsAt.new w1 [Value.int IntKind.u8 h.cls, Value.bool h.neg, Value.string (bs h.whole), Value.string (bs h.frac), Value.int IntKind.i64 h.exp, Value.int IntKind.i64 h.size] 54
  have B2 := Lib.hid (B1.out.alloc B1.out.size (Obj.cells #[Value.int IntKind.u8 h.cls, Value.bool h.neg, Value.string (bs h.whole), Value.string (bs h.frac), Value.int IntKind.i64 h.exp, Value.int IntKind.i64 h.size] 54))
  have hbn := HA1.out.lt
  unfold headV
  go_upto_region 2 with (fail)
  generalize w1.alloc (Obj.cells #[Value.int IntKind.u8 h.cls, Value.bool h.neg, Value.string (bs h.whole), Value.string (bs h.frac), Value.int IntKind.i64 h.exp, Value.int IntKind.i64 h.size] 54) = W1 at *
  generalize hbe : w1.heap.size = b at *
  clear hbe B1 HA1
  have HA2 := Lib.hid A2
  have HH2 := Lib.hid H2
  have a0 := A2.cell 0 _ rfl
  have a1 := A2.cell 1 _ rfl
  have a2 := A2.cell 2 _ rfl
  have a3 := A2.cell 3 _ rfl
  have a4 := A2.cell 4 _ rfl
  have f0 := A2.free 0
  have f1 := A2.free 1
  have f2 := A2.free 2
  have f3 := A2.free 3
  have f4 := A2.free 4
  have h0 := H2.cell 0 _ rfl
  clear A2 H2
  by_cases c1 : h.cls = 1
  · have E := Lib.hid (show valS kind s.data.toList = ⟨32, 0, 0, [], []⟩ by rw [EV.out]; unfold valH; rw [if_pos c1])
    have u1 : ((h.cls : Int) == 1) = true := by rw [c1]; rfl
    clear c1
    go_wp2_with fail
    exact bodyPost_ret (v := valV ⟨32, 0, 0, [], []⟩) (by simp [results, Tryd.results39, go_sem, a0, a1, a2, a3, a4, valV]; rfl) rfl ⟨by rw [E.out], (((((B2.out.setCell (p := ⟨w.heap.size, 0, none⟩) (Nat.le_refl _) _).setCell (p := ⟨w.heap.size, 1, none⟩) (Nat.le_refl _) _).setCell (p := ⟨w.heap.size, 2, none⟩) (Nat.le_refl _) _).setCell (p := ⟨w.heap.size, 3, none⟩) (Nat.le_refl _) _).setCell (p := ⟨w.heap.size, 4, none⟩) (Nat.le_refl _) _)⟩
  · by_cases c2 : h.cls = 2
    · have E := Lib.hid (show valS kind s.data.toList = ⟨48, 0, 0, [], []⟩ by rw [EV.out]; unfold valH; rw [if_neg c1, if_pos c2])
      have u1 : ((h.cls : Int) == 1) = false := by rw [beq_eq_false_iff_ne]; omega
      have u2 : ((h.cls : Int) == 2) = true := by rw [c2]; rfl
      clear c1 c2
      go_wp2_with fail
      exact bodyPost_ret (v := valV ⟨48, 0, 0, [], []⟩) (by simp [results, Tryd.results39, go_sem, a0, a1, a2, a3, a4, valV]; rfl) rfl ⟨by rw [E.out], (((((B2.out.setCell (p := ⟨w.heap.size, 0, none⟩) (Nat.le_refl _) _).setCell (p := ⟨w.heap.size, 1, none⟩) (Nat.le_refl _) _).setCell (p := ⟨w.heap.size, 2, none⟩) (Nat.le_refl _) _).setCell (p := ⟨w.heap.size, 3, none⟩) (Nat.le_refl _) _).setCell (p := ⟨w.heap.size, 4, none⟩) (Nat.le_refl _) _)⟩
    · by_cases c4 : h.cls = 4
      · have E := Lib.hid (show valS kind s.data.toList = ⟨112, 0, 0, [], []⟩ by rw [EV.out]; unfold valH; rw [if_neg c1, if_neg c2, if_pos c4])
        have u1 : ((h.cls : Int) == 1) = false := by rw [beq_eq_false_iff_ne]; omega
        have u2 : ((h.cls : Int) == 2) = false := by rw [beq_eq_false_iff_ne]; omega
        have u4 : ((h.cls : Int) == 4) = true := by rw [c4]; rfl
        clear c1 c2 c4
        go_wp2_with fail
        exact bodyPost_ret (v := valV ⟨112, 0, 0, [], []⟩) (by simp [results, Tryd.results39, go_sem, a0, a1, a2, a3, a4, valV]; rfl) rfl ⟨by rw [E.out], (((((B2.out.setCell (p := ⟨w.heap.size, 0, none⟩) (Nat.le_refl _) _).setCell (p := ⟨w.heap.size, 1, none⟩) (Nat.le_refl _) _).setCell (p := ⟨w.heap.size, 2, none⟩) (Nat.le_refl _) _).setCell (p := ⟨w.heap.size, 3, none⟩) (Nat.le_refl _) _).setCell (p := ⟨w.heap.size, 4, none⟩) (Nat.le_refl _) _)⟩
      · by_cases c0 : h.cls = 0 ∧ kind = 32
        · have E := Lib.hid (show valS kind s.data.toList = ⟨16, 0, 0, [], []⟩ by rw [EV.out]; unfold valH; rw [if_neg c1, if_neg c2, if_neg c4, if_pos c0])
          obtain ⟨c0, hk⟩ := c0
          have u1 : ((h.cls : Int) == 1) = false := by rw [beq_eq_false_iff_ne]; omega
          have u2 : ((h.cls : Int) == 2) = false := by rw [beq_eq_false_iff_ne]; omega
          have u4 : ((h.cls : Int) == 4) = false := by rw [beq_eq_false_iff_ne]; omega
          have u0 : ((h.cls : Int) == 0) = true := by rw [c0]; rfl
          have hgt : g = true := by rw [HG.out, hk]; rfl
          subst hgt
          clear c1 c2 c4 c0 hk
          go_wp2_with fail
          exact bodyPost_ret (v := valV ⟨16, 0, 0, [], []⟩) (by simp [results, Tryd.results39, go_sem, a0, a1, a2, a3, a4, valV]; rfl) rfl ⟨by rw [E.out], (((((B2.out.setCell (p := ⟨w.heap.size, 0, none⟩) (Nat.le_refl _) _).setCell (p := ⟨w.heap.size, 1, none⟩) (Nat.le_refl _) _).setCell (p := ⟨w.heap.size, 2, none⟩) (Nat.le_refl _) _).setCell (p := ⟨w.heap.size, 3, none⟩) (Nat.le_refl _) _).setCell (p := ⟨w.heap.size, 4, none⟩) (Nat.le_refl _) _)⟩
        · have N1 := Lib.hid c1
          have N2 := Lib.hid c2
          have N4 := Lib.hid c4
          have N0 := Lib.hid c0
          have u1 : ((h.cls : Int) == 1) = false := by rw [beq_eq_false_iff_ne]; omega
          have u2 : ((h.cls : Int) == 2) = false := by rw [beq_eq_false_iff_ne]; omega
          have u4 : ((h.cls : Int) == 4) = false := by rw [beq_eq_false_iff_ne]; omega
          have NB := Lib.hid (fun W : World => number_ok h W HOK.out.whole HOK.out.frac HOK.out.exp)
          have ZB := Lib.hid (fun W : World => digZero_ok (bs (numW h)) (bs (numF h)) W (by rw [bs_size]; have := numW_le h; have := HOK.out.whole; omega) (by rw [bs_size]; have := numF_le h; have := HOK.out.frac; omega))
          rw [numD_nil] at ZB
          unfold headV at NB
          have SX := Lib.hid (fun (W : World) (hT : Tabs W) => suffix_ok h s W HOK.out hT)
          unfold headV at SX
          have EWB := Lib.hid (⟨rfl, rfl, rfl⟩ : bs (numW h) = bs (numW h) ∧ bs (numF h) = bs (numF h) ∧ numE h = numE h)
          obtain ⟨Wb, hWb⟩ : ∃ Wb, Wb = bs (numW h) := ⟨_, rfl⟩
          obtain ⟨Fb, hFb⟩ : ∃ Fb, Fb = bs (numF h) := ⟨_, rfl⟩
          obtain ⟨ex, hex⟩ : ∃ ex, ex = numE h := ⟨_, rfl⟩
          rw [← hWb, ← hFb, ← hex] at NB
          rw [← hWb, ← hFb] at ZB
          have HWB := Lib.hid hWb
          have HFB := Lib.hid hFb
          have HEX := Lib.hid hex
          clear hWb hFb hex c1 c2 c4 EWB
          by_cases hc0 : h.cls = 0
          · have u0 : ((h.cls : Int) == 0) = true := by rw [hc0]; rfl
            have hgf : g = false := by
              rw [HG.out, beq_eq_false_iff_ne]
              intro e; exact N0.out ⟨hc0, e⟩
            subst hgf
            clear hc0 c0
            go_upto_region 13 with (fail)
            clear a0 a1 a2 a3 a4 f0 f1 f2 f3 f4 h0
            have V2 := CellsAt.new W1 [Value.int IntKind.u8 96, Value.int IntKind.i64 0, Value.int IntKind.i64 0, Value.string ⟨#[]⟩, Value.string ⟨#[]⟩] 65
            have A3 := Lib.hid (HA2.out.alloc (Obj.cells #[Value.int IntKind.u8 96, Value.int IntKind.i64 0, Value.int IntKind.i64 0, Value.string ⟨#[]⟩, Value.string ⟨#[]⟩] 65))
            have H3 := HH2.out.alloc (Obj.cells #[Value.int IntKind.u8 96, Value.int IntKind.i64 0, Value.int IntKind.i64 0, Value.string ⟨#[]⟩, Value.string ⟨#[]⟩] 65)
            have B3 := Lib.hid (B2.out.alloc B2.out.size (Obj.cells #[Value.int IntKind.u8 96, Value.int IntKind.i64 0, Value.int IntKind.i64 0, Value.string ⟨#[]⟩, Value.string ⟨#[]⟩] 65))
            have hbv := HH2.out.lt
            generalize W1.alloc (Obj.cells #[Value.int IntKind.u8 96, Value.int IntKind.i64 0, Value.int IntKind.i64 0, Value.string ⟨#[]⟩, Value.string ⟨#[]⟩] 65) = W2 at *
            generalize hve : W1.heap.size = v at *
            clear hve HA2 HH2 B2
            have V3 := Lib.hid V2
            have H3h := Lib.hid H3
            have h0 := H3.cell 0 _ rfl
            have h1 := H3.cell 1 _ rfl
            have h2 := H3.cell 2 _ rfl
            have h3 := H3.cell 3 _ rfl
            have h4 := H3.cell 4 _ rfl
            have h5 := H3.cell 5 _ rfl
            clear V2 H3
            go_wp2_with fail
            refine (NB.out _).mono ?_
            rintro e w3 ⟨rfl, hb3⟩
            have A4 := Lib.hid (A3.out.step hb3)
            have H4 := Lib.hid (H3h.out.step hb3)
            have V4 := V3.out.step hb3
            have B4 := Lib.hid (B3.out.trans (hb3.mono B3.out.size))
            clear h0 h1 h2 h3 h4 h5 hb3 A3 H3h V3 B3
            have v0 := V4.cell 0 _ rfl
            have v1 := V4.cell 1 _ rfl
            have v2 := V4.cell 2 _ rfl
            have v3 := V4.cell 3 _ rfl
            have v4 := V4.cell 4 _ rfl
            have fv0 := V4.free 0
            have fv1 := V4.free 1
            have fv2 := V4.free 2
            have fv3 := V4.free 3
            have fv4 := V4.free 4
            have V5 := Lib.hid (((V4.set 3 (.string Wb) (by simp)).set 4 (.string Fb) (by simp)).set 2 (.int .i64 ex) (by simp))
            have A5 := Lib.hid (((A4.out.other (c := v) (by omega) 3 (.string Wb)).other (c := v) (by omega) 4 (.string Fb)).other (c := v) (by omega) 2 (.int .i64 ex))
            have H5 := Lib.hid (((H4.out.other (c := v) (by omega) 3 (.string Wb)).other (c := v) (by omega) 4 (.string Fb)).other (c := v) (by omega) 2 (.int .i64 ex))
            have B5 := Lib.hid (((B4.out.setCell (p := ⟨v, 3, none⟩) (by show w.heap.size ≤ v; omega) (.string Wb)).setCell (p := ⟨v, 4, none⟩) (by show w.heap.size ≤ v; omega) (.string Fb)).setCell (p := ⟨v, 2, none⟩) (by show w.heap.size ≤ v; omega) (.int .i64 ex))
            clear V4
            go_upto_region 14 with (fail)
            clear v0 v1 v2 v3 v4 fv0 fv1 fv2 fv3 fv4 A4 H4 B4
            generalize ((w3.setCell ⟨v, 3, none⟩ (.string Wb)).setCell ⟨v, 4, none⟩ (.string Fb)).setCell ⟨v, 2, none⟩ (.int .i64 ex) = W5 at *
            have v3 : W5.cell? ⟨v, 3, none⟩ = some (.string Wb) := V5.out.cell 3 _ rfl
            have v4 : W5.cell? ⟨v, 4, none⟩ = some (.string Fb) := V5.out.cell 4 _ rfl
            go_wp2_with fail
            refine (ZB.out _).mono ?_
            rintro e w6 ⟨rfl, hb6⟩
            have A6 := Lib.hid (A5.out.step hb6)
            have H6 := Lib.hid (H5.out.step hb6)
            have V6 := Lib.hid (V5.out.step hb6)
            have B6 := Lib.hid (B5.out.trans (hb6.mono B5.out.size))
            clear v3 v4 hb6 A5 H5 V5 B5
            by_cases hz : numD h = []
            · have tz : decide (numD h = []) = true := decide_eq_true hz
              have E := Lib.hid (show valS kind s.data.toList = ⟨80, 0, 0, [], []⟩ by rw [EV.out]; unfold valH; rw [if_neg N1.out, if_neg N2.out, if_neg N4.out, if_neg N0.out, if_pos hz])
              clear hz
              have a0 := A6.out.cell 0 _ rfl
              have a1 := A6.out.cell 1 _ rfl
              have a2 := A6.out.cell 2 _ rfl
              have a3 := A6.out.cell 3 _ rfl
              have a4 := A6.out.cell 4 _ rfl
              have fa0 := A6.out.free 0
              have fa1 := A6.out.free 1
              have fa2 := A6.out.free 2
              have fa3 := A6.out.free 3
              have fa4 := A6.out.free 4
              go_wp2_with fail
              exact bodyPost_ret (v := valV ⟨80, 0, 0, [], []⟩) (by simp [results, Tryd.results39, go_sem, a0, a1, a2, a3, a4, valV]; rfl) rfl ⟨by rw [E.out], (((((B6.out.setCell (p := ⟨w.heap.size, 0, none⟩) (Nat.le_refl _) _).setCell (p := ⟨w.heap.size, 1, none⟩) (Nat.le_refl _) _).setCell (p := ⟨w.heap.size, 2, none⟩) (Nat.le_refl _) _).setCell (p := ⟨w.heap.size, 3, none⟩) (Nat.le_refl _) _).setCell (p := ⟨w.heap.size, 4, none⟩) (Nat.le_refl _) _)⟩
            · have tz : decide (numD h = []) = false := decide_eq_false hz
              have E := Lib.hid (show valS kind s.data.toList = ⟨if h.neg then 64 else 96, if kind = 64 then sufS h s.data.toList else 0, numE h, numW h, numF h⟩ by rw [EV.out]; unfold valH; rw [if_neg N1.out, if_neg N2.out, if_neg N4.out, if_neg N0.out, if_neg hz])
              clear hz
              cases hneg : h.neg with
              | true =>
                have HNG := Lib.hid hneg
                rw [hneg] at H6 SX
                clear hneg
                have g1 := H6.out.cell 1 _ rfl
                have x0 := V6.out.cell 0 _ rfl
                have y0 := V6.out.free 0
                go_upto_region 18 with (fail)
                clear x0 y0 g1
                have V7 := Lib.hid (V6.out.set 0 (.int .u8 64) (by simp))
                have A7 := Lib.hid (A6.out.other (c := v) (by omega) 0 (.int .u8 64))
                have H7 := Lib.hid (H6.out.other (c := v) (by omega) 0 (.int .u8 64))
                have B7 := Lib.hid (B6.out.setCell (p := ⟨v, 0, none⟩) (by show w.heap.size ≤ v; omega) (.int .u8 64))
                clear V6 A6 H6 B6
                generalize w6.setCell ⟨v, 0, none⟩ (.int .u8 64) = W7 at *
                by_cases k64 : kind = 64
                · have u64 : ((kind : Int) == 64) = true := by rw [k64]; rfl
                  have K64 := Lib.hid k64
                  clear k64
                  have h0 := H7.out.cell 0 _ rfl
                  have h1 := H7.out.cell 1 _ rfl
                  have h2 := H7.out.cell 2 _ rfl
                  have h3 := H7.out.cell 3 _ rfl
                  have h4 := H7.out.cell 4 _ rfl
                  have h5 := H7.out.cell 5 _ rfl
                  go_wp2_with fail
                  refine (SX.out _ (HT.out.below B7.out)).mono ?_
                  rintro e w8 ⟨rfl, hb8⟩
                  have A8 := A7.out.step hb8
                  have V8 := V7.out.step hb8
                  have B8 := Lib.hid (B7.out.trans (hb8.mono B7.out.size))
                  clear hb8 h0 h1 h2 h3 h4 h5
                  have v0 := V8.cell 0 _ rfl
                  have v1 := V8.cell 1 _ rfl
                  have v2 := V8.cell 2 _ rfl
                  have v3 := V8.cell 3 _ rfl
                  have v4 := V8.cell 4 _ rfl
                  have fv0 := V8.free 0
                  have fv1 := V8.free 1
                  have fv2 := V8.free 2
                  have fv3 := V8.free 3
                  have fv4 := V8.free 4
                  have a0 := A8.cell 0 _ rfl
                  have a1 := A8.cell 1 _ rfl
                  have a2 := A8.cell 2 _ rfl
                  have a3 := A8.cell 3 _ rfl
                  have a4 := A8.cell 4 _ rfl
                  have fa0 := A8.free 0
                  have fa1 := A8.free 1
                  have fa2 := A8.free 2
                  have fa3 := A8.free 3
                  have fa4 := A8.free 4
                  have hav : w.heap.size ≠ v := by omega
                  clear V8 A8
                  obtain ⟨rk, hrk⟩ : ∃ rk, rk = sufS h s.data.toList := ⟨_, rfl⟩
                  have HRK := Lib.hid hrk
                  rw [← hrk]
                  clear hrk
                  go_wp2_with fail
                  exact bodyPost_ret (v := .agg #[.int .u8 64, .int .i64 (rk : Nat), .int .i64 ex, .string Wb, .string Fb]) (by simp [results, Tryd.results39, go_sem, a0, a1, a2, a3, a4]) rfl ⟨by rw [E.out, if_pos K64.out, HNG.out, HWB.out, HFB.out, HEX.out, HRK.out]; rfl, ((((((B8.out.setCell (p := ⟨v, 1, none⟩) (by show w.heap.size ≤ v; omega) _).setCell (p := ⟨w.heap.size, 0, none⟩) (Nat.le_refl _) _).setCell (p := ⟨w.heap.size, 1, none⟩) (Nat.le_refl _) _).setCell (p := ⟨w.heap.size, 2, none⟩) (Nat.le_refl _) _).setCell (p := ⟨w.heap.size, 3, none⟩) (Nat.le_refl _) _).setCell (p := ⟨w.heap.size, 4, none⟩) (Nat.le_refl _) _)⟩
                · have u64 : ((kind : Int) == 64) = false := by rw [beq_eq_false_iff_ne]; omega
                  have K64 := Lib.hid k64
                  clear k64
                  have v0 := V7.out.cell 0 _ rfl
                  have v1 := V7.out.cell 1 _ rfl
                  have v2 := V7.out.cell 2 _ rfl
                  have v3 := V7.out.cell 3 _ rfl
                  have v4 := V7.out.cell 4 _ rfl
                  have a0 := A7.out.cell 0 _ rfl
                  have a1 := A7.out.cell 1 _ rfl
                  have a2 := A7.out.cell 2 _ rfl
                  have a3 := A7.out.cell 3 _ rfl
                  have a4 := A7.out.cell 4 _ rfl
                  have fa0 := A7.out.free 0
                  have fa1 := A7.out.free 1
                  have fa2 := A7.out.free 2
                  have fa3 := A7.out.free 3
                  have fa4 := A7.out.free 4
                  have hav : w.heap.size ≠ v := by omega
                  go_wp2_with fail
                  exact bodyPost_ret (v := .agg #[.int .u8 64, .int .i64 0, .int .i64 ex, .string Wb, .string Fb]) (by simp [results, Tryd.results39, go_sem, a0, a1, a2, a3, a4]) rfl ⟨by rw [E.out, if_neg K64.out, HNG.out, HWB.out, HFB.out, HEX.out]; rfl, (((((B7.out.setCell (p := ⟨w.heap.size, 0, none⟩) (Nat.le_refl _) _).setCell (p := ⟨w.heap.size, 1, none⟩) (Nat.le_refl _) _).setCell (p := ⟨w.heap.size, 2, none⟩) (Nat.le_refl _) _).setCell (p := ⟨w.heap.size, 3, none⟩) (Nat.le_refl _) _).setCell (p := ⟨w.heap.size, 4, none⟩) (Nat.le_refl _) _)⟩
              | false =>
                have HNG := Lib.hid hneg
                rw [hneg] at H6 SX
                clear hneg
                have g1 := H6.out.cell 1 _ rfl
                go_upto_region 18 with (fail)
                clear g1
                have V7 := V6
                have A7 := A6
                have H7 := H6
                have B7 := B6
                clear V6 A6 H6 B6
                obtain ⟨W7, hW7⟩ : ∃ W7, W7 = w6 := ⟨_, rfl⟩
                subst hW7
                by_cases k64 : kind = 64
                · have u64 : ((kind : Int) == 64) = true := by rw [k64]; rfl
                  have K64 := Lib.hid k64
                  clear k64
                  have h0 := H7.out.cell 0 _ rfl
                  have h1 := H7.out.cell 1 _ rfl
                  have h2 := H7.out.cell 2 _ rfl
                  have h3 := H7.out.cell 3 _ rfl
                  have h4 := H7.out.cell 4 _ rfl
                  have h5 := H7.out.cell 5 _ rfl
                  go_wp2_with fail
                  refine (SX.out _ (HT.out.below B7.out)).mono ?_
                  rintro e w8 ⟨rfl, hb8⟩
                  have A8 := A7.out.step hb8
                  have V8 := V7.out.step hb8
                  have B8 := Lib.hid (B7.out.trans (hb8.mono B7.out.size))
                  clear hb8 h0 h1 h2 h3 h4 h5
                  have v0 := V8.cell 0 _ rfl
                  have v1 := V8.cell 1 _ rfl
                  have v2 := V8.cell 2 _ rfl
                  have v3 := V8.cell 3 _ rfl
                  have v4 := V8.cell 4 _ rfl
                  have fv0 := V8.free 0
                  have fv1 := V8.free 1
                  have fv2 := V8.free 2
                  have fv3 := V8.free 3
                  have fv4 := V8.free 4
                  have a0 := A8.cell 0 _ rfl
                  have a1 := A8.cell 1 _ rfl
                  have a2 := A8.cell 2 _ rfl
                  have a3 := A8.cell 3 _ rfl
                  have a4 := A8.cell 4 _ rfl
                  have fa0 := A8.free 0
                  have fa1 := A8.free 1
                  have fa2 := A8.free 2
                  have fa3 := A8.free 3
                  have fa4 := A8.free 4
                  have hav : w.heap.size ≠ v := by omega
                  clear V8 A8
                  obtain ⟨rk, hrk⟩ : ∃ rk, rk = sufS h s.data.toList := ⟨_, rfl⟩
                  have HRK := Lib.hid hrk
                  rw [← hrk]
                  clear hrk
                  go_wp2_with fail
                  exact bodyPost_ret (v := .agg #[.int .u8 96, .int .i64 (rk : Nat), .int .i64 ex, .string Wb, .string Fb]) (by simp [results, Tryd.results39, go_sem, a0, a1, a2, a3, a4]) rfl ⟨by rw [E.out, if_pos K64.out, HNG.out, HWB.out, HFB.out, HEX.out, HRK.out]; rfl, ((((((B8.out.setCell (p := ⟨v, 1, none⟩) (by show w.heap.size ≤ v; omega) _).setCell (p := ⟨w.heap.size, 0, none⟩) (Nat.le_refl _) _).setCell (p := ⟨w.heap.size, 1, none⟩) (Nat.le_refl _) _).setCell (p := ⟨w.heap.size, 2, none⟩) (Nat.le_refl _) _).setCell (p := ⟨w.heap.size, 3, none⟩) (Nat.le_refl _) _).setCell (p := ⟨w.heap.size, 4, none⟩) (Nat.le_refl _) _)⟩
                · have u64 : ((kind : Int) == 64) = false := by rw [beq_eq_false_iff_ne]; omega
                  have K64 := Lib.hid k64
                  clear k64
                  have v0 := V7.out.cell 0 _ rfl
                  have v1 := V7.out.cell 1 _ rfl
                  have v2 := V7.out.cell 2 _ rfl
                  have v3 := V7.out.cell 3 _ rfl
                  have v4 := V7.out.cell 4 _ rfl
                  have a0 := A7.out.cell 0 _ rfl
                  have a1 := A7.out.cell 1 _ rfl
                  have a2 := A7.out.cell 2 _ rfl
                  have a3 := A7.out.cell 3 _ rfl
                  have a4 := A7.out.cell 4 _ rfl
                  have fa0 := A7.out.free 0
                  have fa1 := A7.out.free 1
                  have fa2 := A7.out.free 2
                  have fa3 := A7.out.free 3
                  have fa4 := A7.out.free 4
                  have hav : w.heap.size ≠ v := by omega
                  go_wp2_with fail
                  exact bodyPost_ret (v := .agg #[.int .u8 96, .int .i64 0, .int .i64 ex, .string Wb, .string Fb]) (by simp [results, Tryd.results39, go_sem, a0, a1, a2, a3, a4]) rfl ⟨by rw [E.out, if_neg K64.out, HNG.out, HWB.out, HFB.out, HEX.out]; rfl, (((((B7.out.setCell (p := ⟨w.heap.size, 0, none⟩) (Nat.le_refl _) _).setCell (p := ⟨w.heap.size, 1, none⟩) (Nat.le_refl _) _).setCell (p := ⟨w.heap.size, 2, none⟩) (Nat.le_refl _) _).setCell (p := ⟨w.heap.size, 3, none⟩) (Nat.le_refl _) _).setCell (p := ⟨w.heap.size, 4, none⟩) (Nat.le_refl _) _)⟩
          · have u0 : ((h.cls : Int) == 0) = false := by rw [beq_eq_false_iff_ne]; omega
            clear hc0 c0
            go_upto_region 13 with (fail)
            clear a0 a1 a2 a3 a4 f0 f1 f2 f3 f4 h0
            have V2 := CellsAt.new W1 [Value.int IntKind.u8 96, Value.int IntKind.i64 0, Value.int IntKind.i64 0, Value.string ⟨#[]⟩, Value.string ⟨#[]⟩] 65
            have A3 := Lib.hid (HA2.out.alloc (Obj.cells #[Value.int IntKind.u8 96, Value.int IntKind.i64 0, Value.int IntKind.i64 0, Value.string ⟨#[]⟩, Value.string ⟨#[]⟩] 65))
            have H3 := HH2.out.alloc (Obj.cells #[Value.int IntKind.u8 96, Value.int IntKind.i64 0, Value.int IntKind.i64 0, Value.string ⟨#[]⟩, Value.string ⟨#[]⟩] 65)
            have B3 := Lib.hid (B2.out.alloc B2.out.size (Obj.cells #[Value.int IntKind.u8 96, Value.int IntKind.i64 0, Value.int IntKind.i64 0, Value.string ⟨#[]⟩, Value.string ⟨#[]⟩] 65))
            have hbv := HH2.out.lt
            generalize W1.alloc (Obj.cells #[Value.int IntKind.u8 96, Value.int IntKind.i64 0, Value.int IntKind.i64 0, Value.string ⟨#[]⟩, Value.string ⟨#[]⟩] 65) = W2 at *
            generalize hve : W1.heap.size = v at *
            clear hve HA2 HH2 B2
            have V3 := Lib.hid V2
            have H3h := Lib.hid H3
            have h0 := H3.cell 0 _ rfl
            have h1 := H3.cell 1 _ rfl
            have h2 := H3.cell 2 _ rfl
            have h3 := H3.cell 3 _ rfl
            have h4 := H3.cell 4 _ rfl
            have h5 := H3.cell 5 _ rfl
            clear V2 H3
            go_wp2_with fail
            refine (NB.out _).mono ?_
            rintro e w3 ⟨rfl, hb3⟩
            have A4 := Lib.hid (A3.out.step hb3)
            have H4 := Lib.hid (H3h.out.step hb3)
            have V4 := V3.out.step hb3
            have B4 := Lib.hid (B3.out.trans (hb3.mono B3.out.size))
            clear h0 h1 h2 h3 h4 h5 hb3 A3 H3h V3 B3
            have v0 := V4.cell 0 _ rfl
            have v1 := V4.cell 1 _ rfl
            have v2 := V4.cell 2 _ rfl
            have v3 := V4.cell 3 _ rfl
            have v4 := V4.cell 4 _ rfl
            have fv0 := V4.free 0
            have fv1 := V4.free 1
            have fv2 := V4.free 2
            have fv3 := V4.free 3
            have fv4 := V4.free 4
            have V5 := Lib.hid (((V4.set 3 (.string Wb) (by simp)).set 4 (.string Fb) (by simp)).set 2 (.int .i64 ex) (by simp))
            have A5 := Lib.hid (((A4.out.other (c := v) (by omega) 3 (.string Wb)).other (c := v) (by omega) 4 (.string Fb)).other (c := v) (by omega) 2 (.int .i64 ex))
            have H5 := Lib.hid (((H4.out.other (c := v) (by omega) 3 (.string Wb)).other (c := v) (by omega) 4 (.string Fb)).other (c := v) (by omega) 2 (.int .i64 ex))
            have B5 := Lib.hid (((B4.out.setCell (p := ⟨v, 3, none⟩) (by show w.heap.size ≤ v; omega) (.string Wb)).setCell (p := ⟨v, 4, none⟩) (by show w.heap.size ≤ v; omega) (.string Fb)).setCell (p := ⟨v, 2, none⟩) (by show w.heap.size ≤ v; omega) (.int .i64 ex))
            clear V4
            go_upto_region 14 with (fail)
            clear v0 v1 v2 v3 v4 fv0 fv1 fv2 fv3 fv4 A4 H4 B4
            generalize ((w3.setCell ⟨v, 3, none⟩ (.string Wb)).setCell ⟨v, 4, none⟩ (.string Fb)).setCell ⟨v, 2, none⟩ (.int .i64 ex) = W5 at *
            have v3 : W5.cell? ⟨v, 3, none⟩ = some (.string Wb) := V5.out.cell 3 _ rfl
            have v4 : W5.cell? ⟨v, 4, none⟩ = some (.string Fb) := V5.out.cell 4 _ rfl
            go_wp2_with fail
            refine (ZB.out _).mono ?_
            rintro e w6 ⟨rfl, hb6⟩
            have A6 := Lib.hid (A5.out.step hb6)
            have H6 := Lib.hid (H5.out.step hb6)
            have V6 := Lib.hid (V5.out.step hb6)
            have B6 := Lib.hid (B5.out.trans (hb6.mono B5.out.size))
            clear v3 v4 hb6 A5 H5 V5 B5
            by_cases hz : numD h = []
            · have tz : decide (numD h = []) = true := decide_eq_true hz
              have E := Lib.hid (show valS kind s.data.toList = ⟨80, 0, 0, [], []⟩ by rw [EV.out]; unfold valH; rw [if_neg N1.out, if_neg N2.out, if_neg N4.out, if_neg N0.out, if_pos hz])
              clear hz
              have a0 := A6.out.cell 0 _ rfl
              have a1 := A6.out.cell 1 _ rfl
              have a2 := A6.out.cell 2 _ rfl
              have a3 := A6.out.cell 3 _ rfl
              have a4 := A6.out.cell 4 _ rfl
              have fa0 := A6.out.free 0
              have fa1 := A6.out.free 1
              have fa2 := A6.out.free 2
              have fa3 := A6.out.free 3
              have fa4 := A6.out.free 4
              go_wp2_with fail
              exact bodyPost_ret (v := valV ⟨80, 0, 0, [], []⟩) (by simp [results, Tryd.results39, go_sem, a0, a1, a2, a3, a4, valV]; rfl) rfl ⟨by rw [E.out], (((((B6.out.setCell (p := ⟨w.heap.size, 0, none⟩) (Nat.le_refl _) _).setCell (p := ⟨w.heap.size, 1, none⟩) (Nat.le_refl _) _).setCell (p := ⟨w.heap.size, 2, none⟩) (Nat.le_refl _) _).setCell (p := ⟨w.heap.size, 3, none⟩) (Nat.le_refl _) _).setCell (p := ⟨w.heap.size, 4, none⟩) (Nat.le_refl _) _)⟩
            · have tz : decide (numD h = []) = false := decide_eq_false hz
              have E := Lib.hid (show valS kind s.data.toList = ⟨if h.neg then 64 else 96, if kind = 64 then sufS h s.data.toList else 0, numE h, numW h, numF h⟩ by rw [EV.out]; unfold valH; rw [if_neg N1.out, if_neg N2.out, if_neg N4.out, if_neg N0.out, if_neg hz])
              clear hz
              cases hneg : h.neg with
              | true =>
                have HNG := Lib.hid hneg
                rw [hneg] at H6 SX
                clear hneg
                have g1 := H6.out.cell 1 _ rfl
                have x0 := V6.out.cell 0 _ rfl
                have y0 := V6.out.free 0
                go_upto_region 18 with (fail)
                clear x0 y0 g1
                have V7 := Lib.hid (V6.out.set 0 (.int .u8 64) (by simp))
                have A7 := Lib.hid (A6.out.other (c := v) (by omega) 0 (.int .u8 64))
                have H7 := Lib.hid (H6.out.other (c := v) (by omega) 0 (.int .u8 64))
                have B7 := Lib.hid (B6.out.setCell (p := ⟨v, 0, none⟩) (by show w.heap.size ≤ v; omega) (.int .u8 64))
                clear V6 A6 H6 B6
                generalize w6.setCell ⟨v, 0, none⟩ (.int .u8 64) = W7 at *
                by_cases k64 : kind = 64
                · have u64 : ((kind : Int) == 64) = true := by rw [k64]; rfl
                  have K64 := Lib.hid k64
                  clear k64
                  have h0 := H7.out.cell 0 _ rfl
                  have h1 := H7.out.cell 1 _ rfl
                  have h2 := H7.out.cell 2 _ rfl
                  have h3 := H7.out.cell 3 _ rfl
                  have h4 := H7.out.cell 4 _ rfl
                  have h5 := H7.out.cell 5 _ rfl
                  go_wp2_with fail
                  refine (SX.out _ (HT.out.below B7.out)).mono ?_
                  rintro e w8 ⟨rfl, hb8⟩
                  have A8 := A7.out.step hb8
                  have V8 := V7.out.step hb8
                  have B8 := Lib.hid (B7.out.trans (hb8.mono B7.out.size))
                  clear hb8 h0 h1 h2 h3 h4 h5
                  have v0 := V8.cell 0 _ rfl
                  have v1 := V8.cell 1 _ rfl
                  have v2 := V8.cell 2 _ rfl
                  have v3 := V8.cell 3 _ rfl
                  have v4 := V8.cell 4 _ rfl
                  have fv0 := V8.free 0
                  have fv1 := V8.free 1
                  have fv2 := V8.free 2
                  have fv3 := V8.free 3
                  have fv4 := V8.free 4
                  have a0 := A8.cell 0 _ rfl
                  have a1 := A8.cell 1 _ rfl
                  have a2 := A8.cell 2 _ rfl
                  have a3 := A8.cell 3 _ rfl
                  have a4 := A8.cell 4 _ rfl
                  have fa0 := A8.free 0
                  have fa1 := A8.free 1
                  have fa2 := A8.free 2
                  have fa3 := A8.free 3
                  have fa4 := A8.free 4
                  have hav : w.heap.size ≠ v := by omega
                  clear V8 A8
                  obtain ⟨rk, hrk⟩ : ∃ rk, rk = sufS h s.data.toList := ⟨_, rfl⟩
                  have HRK := Lib.hid hrk
                  rw [← hrk]
                  clear hrk
                  go_wp2_with fail
                  exact bodyPost_ret (v := .agg #[.int .u8 64, .int .i64 (rk : Nat), .int .i64 ex, .string Wb, .string Fb]) (by simp [results, Tryd.results39, go_sem, a0, a1, a2, a3, a4]) rfl ⟨by rw [E.out, if_pos K64.out, HNG.out, HWB.out, HFB.out, HEX.out, HRK.out]; rfl, ((((((B8.out.setCell (p := ⟨v, 1, none⟩) (by show w.heap.size ≤ v; omega) _).setCell (p := ⟨w.heap.size, 0, none⟩) (Nat.le_refl _) _).setCell (p := ⟨w.heap.size, 1, none⟩) (Nat.le_refl _) _).setCell (p := ⟨w.heap.size, 2, none⟩) (Nat.le_refl _) _).setCell (p := ⟨w.heap.size, 3, none⟩) (Nat.le_refl _) _).setCell (p := ⟨w.heap.size, 4, none⟩) (Nat.le_refl _) _)⟩
                · have u64 : ((kind : Int) == 64) = false := by rw [beq_eq_false_iff_ne]; omega
                  have K64 := Lib.hid k64
                  clear k64
                  have v0 := V7.out.cell 0 _ rfl
                  have v1 := V7.out.cell 1 _ rfl
                  have v2 := V7.out.cell 2 _ rfl
                  have v3 := V7.out.cell 3 _ rfl
                  have v4 := V7.out.cell 4 _ rfl
                  have a0 := A7.out.cell 0 _ rfl
                  have a1 := A7.out.cell 1 _ rfl
                  have a2 := A7.out.cell 2 _ rfl
                  have a3 := A7.out.cell 3 _ rfl
                  have a4 := A7.out.cell 4 _ rfl
                  have fa0 := A7.out.free 0
                  have fa1 := A7.out.free 1
                  have fa2 := A7.out.free 2
                  have fa3 := A7.out.free 3
                  have fa4 := A7.out.free 4
                  have hav : w.heap.size ≠ v := by omega
                  go_wp2_with fail
                  exact bodyPost_ret (v := .agg #[.int .u8 64, .int .i64 0, .int .i64 ex, .string Wb, .string Fb]) (by simp [results, Tryd.results39, go_sem, a0, a1, a2, a3, a4]) rfl ⟨by rw [E.out, if_neg K64.out, HNG.out, HWB.out, HFB.out, HEX.out]; rfl, (((((B7.out.setCell (p := ⟨w.heap.size, 0, none⟩) (Nat.le_refl _) _).setCell (p := ⟨w.heap.size, 1, none⟩) (Nat.le_refl _) _).setCell (p := ⟨w.heap.size, 2, none⟩) (Nat.le_refl _) _).setCell (p := ⟨w.heap.size, 3, none⟩) (Nat.le_refl _) _).setCell (p := ⟨w.heap.size, 4, none⟩) (Nat.le_refl _) _)⟩
              | false =>
                have HNG := Lib.hid hneg
                rw [hneg] at H6 SX
                clear hneg
                have g1 := H6.out.cell 1 _ rfl
                go_upto_region 18 with (fail)
                clear g1
                have V7 := V6
                have A7 := A6
                have H7 := H6
                have B7 := B6
                clear V6 A6 H6 B6
                obtain ⟨W7, hW7⟩ : ∃ W7, W7 = w6 := ⟨_, rfl⟩
                subst hW7
                by_cases k64 : kind = 64
                · have u64 : ((kind : Int) == 64) = true := by rw [k64]; rfl
                  have K64 := Lib.hid k64
                  clear k64
                  have h0 := H7.out.cell 0 _ rfl
                  have h1 := H7.out.cell 1 _ rfl
                  have h2 := H7.out.cell 2 _ rfl
                  have h3 := H7.out.cell 3 _ rfl
                  have h4 := H7.out.cell 4 _ rfl
                  have h5 := H7.out.cell 5 _ rfl
                  go_wp2_with fail
                  refine (SX.out _ (HT.out.below B7.out)).mono ?_
                  rintro e w8 ⟨rfl, hb8⟩
                  have A8 := A7.out.step hb8
                  have V8 := V7.out.step hb8
                  have B8 := Lib.hid (B7.out.trans (hb8.mono B7.out.size))
                  clear hb8 h0 h1 h2 h3 h4 h5
                  have v0 := V8.cell 0 _ rfl
                  have v1 := V8.cell 1 _ rfl
                  have v2 := V8.cell 2 _ rfl
                  have v3 := V8.cell 3 _ rfl
                  have v4 := V8.cell 4 _ rfl
                  have fv0 := V8.free 0
                  have fv1 := V8.free 1
                  have fv2 := V8.free 2
                  have fv3 := V8.free 3
                  have fv4 := V8.free 4
                  have a0 := A8.cell 0 _ rfl
                  have a1 := A8.cell 1 _ rfl
                  have a2 := A8.cell 2 _ rfl
                  have a3 := A8.cell 3 _ rfl
                  have a4 := A8.cell 4 _ rfl
                  have fa0 := A8.free 0
                  have fa1 := A8.free 1
                  have fa2 := A8.free 2
                  have fa3 := A8.free 3
                  have fa4 := A8.free 4
                  have hav : w.heap.size ≠ v := by omega
                  clear V8 A8
                  obtain ⟨rk, hrk⟩ : ∃ rk, rk = sufS h s.data.toList := ⟨_, rfl⟩
                  have HRK := Lib.hid hrk
                  rw [← hrk]
                  clear hrk
                  go_wp2_with fail
                  exact bodyPost_ret (v := .agg #[.int .u8 96, .int .i64 (rk : Nat), .int .i64 ex, .string Wb, .string Fb]) (by simp [results, Tryd.results39, go_sem, a0, a1, a2, a3, a4]) rfl ⟨by rw [E.out, if_pos K64.out, HNG.out, HWB.out, HFB.out, HEX.out, HRK.out]; rfl, ((((((B8.out.setCell (p := ⟨v, 1, none⟩) (by show w.heap.size ≤ v; omega) _).setCell (p := ⟨w.heap.size, 0, none⟩) (Nat.le_refl _) _).setCell (p := ⟨w.heap.size, 1, none⟩) (Nat.le_refl _) _).setCell (p := ⟨w.heap.size, 2, none⟩) (Nat.le_refl _) _).setCell (p := ⟨w.heap.size, 3, none⟩) (Nat.le_refl _) _).setCell (p := ⟨w.heap.size, 4, none⟩) (Nat.le_refl _) _)⟩
                · have u64 : ((kind : Int) == 64) = false := by rw [beq_eq_false_iff_ne]; omega
                  have K64 := Lib.hid k64
                  clear k64
                  have v0 := V7.out.cell 0 _ rfl
                  have v1 := V7.out.cell 1 _ rfl
                  have v2 := V7.out.cell 2 _ rfl
                  have v3 := V7.out.cell 3 _ rfl
                  have v4 := V7.out.cell 4 _ rfl
                  have a0 := A7.out.cell 0 _ rfl
                  have a1 := A7.out.cell 1 _ rfl
                  have a2 := A7.out.cell 2 _ rfl
                  have a3 := A7.out.cell 3 _ rfl
                  have a4 := A7.out.cell 4 _ rfl
                  have fa0 := A7.out.free 0
                  have fa1 := A7.out.free 1
                  have fa2 := A7.out.free 2
                  have fa3 := A7.out.free 3
                  have fa4 := A7.out.free 4
                  have hav : w.heap.size ≠ v := by omega
                  go_wp2_with fail
                  exact bodyPost_ret (v := .agg #[.int .u8 96, .int .i64 0, .int .i64 ex, .string Wb, .string Fb]) (by simp [results, Tryd.results39, go_sem, a0, a1, a2, a3, a4]) rfl ⟨by rw [E.out, if_neg K64.out, HNG.out, HWB.out, HFB.out, HEX.out]; rfl, (((((B7.out.setCell (p := ⟨w.heap.size, 0, none⟩) (Nat.le_refl _) _).setCell (p := ⟨w.heap.size, 1, none⟩) (Nat.le_refl _) _).setCell (p := ⟨w.heap.size, 2, none⟩) (Nat.le_refl _) _).setCell (p := ⟨w.heap.size, 3, none⟩) (Nat.le_refl _) _).setCell (p := ⟨w.heap.size, 4, none⟩) (Nat.le_refl _) _)⟩
end Go.Proofs.YtpbbgmfjdachnaaDoor
