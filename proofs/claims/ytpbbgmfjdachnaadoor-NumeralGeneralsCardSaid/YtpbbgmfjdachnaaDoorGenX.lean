/- numeral's General, of texts of any length. -/
import Derived.Test.YtpbbgmfjdachnaaDoorGen
namespace Go.Proofs.YtpbbgmfjdachnaaDoor
open Go.RowKit

/-- A text is appended. -/
theorem wp_appsX {w : World} {ops : Array Oper} {rest : List Oper} {o : Oper} {a : Act} {Q : Exit → Act → World → Prop} (hgd : o.guard = none) (s x : Operand)
    (ho : o.op = .call { callee := .builtin .append, args := #[s, x], argTypes := #[23, 9] })
    (B : Nat) (v : Value) (l : List UInt8) (hs : a.eval s = v) (hown : OwnB w B v l) (t : ByteArray)
    (hx : a.eval x = .string t) (hlen : l.length + t.size ≤ 140737488355328)
    (h : ∀ v' w', OwnB w' B v' (l ++ t.data.toList) → Below B w w' → KeepB w w' → wpList Tryd.prog ops Q rest (a.put o.dst v') w') :
    wpList Tryd.prog ops Q (o :: rest) a w := by
  obtain ⟨i0, hi, hz0, hz1, hz2⟩ := info_parts info5
  have hB := hown.2
  refine Lib.wpList_append_own_string _ hgd s x 23 9 ho B 5 i0 Tryd.underlying23 Tryd.underlying9 hi hz0 hz1 hz2 v l.length (byV l) hs hown.1 t hx ?_ ?_ hB ?_
  · unfold maxLen; omega
  · omega
  · intro v' w' h1 h2 _
    have hsz := h2.size
    refine h v' w' ⟨?_, Nat.le_trans hB hsz⟩ (hown.grown h2) (hown.keeps h2)
    rw [List.length_append, byV_app, ← Lib.size_eq]; exact h1
set_option maxHeartbeats 800000 in
theorem digAppendX_ok (B : Nat) (v : Value) (l : List UInt8) (p q : ByteArray) (w : World) (hown : OwnB w B v l) (hl : l.length + (p.size + q.size) ≤ 140737488355328) :
    Calls Tryd.prog 73 #[.agg #[.string p, .string q], v] w (RetOwn B w (l ++ (p.data.toList ++ q.data.toList))) := by
  have HO := Lib.hid (hown.alloc (Obj.cells #[Value.string p, Value.string q] 58))
  have HB := Lib.hid ((Below.refl B w).alloc hown.2 (Obj.cells #[Value.string p, Value.string q] 58))
  have HP := Lib.hid (KeepB.below (below_alloc w (Obj.cells #[Value.string p, Value.string q] 58)))
  have HG : (w.alloc (Obj.cells #[Value.string p, Value.string q] 58)).heap[w.heap.size]? = some (.cells #[Value.string p, Value.string q] 58 (0, 0)) := heap_alloc_new w _
  have HGG := Lib.hid HG
  clear hown HG
  go_enter Tryd.func73, Tryd.ntmps73
  go_wp2_with (at_builtin; refine wp_appsX rfl _ _ rfl B _ _ rfl HO.out p rfl ?c1 ?c2)
  case c1 => omega
  · intro v1 w1 h1 h2 h3
    have c1 : w1.cell? ⟨w.heap.size, 1, none⟩ = some (.string q) := by rw [cell_of_row w1 w.heap.size 1 _ 58 (0, 0) (h3 _ 58 _ (by decide) HGG.out)]; rfl
    have H1 := Lib.hid h1
    have H2 := Lib.hid (HB.out.trans h2)
    have H3 := Lib.hid (HP.out.trans h3)
    clear h1 h2 h3
    go_wp2_with (at_builtin; refine wp_appsX rfl _ _ rfl B _ _ rfl H1.out q rfl ?d1 ?d2)
    case d1 => rw [List.length_append, ← Lib.size_eq]; omega
    · intro v2 w2 h4 h5 h6
      have H4 := Lib.hid h4
      have H5 := Lib.hid (H2.out.trans h5)
      have H6 := Lib.hid (H3.out.trans h6)
      clear h4 h5 h6
      go_wp2_with fail
      go_ret
      exact ⟨_, rfl, H4.out, H5.out, H6.out⟩

theorem fracJ (r : List UInt8) : (fracS r).length ≤ fracN r ∧ fracN r ≤ r.length := by
  unfold fracS fracN
  by_cases k : (atB r 0 == 46) = true
  · rw [if_pos k, if_pos k]
    cases r with
    | nil => cases k
    | cons x r => have := spanN_le isDig r; unfold spanN at this ⊢; simp; omega
  · rw [if_neg k, if_neg k]; exact ⟨Nat.le_refl _, Nat.zero_le _⟩
theorem numberS_joint (r1 : List UInt8) (g neg : Bool) (base : Nat) : (numberS r1 g neg base).whole.length + (numberS r1 g neg base).frac.length ≤ r1.length := by
  have h1 := (fracJ (r1.dropWhile isDig)).1
  have h2 := (fracJ (r1.dropWhile isDig)).2
  have h3 := congrArg List.length (List.takeWhile_append_dropWhile (p := isDig) (l := r1))
  rw [List.length_append] at h3
  unfold numberS
  split
  · show 0 + 0 ≤ _; omega
  · split
    · show (r1.takeWhile isDig).length + (fracS (r1.dropWhile isDig)).length ≤ _; omega
    · show (r1.takeWhile isDig).length + (fracS (r1.dropWhile isDig)).length ≤ _; omega
theorem scanS_joint (l : List UInt8) (g : Bool) : (scanS l g).whole.length + (scanS l g).frac.length ≤ l.length := by
  unfold scanS
  simp only
  split
  · show 0 + 0 ≤ _; omega
  · refine Nat.le_trans (numberS_joint _ _ _ _) ?_
    rw [List.length_drop, List.length_drop]; omega

set_option maxRecDepth 100000
set_option maxHeartbeats 800000 in
theorem digTextX_ok (p q : ByteArray) (w : World) (hpq : p.size + q.size ≤ 140737488351232) (hne : p.data.toList ++ q.data.toList ≠ []) :
    Calls Tryd.prog 36 #[.agg #[.string p, .string q]] w (RetBelow w (.string (bs (p.data.toList ++ q.data.toList)))) := by
  have HB := Lib.hid ((Below.refl w.heap.size w).alloc (Nat.le_refl _) (Obj.cells #[Value.string p, Value.string q] 58))
  have HO := Lib.hid (OwnB.nil (w.alloc (Obj.cells #[Value.string p, Value.string q] 58)))
  have hs1 : (w.alloc (Obj.cells #[Value.string p, Value.string q] 58)).heap.size = w.heap.size + 1 := by simp
  rw [hs1] at HO
  have HNE := Lib.hid hne
  clear hne hs1
  go_enter Tryd.func36, Tryd.ntmps36
  go_wp2_with fail
  refine (digAppendX_ok (w.heap.size + 1) (.slice none 0 0) [] p q _ HO.out (by simp; omega)).mono ?_
  rintro e w1 ⟨v1, rfl, h1, h2, _⟩
  have hback := h1.back (by simpa using HNE.out)
  have B1 := Lib.hid (HB.out.trans (h2.mono (by omega)))
  clear h1 h2
  go_wp2_with fail
  go_ret
  exact ⟨rfl, B1.out⟩

set_option maxHeartbeats 1600000 in
theorem generalX_zero (s : ByteArray) (w : World) (hs : s.size ≤ 140737488351232) (T : Tabs w) (hz : numD (scanS s.data.toList true) = []) : Calls Tryd.prog 17 #[.string s] w (RetBelow w (genV (scanS s.data.toList true))) := by
  have ok := scanS_ok s true (by omega)
  have SC := Lib.hid (fun (W : World) (hT : Tabs W) => scan_ok s true W (by omega) hT)
  have EG := Lib.hid (show genV (scanS s.data.toList true) = .agg #[.int .u8 (scanS s.data.toList true).cls, .bool false, .string ⟨#[]⟩, .int .i64 0, .int .i64 (scanS s.data.toList true).size] by unfold genV; rw [if_pos hz])
  rw [EG.out]
  clear EG
  generalize scanS s.data.toList true = h at *
  have NC := Lib.hid (fun W : World => number_ok h W ok.whole ok.frac ok.exp)
  have ZC := Lib.hid (fun W : World => digZero_ok (bs (numW h)) (bs (numF h)) W (by rw [bs_size]; have := numW_le h; have := ok.whole; omega) (by rw [bs_size]; have := numF_le h; have := ok.frac; omega))
  rw [numD_nil, hz] at ZC
  have HT := Lib.hid T
  have A0 := CellsAt.new w [.int .u8 0, .bool false, .string ⟨#[]⟩, .int .i64 0, .int .i64 0] 29
  have B0 := Lib.hid ((Below.refl w.heap.size w).alloc (Nat.le_refl _) (Obj.cells #[.int .u8 0, .bool false, .string ⟨#[]⟩, .int .i64 0, .int .i64 0] 29))
  have HA0 := Lib.hid A0
  clear A0 T ok hz
  unfold headV at SC NC
  generalize bs (numW h) = W at *
  generalize bs (numF h) = F at *
  generalize bs h.whole = Wh at *
  generalize bs h.frac = Fr at *
  go_enter Tryd.func17, Tryd.ntmps17
  go_wp2_with fail
  refine (SC.out _ (HT.out.below B0.out)).mono ?_
  rintro e w1 ⟨rfl, hb1⟩
  have A1 := Lib.hid (HA0.out.step hb1)
  have B1 := Lib.hid (B0.out.trans (hb1.mono (by simp)))
  clear hb1
  have A3 := Lib.hid ((CellsAt.new w1 [.int .u8 h.cls, .bool h.neg, .string Wh, .string Fr, .int .i64 h.exp, .int .i64 h.size] 54).alloc (Obj.cells #[.int .u8 h.cls, .bool false, .string ⟨#[]⟩, .int .i64 0, .int .i64 h.size] 29))
  have A4 := CellsAt.new (w1.alloc (Obj.cells #[.int .u8 h.cls, .bool h.neg, .string Wh, .string Fr, .int .i64 h.exp, .int .i64 h.size] 54)) [.int .u8 h.cls, .bool false, .string ⟨#[]⟩, .int .i64 0, .int .i64 h.size] 29
  rw [show (w1.alloc (Obj.cells #[.int .u8 h.cls, .bool h.neg, .string Wh, .string Fr, .int .i64 h.exp, .int .i64 h.size] 54)).heap.size = w1.heap.size + 1 by simp] at A4
  have HA4 := Lib.hid A4
  have A2 := Lib.hid ((A1.out.alloc (Obj.cells #[.int .u8 h.cls, .bool h.neg, .string Wh, .string Fr, .int .i64 h.exp, .int .i64 h.size] 54)).alloc (Obj.cells #[.int .u8 h.cls, .bool false, .string ⟨#[]⟩, .int .i64 0, .int .i64 h.size] 29))
  have B2 := Lib.hid ((B1.out.alloc B1.out.size (Obj.cells #[.int .u8 h.cls, .bool h.neg, .string Wh, .string Fr, .int .i64 h.exp, .int .i64 h.size] 54)).alloc (by have := B1.out.size; simp; omega) (Obj.cells #[.int .u8 h.cls, .bool false, .string ⟨#[]⟩, .int .i64 0, .int .i64 h.size] 29))
  clear A4 A1 HA0 B0
  go_wp2_with fail
  generalize (w1.alloc (Obj.cells #[.int .u8 h.cls, .bool h.neg, .string Wh, .string Fr, .int .i64 h.exp, .int .i64 h.size] 54)).alloc (Obj.cells #[.int .u8 h.cls, .bool false, .string ⟨#[]⟩, .int .i64 0, .int .i64 h.size] 29) = w2 at *
  refine (NC.out _).mono ?_
  rintro e w3 ⟨rfl, hb3⟩
  have A53 := Lib.hid ((A3.out.step hb3).alloc (Obj.cells #[.string W, .string F] 58))
  have A54 := Lib.hid ((HA4.out.step hb3).alloc (Obj.cells #[.string W, .string F] 58))
  have A52 := Lib.hid ((A2.out.step hb3).alloc (Obj.cells #[.string W, .string F] 58))
  have A55 := Lib.hid (CellsAt.new w3 [.string W, .string F] 58)
  have B3 := Lib.hid ((B2.out.trans (hb3.mono B2.out.size)).alloc (Nat.le_trans B2.out.size hb3.size) (Obj.cells #[.string W, .string F] 58))
  clear hb3 A3 HA4 A2
  go_wp2_with fail
  generalize hw4 : w3.alloc (Obj.cells #[.string W, .string F] 58) = w4 at *
  have hz3 : w3.heap.size < w4.heap.size := by rw [← hw4]; simp
  clear hw4
  refine (ZC.out _).mono ?_
  rintro e w5 ⟨rfl, hb5⟩
  have D2 := Lib.hid (A52.out.step hb5)
  have D3 := Lib.hid (A53.out.step hb5)
  have D4 := Lib.hid (A54.out.step hb5)
  have D5 := Lib.hid (A55.out.step hb5)
  have B5 := Lib.hid (B3.out.trans (hb5.mono B3.out.size))
  clear hb5 A52 A53 A54 A55
  have l2 := D2.out.lt
  have hw1 := B1.out.size
  have a0 := D2.out.cell 0 _ rfl
  have a1 := D2.out.cell 1 _ rfl
  have a2 := D2.out.cell 2 _ rfl
  have a3 := D2.out.cell 3 _ rfl
  have a4 := D2.out.cell 4 _ rfl
  have f0 := D2.out.free 0
  have f1 := D2.out.free 1
  have f2 := D2.out.free 2
  have f3 := D2.out.free 3
  have f4 := D2.out.free 4
  have e0 := D4.out.cell 0 _ rfl
  have e1 := D4.out.cell 1 _ rfl
  have e2 := D4.out.cell 2 _ rfl
  have e3 := D4.out.cell 3 _ rfl
  have e4 := D4.out.cell 4 _ rfl
  go_wp2_with fail
  exact bodyPost_ret (v := .agg #[.int .u8 h.cls, .bool false, .string ⟨#[]⟩, .int .i64 0, .int .i64 h.size]) (by simp [results, Tryd.results17, go_sem, a0, a1, a2, a3, a4]) rfl ⟨rfl, ((((B5.out.setCell (p := ⟨w.heap.size, 0, none⟩) (by simp) _).setCell (p := ⟨w.heap.size, 1, none⟩) (by simp) _).setCell (p := ⟨w.heap.size, 2, none⟩) (by simp) _).setCell (p := ⟨w.heap.size, 3, none⟩) (by simp) _).setCell (p := ⟨w.heap.size, 4, none⟩) (by simp) _⟩

set_option maxHeartbeats 1600000 in
theorem generalX_num (s : ByteArray) (w : World) (hs : s.size ≤ 140737488351232) (T : Tabs w) (hz : numD (scanS s.data.toList true) ≠ []) : Calls Tryd.prog 17 #[.string s] w (RetBelow w (genV (scanS s.data.toList true))) := by
  have ok := scanS_ok s true (by omega)
  have SC := Lib.hid (fun (W : World) (hT : Tabs W) => scan_ok s true W (by omega) hT)
  have EG := Lib.hid (show genV (scanS s.data.toList true) = .agg #[.int .u8 (scanS s.data.toList true).cls, .bool (scanS s.data.toList true).neg, .string (bs (numD (scanS s.data.toList true))), .int .i64 (numE (scanS s.data.toList true)), .int .i64 (scanS s.data.toList true).size] by unfold genV; rw [if_neg hz])
  rw [EG.out]
  clear EG
  have pk := scanS_joint s.data.toList true
  rw [← Lib.size_eq] at pk
  generalize scanS s.data.toList true = h at *
  have NC := Lib.hid (fun W : World => number_ok h W ok.whole ok.frac ok.exp)
  have ZC := Lib.hid (fun W : World => digZero_ok (bs (numW h)) (bs (numF h)) W (by rw [bs_size]; have := numW_le h; have := ok.whole; omega) (by rw [bs_size]; have := numF_le h; have := ok.frac; omega))
  rw [numD_nil, decide_eq_false hz] at ZC
  have DT := Lib.hid (fun X : World => digTextX_ok (bs (numW h)) (bs (numF h)) X (by rw [bs_size, bs_size]; have := numW_le h; have := numF_le h; omega) (by rw [bs_list, bs_list]; exact hz))
  rw [bs_list, bs_list] at DT
  have EDD := Lib.hid (show bs (numD h) = bs (numW h ++ numF h) from rfl)
  rw [EDD.out]
  clear EDD pk
  generalize bs (numW h ++ numF h) = DD at *
  have HT := Lib.hid T
  have A0 := CellsAt.new w [.int .u8 0, .bool false, .string ⟨#[]⟩, .int .i64 0, .int .i64 0] 29
  have B0 := Lib.hid ((Below.refl w.heap.size w).alloc (Nat.le_refl _) (Obj.cells #[.int .u8 0, .bool false, .string ⟨#[]⟩, .int .i64 0, .int .i64 0] 29))
  have HA0 := Lib.hid A0
  clear A0 T ok hz
  generalize numE h = XE at *
  unfold headV at SC NC
  generalize bs (numW h) = W at *
  generalize bs (numF h) = F at *
  generalize bs h.whole = Wh at *
  generalize bs h.frac = Fr at *
  go_enter Tryd.func17, Tryd.ntmps17
  go_wp2_with fail
  refine (SC.out _ (HT.out.below B0.out)).mono ?_
  rintro e w1 ⟨rfl, hb1⟩
  have A1 := Lib.hid (HA0.out.step hb1)
  have B1 := Lib.hid (B0.out.trans (hb1.mono (by simp)))
  clear hb1
  have A1LT := Lib.hid (show w.heap.size + 1 ≤ w1.heap.size from A1.out.lt)
  have A3 := Lib.hid ((CellsAt.new w1 [.int .u8 h.cls, .bool h.neg, .string Wh, .string Fr, .int .i64 h.exp, .int .i64 h.size] 54).alloc (Obj.cells #[.int .u8 h.cls, .bool false, .string ⟨#[]⟩, .int .i64 0, .int .i64 h.size] 29))
  have A4 := CellsAt.new (w1.alloc (Obj.cells #[.int .u8 h.cls, .bool h.neg, .string Wh, .string Fr, .int .i64 h.exp, .int .i64 h.size] 54)) [.int .u8 h.cls, .bool false, .string ⟨#[]⟩, .int .i64 0, .int .i64 h.size] 29
  rw [show (w1.alloc (Obj.cells #[.int .u8 h.cls, .bool h.neg, .string Wh, .string Fr, .int .i64 h.exp, .int .i64 h.size] 54)).heap.size = w1.heap.size + 1 by simp] at A4
  have HA4 := Lib.hid A4
  have A2 := Lib.hid ((A1.out.alloc (Obj.cells #[.int .u8 h.cls, .bool h.neg, .string Wh, .string Fr, .int .i64 h.exp, .int .i64 h.size] 54)).alloc (Obj.cells #[.int .u8 h.cls, .bool false, .string ⟨#[]⟩, .int .i64 0, .int .i64 h.size] 29))
  have B2 := Lib.hid ((B1.out.alloc B1.out.size (Obj.cells #[.int .u8 h.cls, .bool h.neg, .string Wh, .string Fr, .int .i64 h.exp, .int .i64 h.size] 54)).alloc (by have := B1.out.size; simp; omega) (Obj.cells #[.int .u8 h.cls, .bool false, .string ⟨#[]⟩, .int .i64 0, .int .i64 h.size] 29))
  clear A4 A1 HA0 B0
  go_wp2_with fail
  generalize (w1.alloc (Obj.cells #[.int .u8 h.cls, .bool h.neg, .string Wh, .string Fr, .int .i64 h.exp, .int .i64 h.size] 54)).alloc (Obj.cells #[.int .u8 h.cls, .bool false, .string ⟨#[]⟩, .int .i64 0, .int .i64 h.size] 29) = w2 at *
  refine (NC.out _).mono ?_
  rintro e w3 ⟨rfl, hb3⟩
  have A53 := Lib.hid ((A3.out.step hb3).alloc (Obj.cells #[.string W, .string F] 58))
  have A54 := Lib.hid ((HA4.out.step hb3).alloc (Obj.cells #[.string W, .string F] 58))
  have A52 := Lib.hid ((A2.out.step hb3).alloc (Obj.cells #[.string W, .string F] 58))
  have A55 := Lib.hid (CellsAt.new w3 [.string W, .string F] 58)
  have B3 := Lib.hid ((B2.out.trans (hb3.mono B2.out.size)).alloc (Nat.le_trans B2.out.size hb3.size) (Obj.cells #[.string W, .string F] 58))
  have LW := Lib.hid (show w1.heap.size + 1 < w3.heap.size from (HA4.out.step hb3).lt)
  clear hb3 A3 HA4 A2
  go_wp2_with fail
  generalize hw4 : w3.alloc (Obj.cells #[.string W, .string F] 58) = w4 at *
  have hz3 : w3.heap.size < w4.heap.size := by rw [← hw4]; simp
  clear hw4
  refine (ZC.out _).mono ?_
  rintro e w5 ⟨rfl, hb5⟩
  have D2 := Lib.hid (A52.out.step hb5)
  have D3 := Lib.hid (A53.out.step hb5)
  have D4 := Lib.hid (A54.out.step hb5)
  have D5 := Lib.hid (A55.out.step hb5)
  have B5 := Lib.hid (B3.out.trans (hb5.mono B3.out.size))
  clear hb5 A52 A53 A54 A55
  have l2 := D2.out.lt
  have hw1 : w.heap.size + 1 ≤ w1.heap.size := A1LT.out
  have a0 := D2.out.cell 0 _ rfl
  have a1 := D2.out.cell 1 _ rfl
  have a2 := D2.out.cell 2 _ rfl
  have a3 := D2.out.cell 3 _ rfl
  have a4 := D2.out.cell 4 _ rfl
  have f0 := D2.out.free 0
  have f1 := D2.out.free 1
  have f2 := D2.out.free 2
  have f3 := D2.out.free 3
  have f4 := D2.out.free 4
  have e0 := D4.out.cell 0 _ rfl
  have e1 := D4.out.cell 1 _ rfl
  have e2 := D4.out.cell 2 _ rfl
  have e3 := D4.out.cell 3 _ rfl
  have e4 := D4.out.cell 4 _ rfl
  have lw := LW.out
  have ne43 : w1.heap.size + 1 ≠ w1.heap.size := by omega
  have ne45 : w1.heap.size + 1 ≠ w3.heap.size := by omega
  have ne42 : w1.heap.size + 1 ≠ w.heap.size := by omega
  have hBw : w.heap.size ≤ w1.heap.size + 1 := by omega
  have g1 := D3.out.cell 1 _ rfl
  have k0 := D5.out.cell 0 _ rfl
  have k1 := D5.out.cell 1 _ rfl
  go_wp2_with fail
  go_region_held3 (fun w' => w'.cell? ⟨w1.heap.size, 1, none⟩ = some (.bool h.neg) ∧ w'.cell? ⟨w3.heap.size, 0, none⟩ = some (.string W) ∧ w'.cell? ⟨w3.heap.size, 1, none⟩ = some (.string F))
    (first | exact ⟨g19, k09, k19⟩ | go_keep)
    ((first
      | (go_at_call 36; ((with_reducible refine (DT.out w5.drew).mono ?_); rintro e w9 ⟨rfl, hbb⟩; have hb9 := hbb; have q3 := (D3.out.step ((Below.refl _ _).drew)).step hbb; have q5 := (D5.out.step ((Below.refl _ _).drew)).step hbb; have q2 := (D2.out.step ((Below.refl _ _).drew)).step hbb; have q4 := (D4.out.step ((Below.refl _ _).drew)).step hbb; have g19 := q3.cell 1 _ rfl; have k09 := q5.cell 0 _ rfl; have k19 := q5.cell 1 _ rfl; have u0 := q4.cell 0 _ rfl; have uf0 := q4.free 0; have u1 := q4.cell 1 _ rfl; have uf1 := q4.free 1; have u2 := q4.cell 2 _ rfl; have uf2 := q4.free 2; have u3 := q4.cell 3 _ rfl; have uf3 := q4.free 3; have u4 := q4.cell 4 _ rfl; have uf4 := q4.free 4; have r0 := q2.cell 0 _ rfl; have rf0 := q2.free 0; have r1 := q2.cell 1 _ rfl; have rf1 := q2.free 1; have r2 := q2.cell 2 _ rfl; have rf2 := q2.free 2; have r3 := q2.cell 3 _ rfl; have rf3 := q2.free 3; have r4 := q2.cell 4 _ rfl; have rf4 := q2.free 4; have B9 := Lib.hid ((B5.out.drew).trans (hb9.mono (B5.out.drew).size)); have q2l := q2.lt))
      | (go_at_call 36; ((with_reducible refine (DT.out (w5.setCell ⟨w1.heap.size + 1, 1, none⟩ (.bool h.neg)).drew).mono ?_); rintro e w9 ⟨rfl, hbb⟩; have hb9 := hbb; have q3 := ((D3.out.other ne43 1 (.bool h.neg)).step ((Below.refl _ _).drew)).step hbb; have q5 := ((D5.out.other ne45 1 (.bool h.neg)).step ((Below.refl _ _).drew)).step hbb; have q2 := ((D2.out.other ne42 1 (.bool h.neg)).step ((Below.refl _ _).drew)).step hbb; have q4 := ((D4.out.set 1 (.bool h.neg) (by decide)).step ((Below.refl _ _).drew)).step hbb; have g19 := q3.cell 1 _ rfl; have k09 := q5.cell 0 _ rfl; have k19 := q5.cell 1 _ rfl; have u0 := q4.cell 0 _ rfl; have uf0 := q4.free 0; have u1 := q4.cell 1 _ rfl; have uf1 := q4.free 1; have u2 := q4.cell 2 _ rfl; have uf2 := q4.free 2; have u3 := q4.cell 3 _ rfl; have uf3 := q4.free 3; have u4 := q4.cell 4 _ rfl; have uf4 := q4.free 4; have r0 := q2.cell 0 _ rfl; have rf0 := q2.free 0; have r1 := q2.cell 1 _ rfl; have rf1 := q2.free 1; have r2 := q2.cell 2 _ rfl; have rf2 := q2.free 2; have r3 := q2.cell 3 _ rfl; have rf3 := q2.free 3; have r4 := q2.cell 4 _ rfl; have rf4 := q2.free 4; have B9 := Lib.hid (((B5.out.setCell (p := ⟨w1.heap.size + 1, 1, none⟩) hBw (.bool h.neg)).drew).trans (hb9.mono ((B5.out.setCell (p := ⟨w1.heap.size + 1, 1, none⟩) hBw (.bool h.neg)).drew).size)); have q2l := q2.lt))
      | (go_at_call 36; ((with_reducible refine (DT.out (w5.setCell ⟨w1.heap.size + 1, 3, none⟩ (.int .i64 XE)).drew).mono ?_); rintro e w9 ⟨rfl, hbb⟩; have hb9 := hbb; have q3 := ((D3.out.other ne43 3 (.int .i64 XE)).step ((Below.refl _ _).drew)).step hbb; have q5 := ((D5.out.other ne45 3 (.int .i64 XE)).step ((Below.refl _ _).drew)).step hbb; have q2 := ((D2.out.other ne42 3 (.int .i64 XE)).step ((Below.refl _ _).drew)).step hbb; have q4 := ((D4.out.set 3 (.int .i64 XE) (by decide)).step ((Below.refl _ _).drew)).step hbb; have g19 := q3.cell 1 _ rfl; have k09 := q5.cell 0 _ rfl; have k19 := q5.cell 1 _ rfl; have u0 := q4.cell 0 _ rfl; have uf0 := q4.free 0; have u1 := q4.cell 1 _ rfl; have uf1 := q4.free 1; have u2 := q4.cell 2 _ rfl; have uf2 := q4.free 2; have u3 := q4.cell 3 _ rfl; have uf3 := q4.free 3; have u4 := q4.cell 4 _ rfl; have uf4 := q4.free 4; have r0 := q2.cell 0 _ rfl; have rf0 := q2.free 0; have r1 := q2.cell 1 _ rfl; have rf1 := q2.free 1; have r2 := q2.cell 2 _ rfl; have rf2 := q2.free 2; have r3 := q2.cell 3 _ rfl; have rf3 := q2.free 3; have r4 := q2.cell 4 _ rfl; have rf4 := q2.free 4; have B9 := Lib.hid (((B5.out.setCell (p := ⟨w1.heap.size + 1, 3, none⟩) hBw (.int .i64 XE)).drew).trans (hb9.mono ((B5.out.setCell (p := ⟨w1.heap.size + 1, 3, none⟩) hBw (.int .i64 XE)).drew).size)); have q2l := q2.lt))
      | (go_at_call 36; ((with_reducible refine (DT.out ((w5.setCell ⟨w1.heap.size + 1, 1, none⟩ (.bool h.neg)).setCell ⟨w1.heap.size + 1, 3, none⟩ (.int .i64 XE)).drew).mono ?_); rintro e w9 ⟨rfl, hbb⟩; have hb9 := hbb; have q3 := (((D3.out.other ne43 1 (.bool h.neg)).other ne43 3 (.int .i64 XE)).step ((Below.refl _ _).drew)).step hbb; have q5 := (((D5.out.other ne45 1 (.bool h.neg)).other ne45 3 (.int .i64 XE)).step ((Below.refl _ _).drew)).step hbb; have q2 := (((D2.out.other ne42 1 (.bool h.neg)).other ne42 3 (.int .i64 XE)).step ((Below.refl _ _).drew)).step hbb; have q4 := (((D4.out.set 1 (.bool h.neg) (by decide)).set 3 (.int .i64 XE) (by decide)).step ((Below.refl _ _).drew)).step hbb; have g19 := q3.cell 1 _ rfl; have k09 := q5.cell 0 _ rfl; have k19 := q5.cell 1 _ rfl; have u0 := q4.cell 0 _ rfl; have uf0 := q4.free 0; have u1 := q4.cell 1 _ rfl; have uf1 := q4.free 1; have u2 := q4.cell 2 _ rfl; have uf2 := q4.free 2; have u3 := q4.cell 3 _ rfl; have uf3 := q4.free 3; have u4 := q4.cell 4 _ rfl; have uf4 := q4.free 4; have r0 := q2.cell 0 _ rfl; have rf0 := q2.free 0; have r1 := q2.cell 1 _ rfl; have rf1 := q2.free 1; have r2 := q2.cell 2 _ rfl; have rf2 := q2.free 2; have r3 := q2.cell 3 _ rfl; have rf3 := q2.free 3; have r4 := q2.cell 4 _ rfl; have rf4 := q2.free 4; have B9 := Lib.hid ((((B5.out.setCell (p := ⟨w1.heap.size + 1, 1, none⟩) hBw (.bool h.neg)).setCell (p := ⟨w1.heap.size + 1, 3, none⟩) hBw (.int .i64 XE)).drew).trans (hb9.mono (((B5.out.setCell (p := ⟨w1.heap.size + 1, 1, none⟩) hBw (.bool h.neg)).setCell (p := ⟨w1.heap.size + 1, 3, none⟩) hBw (.int .i64 XE)).drew).size)); have q2l := q2.lt))
      | (go_at_call 36; ((with_reducible refine (DT.out ((w5.setCell ⟨w1.heap.size + 1, 3, none⟩ (.int .i64 XE)).setCell ⟨w1.heap.size + 1, 1, none⟩ (.bool h.neg)).drew).mono ?_); rintro e w9 ⟨rfl, hbb⟩; have hb9 := hbb; have q3 := (((D3.out.other ne43 3 (.int .i64 XE)).other ne43 1 (.bool h.neg)).step ((Below.refl _ _).drew)).step hbb; have q5 := (((D5.out.other ne45 3 (.int .i64 XE)).other ne45 1 (.bool h.neg)).step ((Below.refl _ _).drew)).step hbb; have q2 := (((D2.out.other ne42 3 (.int .i64 XE)).other ne42 1 (.bool h.neg)).step ((Below.refl _ _).drew)).step hbb; have q4 := (((D4.out.set 3 (.int .i64 XE) (by decide)).set 1 (.bool h.neg) (by decide)).step ((Below.refl _ _).drew)).step hbb; have g19 := q3.cell 1 _ rfl; have k09 := q5.cell 0 _ rfl; have k19 := q5.cell 1 _ rfl; have u0 := q4.cell 0 _ rfl; have uf0 := q4.free 0; have u1 := q4.cell 1 _ rfl; have uf1 := q4.free 1; have u2 := q4.cell 2 _ rfl; have uf2 := q4.free 2; have u3 := q4.cell 3 _ rfl; have uf3 := q4.free 3; have u4 := q4.cell 4 _ rfl; have uf4 := q4.free 4; have r0 := q2.cell 0 _ rfl; have rf0 := q2.free 0; have r1 := q2.cell 1 _ rfl; have rf1 := q2.free 1; have r2 := q2.cell 2 _ rfl; have rf2 := q2.free 2; have r3 := q2.cell 3 _ rfl; have rf3 := q2.free 3; have r4 := q2.cell 4 _ rfl; have rf4 := q2.free 4; have B9 := Lib.hid ((((B5.out.setCell (p := ⟨w1.heap.size + 1, 3, none⟩) hBw (.int .i64 XE)).setCell (p := ⟨w1.heap.size + 1, 1, none⟩) hBw (.bool h.neg)).drew).trans (hb9.mono (((B5.out.setCell (p := ⟨w1.heap.size + 1, 3, none⟩) hBw (.int .i64 XE)).setCell (p := ⟨w1.heap.size + 1, 1, none⟩) hBw (.bool h.neg)).drew).size)); have q2l := q2.lt))))
  trace "behind"
  all_goals
    go_wp2_with fail
    refine gen_end _ _ w _ _ _ _ _ rfl rfl ?_ ?_
    · repeat (first | exact q2 | refine CellsAt.other ?_ ne42 _ _)
    · repeat (first | exact B9.out | refine Below.setCell ?_ (by simp; try omega) _)

theorem generalX_ok (s : ByteArray) (w : World) (hs : s.size ≤ 140737488351232) (T : Tabs w) : Calls Tryd.prog 17 #[.string s] w (RetBelow w (genV (scanS s.data.toList true))) := by
  by_cases h : numD (scanS s.data.toList true) = []
  · exact generalX_zero s w hs T h
  · exact generalX_num s w hs T h
end Go.Proofs.YtpbbgmfjdachnaaDoor
