/- numeral's number of a head, zero, suffix. -/
import Derived.Test.YtpbbgmfjdachnaaDoorDig2
import Derived.Deep.RegionHeld3
import Derived.RegionTactic
namespace Go.Proofs.YtpbbgmfjdachnaaDoor
open Go.RowKit Go.Sort

theorem trimL_len (l : List UInt8) : (trimL l).length ≤ l.length := trimL_le l
theorem trimR_len (l : List UInt8) : (trimR l).length ≤ l.length := by
  unfold trimR Lib.trimRightS
  rw [List.length_reverse]
  have := (List.dropWhile_sublist (l := l.reverse) ([48].contains ·)).length_le
  rw [List.length_reverse] at this
  exact this

set_option maxRecDepth 100000 in
set_option maxHeartbeats 1600000 in
theorem number_ok (h : Hd) (w : World) (hw : h.whole.length ≤ 1125899906842624) (hf : h.frac.length ≤ 1125899906842624) (he : -1099511627776 ≤ h.exp ∧ h.exp ≤ 1099511627776) :
    Calls Tryd.prog 34 #[headV h] w (RetBelow w (.tuple #[.agg #[.string (bs (numW h)), .string (bs (numF h))], .int .i64 (numE h)])) := by
  unfold headV
  have C1 := Lib.hid (fun W : World => trimL_ok (bs h.whole) W)
  have C2 := Lib.hid (fun W : World => trimR_ok (bs h.frac) W (by rw [bs_size]; omega))
  go_enter Tryd.func34, Tryd.ntmps34
  go_wp2_with fail
  have k2 : ((w.alloc (Obj.cells #[Value.int IntKind.u8 h.cls, Value.bool h.neg, Value.string (bs h.whole), Value.string (bs h.frac), Value.int IntKind.i64 h.exp, Value.int IntKind.i64 h.size] 54)).alloc (Obj.cells #[Value.string ⟨#[]⟩, Value.string ⟨#[]⟩] 58)).cell? ⟨w.heap.size, 2, none⟩ = some (.string (bs h.whole)) := by simp
  have k3 : ((w.alloc (Obj.cells #[Value.int IntKind.u8 h.cls, Value.bool h.neg, Value.string (bs h.whole), Value.string (bs h.frac), Value.int IntKind.i64 h.exp, Value.int IntKind.i64 h.size] 54)).alloc (Obj.cells #[Value.string ⟨#[]⟩, Value.string ⟨#[]⟩] 58)).cell? ⟨w.heap.size, 3, none⟩ = some (.string (bs h.frac)) := by simp
  have k4 : ((w.alloc (Obj.cells #[Value.int IntKind.u8 h.cls, Value.bool h.neg, Value.string (bs h.whole), Value.string (bs h.frac), Value.int IntKind.i64 h.exp, Value.int IntKind.i64 h.size] 54)).alloc (Obj.cells #[Value.string ⟨#[]⟩, Value.string ⟨#[]⟩] 58)).cell? ⟨w.heap.size, 4, none⟩ = some (.int .i64 h.exp) := by simp
  have k5 : ((w.alloc (Obj.cells #[Value.int IntKind.u8 h.cls, Value.bool h.neg, Value.string (bs h.whole), Value.string (bs h.frac), Value.int IntKind.i64 h.exp, Value.int IntKind.i64 h.size] 54)).alloc (Obj.cells #[Value.string ⟨#[]⟩, Value.string ⟨#[]⟩] 58)).cell? ⟨w.heap.size + 1, 0, none⟩ = some (.string ⟨#[]⟩) := by simp
  have k6 : ((w.alloc (Obj.cells #[Value.int IntKind.u8 h.cls, Value.bool h.neg, Value.string (bs h.whole), Value.string (bs h.frac), Value.int IntKind.i64 h.exp, Value.int IntKind.i64 h.size] 54)).alloc (Obj.cells #[Value.string ⟨#[]⟩, Value.string ⟨#[]⟩] 58)).cell? ⟨w.heap.size + 1, 1, none⟩ = some (.string ⟨#[]⟩) := by simp
  have g5 : ((w.alloc (Obj.cells #[Value.int IntKind.u8 h.cls, Value.bool h.neg, Value.string (bs h.whole), Value.string (bs h.frac), Value.int IntKind.i64 h.exp, Value.int IntKind.i64 h.size] 54)).alloc (Obj.cells #[Value.string ⟨#[]⟩, Value.string ⟨#[]⟩] 58)).frozen? ⟨w.heap.size + 1, 0, none⟩ = false := by simp
  have g6 : ((w.alloc (Obj.cells #[Value.int IntKind.u8 h.cls, Value.bool h.neg, Value.string (bs h.whole), Value.string (bs h.frac), Value.int IntKind.i64 h.exp, Value.int IntKind.i64 h.size] 54)).alloc (Obj.cells #[Value.string ⟨#[]⟩, Value.string ⟨#[]⟩] 58)).frozen? ⟨w.heap.size + 1, 1, none⟩ = false := by simp
  have hsz : ((w.alloc (Obj.cells #[Value.int IntKind.u8 h.cls, Value.bool h.neg, Value.string (bs h.whole), Value.string (bs h.frac), Value.int IntKind.i64 h.exp, Value.int IntKind.i64 h.size] 54)).alloc (Obj.cells #[Value.string ⟨#[]⟩, Value.string ⟨#[]⟩] 58)).heap.size = w.heap.size + 2 := by simp
  have hb := ((Below.refl w.heap.size w).alloc (Nat.le_refl _) (Obj.cells #[Value.int IntKind.u8 h.cls, Value.bool h.neg, Value.string (bs h.whole), Value.string (bs h.frac), Value.int IntKind.i64 h.exp, Value.int IntKind.i64 h.size] 54)).alloc (by simp) (Obj.cells #[Value.string ⟨#[]⟩, Value.string ⟨#[]⟩] 58)
  have HB := Lib.hid hb
  have HSZ := Lib.hid hsz
  clear hb hsz
  have L1 := Lib.hid (bs_list h.whole)
  have L2 := Lib.hid (bs_list h.frac)
  rw [L1.out] at C1
  rw [L2.out] at C2
  generalize (w.alloc (Obj.cells #[Value.int IntKind.u8 h.cls, Value.bool h.neg, Value.string (bs h.whole), Value.string (bs h.frac), Value.int IntKind.i64 h.exp, Value.int IntKind.i64 h.size] 54)).alloc (Obj.cells #[Value.string ⟨#[]⟩, Value.string ⟨#[]⟩] 58) = W0 at *
  generalize bs h.whole = Wb at *
  generalize bs h.frac = Fb at *
  go_region_held3 (fun w' => w'.cell? ⟨w.heap.size, 2, none⟩ = some (.string Wb) ∧ w'.cell? ⟨w.heap.size, 3, none⟩ = some (.string Fb))
    (first | go_keep)
    ((first | (go_at_call 37; refine (C1.out _).mono ?_; rintro e w' ⟨rfl, rfl⟩) | (go_at_call 70; refine (C2.out _).mono ?_; rintro e w' ⟨rfl, rfl⟩)))
  all_goals
    have hz1 : w.heap.size < W0.heap.size := by have := HSZ.out; omega
    have hz2 : w.heap.size + 1 < W0.heap.size := by have := HSZ.out; omega
    have cA : ∀ (x y : Value) (o : Obj), (((W0.setCell ⟨w.heap.size + 1, 0, none⟩ x).setCell ⟨w.heap.size + 1, 1, none⟩ y).alloc o).cell? ⟨w.heap.size + 1, 0, none⟩ = some x := fun x y o => by
      rw [World.cell?_alloc_lt _ _ _ (by simp; omega), World.cell?_setCell_other _ _ _ _ (by simp), World.cell?_setCell_same _ _ _ k5]
    have cB : ∀ (x y : Value) (o : Obj), (((W0.setCell ⟨w.heap.size + 1, 0, none⟩ x).setCell ⟨w.heap.size + 1, 1, none⟩ y).alloc o).cell? ⟨w.heap.size + 1, 1, none⟩ = some y := fun x y o => by
      rw [World.cell?_alloc_lt _ _ _ (by simp; omega), World.cell?_setCell_same (u := .string ⟨#[]⟩) _ _ _ (by rw [World.cell?_setCell_other _ _ _ _ (by simp)]; exact k6)]
    have CA := Lib.hid cA
    have CB := Lib.hid cB
    clear cA cB
    have n1 : (bs (trimL h.whole)).size ≤ 1125899906842624 := by rw [bs_size]; have := trimL_len h.whole; omega
    have n2 : (bs (trimR h.frac)).size ≤ 1125899906842624 := by rw [bs_size]; have := trimR_len h.frac; omega
    have n3 : (bs (trimL (trimR h.frac))).size ≤ 1125899906842624 := by rw [bs_size]; have := trimR_len h.frac; have := trimL_len (trimR h.frac); omega
    have C3 := Lib.hid (fun W : World => trimL_ok (bs (trimR h.frac)) W)
    have C4 := Lib.hid (fun W : World => trimR_ok (bs (trimL h.whole)) W (by omega))
    rw [bs_list] at C3 C4
    have emp : ∀ x : List UInt8, x = [] → (bs x).toList = [] ∧ (bs x).toList.isEmpty = true := fun x h => by rw [Lib.toList_data, bs_list, h]; exact ⟨rfl, rfl⟩
    have nem : ∀ x : List UInt8, ¬ x = [] → ¬ (bs x).toList = [] ∧ (bs x).toList.isEmpty = false := fun x h => by rw [Lib.toList_data, bs_list]; exact ⟨h, by cases hx : x <;> simp_all⟩
    by_cases hwz : trimL h.whole = []
    · by_cases hfz : (if trimL h.whole = [] then trimL (trimR h.frac) else trimR h.frac) = []
      · have hfz2 := hfz
        rw [if_pos hwz] at hfz2
        have EW := Lib.hid (show numW h = trimR (trimL h.whole) by unfold numW; rw [if_pos hwz, if_pos hfz2])
        have EF := Lib.hid (show numF h = trimL (trimR h.frac) by unfold numF; rw [if_pos hwz])
        have EE := Lib.hid (show numE h = ((trimL (trimR h.frac)).length : Int) - (trimR h.frac).length + h.exp by unfold numE; rw [if_pos hwz])
        obtain ⟨x1, x2⟩ := emp _ hwz
        obtain ⟨y1, y2⟩ := emp _ hfz2
        clear hwz hfz hfz2 emp nem
        go_wp2_with (first | (go_at_call 37; refine (C3.out _).mono ?_; rintro e w' ⟨rfl, rfl⟩) | (go_at_call 70; refine (C4.out _).mono ?_; rintro e w' ⟨rfl, rfl⟩))
        go_region
        all_goals go_wp2_with fail
        all_goals exact bodyPost_ret (v := .tuple #[.agg #[.string (bs (trimR (trimL h.whole))), .string (bs (trimL (trimR h.frac)))], .int .i64 (((bs (trimL (trimR h.frac))).size : Int) - ((bs (trimR h.frac)).size : Int) + h.exp)]) (by simp [results, Tryd.results34, go_sem, CA.out, CB.out]) rfl ⟨by rw [EW.out, EF.out, EE.out]; simp only [bs_size], ((((HB.out.setCell (p := ⟨w.heap.size + 1, 0, none⟩) (by simp) _).setCell (p := ⟨w.heap.size + 1, 1, none⟩) (by simp) _).alloc (by simp; omega) _).drew).drew⟩
      · have hfz2 := hfz
        rw [if_pos hwz] at hfz2
        have EW := Lib.hid (show numW h = trimL h.whole by unfold numW; rw [if_pos hwz, if_neg hfz2])
        have EF := Lib.hid (show numF h = trimL (trimR h.frac) by unfold numF; rw [if_pos hwz])
        have EE := Lib.hid (show numE h = ((trimL (trimR h.frac)).length : Int) - (trimR h.frac).length + h.exp by unfold numE; rw [if_pos hwz])
        obtain ⟨x1, x2⟩ := emp _ hwz
        obtain ⟨y1, y2⟩ := nem _ hfz2
        clear hwz hfz hfz2 emp nem
        go_wp2_with (first | (go_at_call 37; refine (C3.out _).mono ?_; rintro e w' ⟨rfl, rfl⟩))
        go_region
        all_goals go_wp2_with fail
        all_goals exact bodyPost_ret (v := .tuple #[.agg #[.string (bs (trimL h.whole)), .string (bs (trimL (trimR h.frac)))], .int .i64 (((bs (trimL (trimR h.frac))).size : Int) - ((bs (trimR h.frac)).size : Int) + h.exp)]) (by simp [results, Tryd.results34, go_sem, CA.out, CB.out]) rfl ⟨by rw [EW.out, EF.out, EE.out]; simp only [bs_size], ((((HB.out.setCell (p := ⟨w.heap.size + 1, 0, none⟩) (by simp) _).setCell (p := ⟨w.heap.size + 1, 1, none⟩) (by simp) _).alloc (by simp; omega) _).drew).drew⟩
    · by_cases hfz : (if trimL h.whole = [] then trimL (trimR h.frac) else trimR h.frac) = []
      · have hfz2 := hfz
        rw [if_neg hwz] at hfz2
        have EW := Lib.hid (show numW h = trimR (trimL h.whole) by unfold numW; rw [if_neg hwz, if_pos hfz2])
        have EF := Lib.hid (show numF h = trimR h.frac by unfold numF; rw [if_neg hwz])
        have EE := Lib.hid (show numE h = ((trimL h.whole).length : Int) + h.exp by unfold numE; rw [if_neg hwz])
        obtain ⟨x1, x2⟩ := nem _ hwz
        obtain ⟨y1, y2⟩ := emp _ hfz2
        clear hwz hfz hfz2 emp nem
        go_wp2_with (first | (go_at_call 70; refine (C4.out _).mono ?_; rintro e w' ⟨rfl, rfl⟩))
        go_region
        all_goals go_wp2_with fail
        all_goals exact bodyPost_ret (v := .tuple #[.agg #[.string (bs (trimR (trimL h.whole))), .string (bs (trimR h.frac))], .int .i64 (((bs (trimL h.whole)).size : Int) + h.exp)]) (by simp [results, Tryd.results34, go_sem, CA.out, CB.out]) rfl ⟨by rw [EW.out, EF.out, EE.out]; simp only [bs_size], ((((HB.out.setCell (p := ⟨w.heap.size + 1, 0, none⟩) (by simp) _).setCell (p := ⟨w.heap.size + 1, 1, none⟩) (by simp) _).alloc (by simp; omega) _).drew).drew⟩
      · have hfz2 := hfz
        rw [if_neg hwz] at hfz2
        have EW := Lib.hid (show numW h = trimL h.whole by unfold numW; rw [if_neg hwz, if_neg hfz2])
        have EF := Lib.hid (show numF h = trimR h.frac by unfold numF; rw [if_neg hwz])
        have EE := Lib.hid (show numE h = ((trimL h.whole).length : Int) + h.exp by unfold numE; rw [if_neg hwz])
        obtain ⟨x1, x2⟩ := nem _ hwz
        obtain ⟨y1, y2⟩ := nem _ hfz2
        clear hwz hfz hfz2 emp nem
        go_wp2_with fail
        go_region
        all_goals go_wp2_with fail
        all_goals exact bodyPost_ret (v := .tuple #[.agg #[.string (bs (trimL h.whole)), .string (bs (trimR h.frac))], .int .i64 (((bs (trimL h.whole)).size : Int) + h.exp)]) (by simp [results, Tryd.results34, go_sem, CA.out, CB.out]) rfl ⟨by rw [EW.out, EF.out, EE.out]; simp only [bs_size], ((((HB.out.setCell (p := ⟨w.heap.size + 1, 0, none⟩) (by simp) _).setCell (p := ⟨w.heap.size + 1, 1, none⟩) (by simp) _).alloc (by simp; omega) _).drew).drew⟩
end Go.Proofs.YtpbbgmfjdachnaaDoor
