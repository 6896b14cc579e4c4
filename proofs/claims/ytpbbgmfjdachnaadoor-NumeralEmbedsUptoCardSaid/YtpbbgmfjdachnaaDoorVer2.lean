/- Pairs compared; versions compared. -/
import Derived.Test.YtpbbgmfjdachnaaDoorVer
import Derived.Test.YtpbbgmfjdachnaaDoorEmb
import Derived.Lib.QuietBelow
namespace Go.Proofs.YtpbbgmfjdachnaaDoor
open Go.RowKit Go.Sort Go.Lib

theorem compareBytes_cmpL : ∀ a b : List UInt8, Lib.compareBytes a b = cmpL a b
  | [], [] => rfl
  | [], y :: b => by rw [cmpL_left]; rfl
  | x :: a, [] => by rw [cmpL_right]; rfl
  | x :: a, y :: b => by
    rw [cmpL_cons, ← compareBytes_cmpL a b]
    show (if x < y then (-1 : Int) else if y < x then 1 else Lib.compareBytes a b) = _
    by_cases h1 : x < y
    · have h1' := UInt8.lt_iff_toNat_lt.1 h1
      rw [if_pos h1]; unfold thenC cmpI; rw [if_pos (show (x.toNat : Int) < y.toNat by omega)]; rfl
    · have h1' : ¬ x.toNat < y.toNat := fun h => h1 (UInt8.lt_iff_toNat_lt.2 h)
      rw [if_neg h1]
      by_cases h2 : y < x
      · have h2' := UInt8.lt_iff_toNat_lt.1 h2
        rw [if_pos h2]; unfold thenC cmpI; rw [if_neg (show ¬ (x.toNat : Int) < y.toNat by omega), if_pos (show (y.toNat : Int) < x.toNat by omega)]; rfl
      · have h2' : ¬ y.toNat < x.toNat := fun h => h2 (UInt8.lt_iff_toNat_lt.2 h)
        rw [if_neg h2]; unfold thenC cmpI; rw [if_neg (show ¬ (x.toNat : Int) < y.toNat by omega), if_neg (show ¬ (y.toNat : Int) < x.toNat by omega)]; rfl
theorem strCompare_ok (a b : ByteArray) (w : World) : Calls Tryd.prog 43 #[.string a, .string b] w fun e w' => e = .returned (.int .i64 (cmpL a.data.toList b.data.toList)) ∧ w = w' :=
  (Tryd.strings_Compare a b w).mono fun _ _ ⟨h1, h2⟩ => ⟨by rw [h1, compareBytes_cmpL], h2.symm⟩

set_option maxRecDepth 100000 in
set_option maxHeartbeats 1600000 in
theorem pairCompare_ok (p d p' d' : ByteArray) (w : World) (h1 : p.size ≤ 1125899906842624) (h2 : p'.size ≤ 1125899906842624) (T : Tabs w) :
    Calls Tryd.prog 82 #[.agg #[.string p, .string d], .agg #[.string p', .string d']] w (RetBelow w (.int .i64 (thenC (cmpPlain p.data.toList p'.data.toList) (cmpNums d.data.toList d'.data.toList)))) := by
  have HT := Lib.hid T
  clear T
  go_enter Tryd.func82, Tryd.ntmps82
  go_wp2_with fail
  refine (comparePlain_ok p p' _ h1 h2 (HT.out.below (((Below.refl _ _).alloc (Nat.le_refl _) _).alloc (by simp) _))).mono ?_
  rintro e w1 ⟨rfl, n, rfl⟩
  obtain ⟨c, hc⟩ : ∃ c, c = cmpPlain p.data.toList p'.data.toList := ⟨_, rfl⟩
  rw [← hc]
  have HC := Lib.hid hc
  clear hc
  by_cases hz : c = 0
  · subst hz
    have hB : Below w.heap.size w (((w.alloc (Obj.cells #[Value.string p, Value.string d] 102)).alloc (Obj.cells #[Value.string p', Value.string d'] 102)).drewN n) :=
      (((Below.refl _ _).alloc (Nat.le_refl _) _).alloc (by simp) _).trans ((below_drewN _ _).mono (by simp; omega))
    have HB := Lib.hid hB
    clear hB
    have emp : ∀ x : ByteArray, x.data.toList = [] → x.toList = [] ∧ x.toList.isEmpty = true := fun x h => by rw [Lib.toList_data, h]; exact ⟨rfl, rfl⟩
    have nem : ∀ x : ByteArray, ¬ x.data.toList = [] → ¬ x.toList = [] ∧ x.toList.isEmpty = false := fun x h => by rw [Lib.toList_data]; exact ⟨h, by cases hx : x.data.toList <;> simp_all⟩
    by_cases hd : d.data.toList = []
    · obtain ⟨x1, x2⟩ := emp d hd
      have E := Lib.hid (show cmpNums d.data.toList d'.data.toList = cmpI d.size d'.size by unfold cmpNums; rw [if_pos (Or.inl hd), Lib.size_eq, Lib.size_eq])
      clear emp nem hd
      go_wp2_with fail
      refine (cmpInt_ok _ _ _).mono ?_
      rintro e w1 ⟨rfl, rfl⟩
      go_wp2_with fail
      go_ret
      exact ⟨by rw [← HC.out, E.out, thenC_zero]; rfl, HB.out⟩
    · by_cases hd' : d'.data.toList = []
      · obtain ⟨x1, x2⟩ := nem d hd
        obtain ⟨y1, y2⟩ := emp d' hd'
        have E := Lib.hid (show cmpNums d.data.toList d'.data.toList = cmpI d.size d'.size by unfold cmpNums; rw [if_pos (Or.inr hd'), Lib.size_eq, Lib.size_eq])
        clear emp nem hd hd'
        go_wp2_with fail
        refine (cmpInt_ok _ _ _).mono ?_
        rintro e w1 ⟨rfl, rfl⟩
        go_wp2_with fail
        go_ret
        exact ⟨by rw [← HC.out, E.out, thenC_zero]; rfl, HB.out⟩
      · obtain ⟨x1, x2⟩ := nem d hd
        obtain ⟨y1, y2⟩ := nem d' hd'
        have E := Lib.hid (show cmpNums d.data.toList d'.data.toList = thenC (cmpI (bs (trimL d.data.toList)).size (bs (trimL d'.data.toList)).size) (cmpL (bs (trimL d.data.toList)).data.toList (bs (trimL d'.data.toList)).data.toList) by
          unfold cmpNums; rw [if_neg (by simp [hd, hd']), bs_size, bs_size, bs_list, bs_list])
        clear emp nem hd hd'
        go_wp2_with fail
        have k1 : (((w.alloc (Obj.cells #[Value.string p, Value.string d] 102)).alloc (Obj.cells #[Value.string p', Value.string d'] 102)).drewN n).cell? ⟨w.heap.size, 0, none⟩ = some (.string p) := by simp
        have k2 : (((w.alloc (Obj.cells #[Value.string p, Value.string d] 102)).alloc (Obj.cells #[Value.string p', Value.string d'] 102)).drewN n).cell? ⟨w.heap.size, 1, none⟩ = some (.string d) := by simp
        have k3 : (((w.alloc (Obj.cells #[Value.string p, Value.string d] 102)).alloc (Obj.cells #[Value.string p', Value.string d'] 102)).drewN n).cell? ⟨w.heap.size + 1, 0, none⟩ = some (.string p') := by simp
        have k4 : (((w.alloc (Obj.cells #[Value.string p, Value.string d] 102)).alloc (Obj.cells #[Value.string p', Value.string d'] 102)).drewN n).cell? ⟨w.heap.size + 1, 1, none⟩ = some (.string d') := by simp
        generalize ((w.alloc (Obj.cells #[Value.string p, Value.string d] 102)).alloc (Obj.cells #[Value.string p', Value.string d'] 102)).drewN n = W0 at *
        have j1 := cell_regrown k1
        have j2 := cell_regrown k2
        have j3 := cell_regrown k3
        have j4 := cell_regrown k4
        clear k1 k2 k3 k4
        have cP : ∀ dd os, Calls Tryd.prog 104 #[.agg #[.string p, .string d]] (grow (redrawn W0 dd) os) fun e w'' => e = .returned (.string (bs (trimL d.data.toList))) ∧ ∃ r : Regrown, w'' = grow (redrawn W0 r.d) r.os := fun dd os => Calls.regrown_of (pairNumber_ok p d _)
        have cQ : ∀ dd os, Calls Tryd.prog 104 #[.agg #[.string p', .string d']] (grow (redrawn W0 dd) os) fun e w'' => e = .returned (.string (bs (trimL d'.data.toList))) ∧ ∃ r : Regrown, w'' = grow (redrawn W0 r.d) r.os := fun dd os => Calls.regrown_of (pairNumber_ok p' d' _)
        refine wp_region_quiet_below (by kernel_rfl) (by kernel_rfl) ?_
        repeat (quiet_step (first | exact cP _ _ | exact cQ _ _))
        refine wpQuiet_nil ?_
        intro _ hw'
        obtain ⟨⟨dq, osq⟩, hw''⟩ := hw'
        subst hw''
        clear cP cQ j1 j2 j3 j4
        have HB2 := Lib.hid (HB.out.trans ((below_regrown W0 dq osq).mono HB.out.size))
        generalize grow (redrawn W0 dq) osq = W1 at *
        generalize bs (trimL d.data.toList) = X at *
        generalize bs (trimL d'.data.toList) = Y at *
        by_cases hsz : X.size = Y.size
        · have t1 : ((X.size : Int) != (Y.size : Int)) = false := by rw [hsz]; simp
          have E2 := Lib.hid (show cmpI (X.size : Int) Y.size = 0 by rw [hsz]; exact cmpI_is.refl _)
          clear hsz
          go_wp2_with fail
          refine (strCompare_ok _ _ _).mono ?_
          rintro e w1 ⟨rfl, rfl⟩
          go_wp2_with fail
          go_ret
          exact ⟨by rw [← HC.out, E.out, thenC_zero, E2.out, thenC_zero]; rfl, HB2.out⟩
        · have t1 : ((X.size : Int) != (Y.size : Int)) = true := by rw [bne_iff_ne]; omega
          have E2 := Lib.hid (show cmpI (X.size : Int) Y.size ≠ 0 from fun h => hsz (by have := cmpI_zero h; omega))
          clear hsz
          go_wp2_with fail
          refine (cmpInt_ok _ _ _).mono ?_
          rintro e w1 ⟨rfl, rfl⟩
          go_wp2_with fail
          go_ret
          exact ⟨by rw [← HC.out, E.out, thenC_zero, thenC_ne E2.out]; rfl, HB2.out⟩
  · have t1 : (c != 0) = true := by rw [bne_iff_ne]; exact hz
    have HZ := Lib.hid hz
    clear hz
    go_wp2_with fail
    go_ret
    refine ⟨?_, ?_⟩
    · rw [← HC.out, thenC_ne HZ.out]; rfl
    · exact ((Below.refl _ _).alloc (Nat.le_refl _) _).alloc (by simp) _ |>.trans ((below_drewN _ _).mono (by simp; omega))

theorem bcell {W w1 : World} {B : Nat} (hb : RowKit.Below B W w1) : (∀ b o, b < B → w1.cell? ⟨b, o, none⟩ = W.cell? ⟨b, o, none⟩) ∧ (∀ b o, b < B → w1.frozen? ⟨b, o, none⟩ = W.frozen? ⟨b, o, none⟩) :=
  ⟨fun b o h => hb.cell (p := ⟨b, o, none⟩) h, fun b o h => hb.frozen (p := ⟨b, o, none⟩) h⟩
def verLen : Value → Value → Nat
  | .string a, .string b => a.size + b.size
  | _, _ => 0
def VerRel (w : World) (l m : List UInt8) (a b : Value) (wr : World) : Prop :=
  ∃ s t : ByteArray, a = .string s ∧ b = .string t ∧ s.size ≤ 1125899906842624 ∧ t.size ≤ 1125899906842624 ∧ cmpVer s.data.toList t.data.toList = cmpVer l m ∧ Below w.heap.size w wr

theorem plainOf_le (l : List UInt8) : (plainOf l).length ≤ l.length := (List.takeWhile_sublist _).length_le
theorem restOf_le (l : List UInt8) : (restOf l).length ≤ l.length := by
  unfold restOf
  exact Nat.le_trans (List.dropWhile_sublist _).length_le (List.dropWhile_sublist _).length_le

set_option maxRecDepth 100000 in
set_option maxHeartbeats 1600000 in
theorem compareVersions_ok (s t : ByteArray) (w : World) (hs : s.size ≤ 1125899906842624) (ht : t.size ≤ 1125899906842624) (T : Tabs w) :
    Calls Tryd.prog 42 #[.string s, .string t] w (RetBelow w (.int .i64 (cmpVer s.data.toList t.data.toList))) := by
  have HT := Lib.hid T
  clear T
  go_enter Tryd.func42, Tryd.ntmps42
  go_wp2_with fail
  go_loopw [0, 1] (fun a b wr => VerRel w s.data.toList t.data.toList a b wr) (fun a b _ => verLen a b)
  case atStart => exact ⟨s, t, rfl, rfl, hs, ht, rfl, Below.refl _ _⟩
  case round =>
    obtain ⟨x, y, rfl, rfl, hx, hy, he, hb⟩ := hrel
    have HE := Lib.hid he
    have HB := Lib.hid hb
    clear he hb
    have emp : ∀ x : ByteArray, x.data.toList = [] → x.toList = [] ∧ x.toList.isEmpty = true := fun x h => by rw [Lib.toList_data, h]; exact ⟨rfl, rfl⟩
    have nem : ∀ x : ByteArray, ¬ x.data.toList = [] → ¬ x.toList = [] ∧ x.toList.isEmpty = false := fun x h => by rw [Lib.toList_data]; exact ⟨h, by cases hx : x.data.toList <;> simp_all⟩
    by_cases hxe : x.data.toList = []
    · by_cases hye : y.data.toList = []
      · obtain ⟨x1, x2⟩ := emp x hxe
        obtain ⟨y1, y2⟩ := emp y hye
        have E := Lib.hid (show cmpVer x.data.toList y.data.toList = 0 by rw [hxe, hye]; rfl)
        clear emp nem hxe hye
        go_wp2_with fail
        go_ret
        exact ⟨by rw [← HE.out, E.out]; rfl, HB.out⟩
      · obtain ⟨x1, x2⟩ := emp x hxe
        obtain ⟨y1, y2⟩ := nem y hye
        have E := Lib.hid (cmpVer_step x.data.toList y.data.toList (Or.inr hye))
        clear emp nem hxe hye
        go_wp2_with fail
        refine (cutPair_ok x _ hx).mono ?_
        rintro e w1 ⟨rfl, hb1⟩
        have c1 : w1.cell? ⟨wr.heap.size, 0, none⟩ = some (.string ⟨#[]⟩) := by rw [(bcell hb1).1 _ _ (by simp; omega)]; simp
        have c2 : w1.cell? ⟨wr.heap.size, 1, none⟩ = some (.string ⟨#[]⟩) := by rw [(bcell hb1).1 _ _ (by simp; omega)]; simp
        have f1 : w1.frozen? ⟨wr.heap.size, 0, none⟩ = false := by rw [(bcell hb1).2 _ _ (by simp; omega)]; simp
        have f2 : w1.frozen? ⟨wr.heap.size, 1, none⟩ = false := by rw [(bcell hb1).2 _ _ (by simp; omega)]; simp
        have c3 : w1.cell? ⟨wr.heap.size + 1, 0, none⟩ = some (.string ⟨#[]⟩) := by rw [(bcell hb1).1 _ _ (by simp)]; simp
        have c4 : w1.cell? ⟨wr.heap.size + 1, 1, none⟩ = some (.string ⟨#[]⟩) := by rw [(bcell hb1).1 _ _ (by simp)]; simp
        have f3 : w1.frozen? ⟨wr.heap.size + 1, 0, none⟩ = false := by rw [(bcell hb1).2 _ _ (by simp)]; simp
        have f4 : w1.frozen? ⟨wr.heap.size + 1, 1, none⟩ = false := by rw [(bcell hb1).2 _ _ (by simp)]; simp
        have z1 : wr.heap.size + 1 < w1.heap.size := by have := hb1.size; simp at this; omega
        have B1 := Lib.hid ((((Below.refl _ wr).alloc (Nat.le_refl _) (Obj.cells #[Value.string ⟨#[]⟩, Value.string ⟨#[]⟩] 102)).alloc (by simp) (Obj.cells #[Value.string ⟨#[]⟩, Value.string ⟨#[]⟩] 102)).trans (hb1.mono (by simp; omega)))
        clear hb1
        go_wp2_with fail
        have q1 := Lib.hid (bs_list (plainOf x.data.toList))
        have q2 := Lib.hid (bs_list (digsOf x.data.toList))
        have q3 := Lib.hid (bs_list (restOf x.data.toList))
        have p1 : (bs (plainOf x.data.toList)).size ≤ 1125899906842624 := by rw [bs_size]; have := plainOf_le x.data.toList; rw [← Lib.size_eq] at this; omega
        have p3 : (bs (restOf x.data.toList)).size ≤ x.size := by rw [bs_size]; have := restOf_le x.data.toList; rw [← Lib.size_eq] at this; omega
        have p4 := Lib.hid (show x.data.toList ≠ [] → (bs (restOf x.data.toList)).size < x.size from fun h => by rw [bs_size]; have := restOf_lt h; rw [← Lib.size_eq] at this; omega)
        generalize bs (plainOf x.data.toList) = P1 at *
        generalize bs (digsOf x.data.toList) = D1 at *
        generalize bs (restOf x.data.toList) = R1 at *
        have d1 : ((w1.setCell ⟨wr.heap.size, 0, none⟩ (.string P1)).setCell ⟨wr.heap.size, 1, none⟩ (.string D1)).cell? ⟨wr.heap.size, 0, none⟩ = some (.string P1) := by
          rw [World.cell?_setCell_other _ _ _ _ (by simp), World.cell?_setCell_same _ _ _ c1]
        have d2 : ((w1.setCell ⟨wr.heap.size, 0, none⟩ (.string P1)).setCell ⟨wr.heap.size, 1, none⟩ (.string D1)).cell? ⟨wr.heap.size, 1, none⟩ = some (.string D1) := by
          rw [World.cell?_setCell_same (u := .string ⟨#[]⟩) _ _ _ (by rw [World.cell?_setCell_other _ _ _ _ (by simp)]; exact c2)]
        have d3 : ((w1.setCell ⟨wr.heap.size, 0, none⟩ (.string P1)).setCell ⟨wr.heap.size, 1, none⟩ (.string D1)).cell? ⟨wr.heap.size + 1, 0, none⟩ = some (.string ⟨#[]⟩) := by
          rw [World.cell?_setCell_other _ _ _ _ (by simp), World.cell?_setCell_other _ _ _ _ (by simp)]; exact c3
        have d4 : ((w1.setCell ⟨wr.heap.size, 0, none⟩ (.string P1)).setCell ⟨wr.heap.size, 1, none⟩ (.string D1)).cell? ⟨wr.heap.size + 1, 1, none⟩ = some (.string ⟨#[]⟩) := by
          rw [World.cell?_setCell_other _ _ _ _ (by simp), World.cell?_setCell_other _ _ _ _ (by simp)]; exact c4
        have g3 : ((w1.setCell ⟨wr.heap.size, 0, none⟩ (.string P1)).setCell ⟨wr.heap.size, 1, none⟩ (.string D1)).frozen? ⟨wr.heap.size + 1, 0, none⟩ = false := by
          rw [World.frozen?_setCell, World.frozen?_setCell]; exact f3
        have g4 : ((w1.setCell ⟨wr.heap.size, 0, none⟩ (.string P1)).setCell ⟨wr.heap.size, 1, none⟩ (.string D1)).frozen? ⟨wr.heap.size + 1, 1, none⟩ = false := by
          rw [World.frozen?_setCell, World.frozen?_setCell]; exact f4
        have z2 : wr.heap.size + 1 < ((w1.setCell ⟨wr.heap.size, 0, none⟩ (.string P1)).setCell ⟨wr.heap.size, 1, none⟩ (.string D1)).heap.size := by simp; omega
        have B2 := Lib.hid ((B1.out.setCell (p := ⟨wr.heap.size, 0, none⟩) (Nat.le_refl _) (.string P1)).setCell (p := ⟨wr.heap.size, 1, none⟩) (Nat.le_refl _) (.string D1))
        clear c1 c2 c3 c4 f1 f2 f3 f4 z1 B1
        generalize (w1.setCell ⟨wr.heap.size, 0, none⟩ (.string P1)).setCell ⟨wr.heap.size, 1, none⟩ (.string D1) = w2 at *
        refine (cutPair_ok y _ hy).mono ?_
        rintro e w3 ⟨rfl, hb3⟩
        have c1 : w3.cell? ⟨wr.heap.size, 0, none⟩ = some (.string P1) := by rw [(bcell hb3).1 _ _ (by omega)]; exact d1
        have c2 : w3.cell? ⟨wr.heap.size, 1, none⟩ = some (.string D1) := by rw [(bcell hb3).1 _ _ (by omega)]; exact d2
        have c3 : w3.cell? ⟨wr.heap.size + 1, 0, none⟩ = some (.string ⟨#[]⟩) := by rw [(bcell hb3).1 _ _ (by omega)]; exact d3
        have c4 : w3.cell? ⟨wr.heap.size + 1, 1, none⟩ = some (.string ⟨#[]⟩) := by rw [(bcell hb3).1 _ _ (by omega)]; exact d4
        have f3 : w3.frozen? ⟨wr.heap.size + 1, 0, none⟩ = false := by rw [(bcell hb3).2 _ _ (by omega)]; exact g3
        have f4 : w3.frozen? ⟨wr.heap.size + 1, 1, none⟩ = false := by rw [(bcell hb3).2 _ _ (by omega)]; exact g4
        have B3 := Lib.hid (B2.out.trans (hb3.mono (by omega)))
        clear d1 d2 d3 d4 g3 g4 z2 B2 hb3
        have r1 := Lib.hid (bs_list (plainOf y.data.toList))
        have r2 := Lib.hid (bs_list (digsOf y.data.toList))
        have r3 := Lib.hid (bs_list (restOf y.data.toList))
        have u1 : (bs (plainOf y.data.toList)).size ≤ 1125899906842624 := by rw [bs_size]; have := plainOf_le y.data.toList; rw [← Lib.size_eq] at this; omega
        have u3 : (bs (restOf y.data.toList)).size ≤ y.size := by rw [bs_size]; have := restOf_le y.data.toList; rw [← Lib.size_eq] at this; omega
        have u4 := Lib.hid (show y.data.toList ≠ [] → (bs (restOf y.data.toList)).size < y.size from fun h => by rw [bs_size]; have := restOf_lt h; rw [← Lib.size_eq] at this; omega)
        generalize bs (plainOf y.data.toList) = P2 at *
        generalize bs (digsOf y.data.toList) = D2 at *
        generalize bs (restOf y.data.toList) = R2 at *
        go_wp2_with fail
        have B4 := Lib.hid ((B3.out.setCell (p := ⟨wr.heap.size + 1, 0, none⟩) (by simp) (.string P2)).setCell (p := ⟨wr.heap.size + 1, 1, none⟩) (by simp) (.string D2))
        clear c1 c2 c3 c4 f3 f4 B3
        generalize (w3.setCell ⟨wr.heap.size + 1, 0, none⟩ (.string P2)).setCell ⟨wr.heap.size + 1, 1, none⟩ (.string D2) = w4 at *
        have B5 := Lib.hid (HB.out.trans (B4.out.mono HB.out.size))
        refine (pairCompare_ok P1 D1 P2 D2 _ p1 u1 (HT.out.below B5.out)).mono ?_
        rintro e w5 ⟨rfl, hb5⟩
        have B6 := Lib.hid (B5.out.trans (hb5.mono B5.out.size))
        clear hb5 B4 B5
        obtain ⟨c, hc⟩ : ∃ c, c = thenC (cmpPlain P1.data.toList P2.data.toList) (cmpNums D1.data.toList D2.data.toList) := ⟨_, rfl⟩
        rw [← hc]
        have HC := Lib.hid (show cmpVer s.data.toList t.data.toList = thenC c (cmpVer R1.data.toList R2.data.toList) by
          rw [← HE.out, E.out, hc, q1.out, q2.out, q3.out, r1.out, r2.out, r3.out]; rfl)
        clear hc
        by_cases hz : c = 0
        · subst hz
          go_wp2_with fail
          go_roundw
          case rel => exact ⟨R1, R2, rfl, rfl, by omega, by omega, by rw [HC.out, thenC_zero], B6.out⟩
          case measure => show R1.size + R2.size < x.size + y.size; have := u4.out (by rw [← Lib.toList_data]; exact y1); omega
        · have t1 : (c != 0) = true := by rw [bne_iff_ne]; exact hz
          have HZ := Lib.hid hz
          clear hz
          go_wp2_with fail
          go_ret
          exact ⟨by rw [HC.out, thenC_ne HZ.out]; rfl, B6.out⟩
    · obtain ⟨x1, x2⟩ := nem x hxe
      have E := Lib.hid (cmpVer_step x.data.toList y.data.toList (Or.inl hxe))
      clear emp nem hxe
      go_wp2_with fail
      refine (cutPair_ok x _ hx).mono ?_
      rintro e w1 ⟨rfl, hb1⟩
      have c1 : w1.cell? ⟨wr.heap.size, 0, none⟩ = some (.string ⟨#[]⟩) := by rw [(bcell hb1).1 _ _ (by simp; omega)]; simp
      have c2 : w1.cell? ⟨wr.heap.size, 1, none⟩ = some (.string ⟨#[]⟩) := by rw [(bcell hb1).1 _ _ (by simp; omega)]; simp
      have f1 : w1.frozen? ⟨wr.heap.size, 0, none⟩ = false := by rw [(bcell hb1).2 _ _ (by simp; omega)]; simp
      have f2 : w1.frozen? ⟨wr.heap.size, 1, none⟩ = false := by rw [(bcell hb1).2 _ _ (by simp; omega)]; simp
      have c3 : w1.cell? ⟨wr.heap.size + 1, 0, none⟩ = some (.string ⟨#[]⟩) := by rw [(bcell hb1).1 _ _ (by simp)]; simp
      have c4 : w1.cell? ⟨wr.heap.size + 1, 1, none⟩ = some (.string ⟨#[]⟩) := by rw [(bcell hb1).1 _ _ (by simp)]; simp
      have f3 : w1.frozen? ⟨wr.heap.size + 1, 0, none⟩ = false := by rw [(bcell hb1).2 _ _ (by simp)]; simp
      have f4 : w1.frozen? ⟨wr.heap.size + 1, 1, none⟩ = false := by rw [(bcell hb1).2 _ _ (by simp)]; simp
      have z1 : wr.heap.size + 1 < w1.heap.size := by have := hb1.size; simp at this; omega
      have B1 := Lib.hid ((((Below.refl _ wr).alloc (Nat.le_refl _) (Obj.cells #[Value.string ⟨#[]⟩, Value.string ⟨#[]⟩] 102)).alloc (by simp) (Obj.cells #[Value.string ⟨#[]⟩, Value.string ⟨#[]⟩] 102)).trans (hb1.mono (by simp; omega)))
      clear hb1
      go_wp2_with fail
      have q1 := Lib.hid (bs_list (plainOf x.data.toList))
      have q2 := Lib.hid (bs_list (digsOf x.data.toList))
      have q3 := Lib.hid (bs_list (restOf x.data.toList))
      have p1 : (bs (plainOf x.data.toList)).size ≤ 1125899906842624 := by rw [bs_size]; have := plainOf_le x.data.toList; rw [← Lib.size_eq] at this; omega
      have p3 : (bs (restOf x.data.toList)).size ≤ x.size := by rw [bs_size]; have := restOf_le x.data.toList; rw [← Lib.size_eq] at this; omega
      have p4 := Lib.hid (show x.data.toList ≠ [] → (bs (restOf x.data.toList)).size < x.size from fun h => by rw [bs_size]; have := restOf_lt h; rw [← Lib.size_eq] at this; omega)
      generalize bs (plainOf x.data.toList) = P1 at *
      generalize bs (digsOf x.data.toList) = D1 at *
      generalize bs (restOf x.data.toList) = R1 at *
      have d1 : ((w1.setCell ⟨wr.heap.size, 0, none⟩ (.string P1)).setCell ⟨wr.heap.size, 1, none⟩ (.string D1)).cell? ⟨wr.heap.size, 0, none⟩ = some (.string P1) := by
        rw [World.cell?_setCell_other _ _ _ _ (by simp), World.cell?_setCell_same _ _ _ c1]
      have d2 : ((w1.setCell ⟨wr.heap.size, 0, none⟩ (.string P1)).setCell ⟨wr.heap.size, 1, none⟩ (.string D1)).cell? ⟨wr.heap.size, 1, none⟩ = some (.string D1) := by
        rw [World.cell?_setCell_same (u := .string ⟨#[]⟩) _ _ _ (by rw [World.cell?_setCell_other _ _ _ _ (by simp)]; exact c2)]
      have d3 : ((w1.setCell ⟨wr.heap.size, 0, none⟩ (.string P1)).setCell ⟨wr.heap.size, 1, none⟩ (.string D1)).cell? ⟨wr.heap.size + 1, 0, none⟩ = some (.string ⟨#[]⟩) := by
        rw [World.cell?_setCell_other _ _ _ _ (by simp), World.cell?_setCell_other _ _ _ _ (by simp)]; exact c3
      have d4 : ((w1.setCell ⟨wr.heap.size, 0, none⟩ (.string P1)).setCell ⟨wr.heap.size, 1, none⟩ (.string D1)).cell? ⟨wr.heap.size + 1, 1, none⟩ = some (.string ⟨#[]⟩) := by
        rw [World.cell?_setCell_other _ _ _ _ (by simp), World.cell?_setCell_other _ _ _ _ (by simp)]; exact c4
      have g3 : ((w1.setCell ⟨wr.heap.size, 0, none⟩ (.string P1)).setCell ⟨wr.heap.size, 1, none⟩ (.string D1)).frozen? ⟨wr.heap.size + 1, 0, none⟩ = false := by
        rw [World.frozen?_setCell, World.frozen?_setCell]; exact f3
      have g4 : ((w1.setCell ⟨wr.heap.size, 0, none⟩ (.string P1)).setCell ⟨wr.heap.size, 1, none⟩ (.string D1)).frozen? ⟨wr.heap.size + 1, 1, none⟩ = false := by
        rw [World.frozen?_setCell, World.frozen?_setCell]; exact f4
      have z2 : wr.heap.size + 1 < ((w1.setCell ⟨wr.heap.size, 0, none⟩ (.string P1)).setCell ⟨wr.heap.size, 1, none⟩ (.string D1)).heap.size := by simp; omega
      have B2 := Lib.hid ((B1.out.setCell (p := ⟨wr.heap.size, 0, none⟩) (Nat.le_refl _) (.string P1)).setCell (p := ⟨wr.heap.size, 1, none⟩) (Nat.le_refl _) (.string D1))
      clear c1 c2 c3 c4 f1 f2 f3 f4 z1 B1
      generalize (w1.setCell ⟨wr.heap.size, 0, none⟩ (.string P1)).setCell ⟨wr.heap.size, 1, none⟩ (.string D1) = w2 at *
      refine (cutPair_ok y _ hy).mono ?_
      rintro e w3 ⟨rfl, hb3⟩
      have c1 : w3.cell? ⟨wr.heap.size, 0, none⟩ = some (.string P1) := by rw [(bcell hb3).1 _ _ (by omega)]; exact d1
      have c2 : w3.cell? ⟨wr.heap.size, 1, none⟩ = some (.string D1) := by rw [(bcell hb3).1 _ _ (by omega)]; exact d2
      have c3 : w3.cell? ⟨wr.heap.size + 1, 0, none⟩ = some (.string ⟨#[]⟩) := by rw [(bcell hb3).1 _ _ (by omega)]; exact d3
      have c4 : w3.cell? ⟨wr.heap.size + 1, 1, none⟩ = some (.string ⟨#[]⟩) := by rw [(bcell hb3).1 _ _ (by omega)]; exact d4
      have f3 : w3.frozen? ⟨wr.heap.size + 1, 0, none⟩ = false := by rw [(bcell hb3).2 _ _ (by omega)]; exact g3
      have f4 : w3.frozen? ⟨wr.heap.size + 1, 1, none⟩ = false := by rw [(bcell hb3).2 _ _ (by omega)]; exact g4
      have B3 := Lib.hid (B2.out.trans (hb3.mono (by omega)))
      clear d1 d2 d3 d4 g3 g4 z2 B2 hb3
      have r1 := Lib.hid (bs_list (plainOf y.data.toList))
      have r2 := Lib.hid (bs_list (digsOf y.data.toList))
      have r3 := Lib.hid (bs_list (restOf y.data.toList))
      have u1 : (bs (plainOf y.data.toList)).size ≤ 1125899906842624 := by rw [bs_size]; have := plainOf_le y.data.toList; rw [← Lib.size_eq] at this; omega
      have u3 : (bs (restOf y.data.toList)).size ≤ y.size := by rw [bs_size]; have := restOf_le y.data.toList; rw [← Lib.size_eq] at this; omega
      have u4 := Lib.hid (show y.data.toList ≠ [] → (bs (restOf y.data.toList)).size < y.size from fun h => by rw [bs_size]; have := restOf_lt h; rw [← Lib.size_eq] at this; omega)
      generalize bs (plainOf y.data.toList) = P2 at *
      generalize bs (digsOf y.data.toList) = D2 at *
      generalize bs (restOf y.data.toList) = R2 at *
      go_wp2_with fail
      have B4 := Lib.hid ((B3.out.setCell (p := ⟨wr.heap.size + 1, 0, none⟩) (by simp) (.string P2)).setCell (p := ⟨wr.heap.size + 1, 1, none⟩) (by simp) (.string D2))
      clear c1 c2 c3 c4 f3 f4 B3
      generalize (w3.setCell ⟨wr.heap.size + 1, 0, none⟩ (.string P2)).setCell ⟨wr.heap.size + 1, 1, none⟩ (.string D2) = w4 at *
      have B5 := Lib.hid (HB.out.trans (B4.out.mono HB.out.size))
      refine (pairCompare_ok P1 D1 P2 D2 _ p1 u1 (HT.out.below B5.out)).mono ?_
      rintro e w5 ⟨rfl, hb5⟩
      have B6 := Lib.hid (B5.out.trans (hb5.mono B5.out.size))
      clear hb5 B4 B5
      obtain ⟨c, hc⟩ : ∃ c, c = thenC (cmpPlain P1.data.toList P2.data.toList) (cmpNums D1.data.toList D2.data.toList) := ⟨_, rfl⟩
      rw [← hc]
      have HC := Lib.hid (show cmpVer s.data.toList t.data.toList = thenC c (cmpVer R1.data.toList R2.data.toList) by
        rw [← HE.out, E.out, hc, q1.out, q2.out, q3.out, r1.out, r2.out, r3.out]; rfl)
      clear hc
      by_cases hz : c = 0
      · subst hz
        go_wp2_with fail
        go_roundw
        case rel => exact ⟨R1, R2, rfl, rfl, by omega, by omega, by rw [HC.out, thenC_zero], B6.out⟩
        case measure => show R1.size + R2.size < x.size + y.size; have := p4.out (by rw [← Lib.toList_data]; exact x1); omega
      · have t1 : (c != 0) = true := by rw [bne_iff_ne]; exact hz
        have HZ := Lib.hid hz
        clear hz
        go_wp2_with fail
        go_ret
        exact ⟨by rw [HC.out, thenC_ne HZ.out]; rfl, B6.out⟩
end Go.Proofs.YtpbbgmfjdachnaaDoor
