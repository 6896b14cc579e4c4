/- The answer's Span: the program's places. -/
import Derived.Test.YtgpcmlbmmcnkjaaGreatDoorMe
import Derived.Test.YtgpcmlbmmcnkjaaGreatDoorMx
namespace Go.Proofs.YtgpcmlbmmcnkjaaGreatDoor
section
open Go.RowKit
set_option maxRecDepth 100000
set_option maxHeartbeats 800000 in
theorem ref_empty (s : ByteArray) (w : World) (hs : s.size = 0) : Calls Tryz.prog 31 #[.string s, .int .i64 (-1)] w (RetSpans w []) := by
  have B0 := Lib.hid (Below.refl w.heap.size w)
  go_enter Tryz.func31, Tryz.ntmps31
  go_wp2_with fail
  go_loop [5, 7] (fun l i => l = .slice none 0 0 ∧ i = .int .i64 0) (fun _ _ => 0)
  case atStart => exact ⟨rfl, rfl⟩
  case round =>
    obtain ⟨rfl, rfl⟩ := hrel
    go_wp2_with fail
    go_ret
    exact ⟨.slice none 0 0, rfl, World.ownsRow_nil _ _ _ _, B0.out⟩
theorem ref_ok (o : Option UInt8) (s : ByteArray) (w : World) (hs : s.size ≤ 1048576) : Calls Tryz.prog 31 #[.string s, .int .i64 (tabI o)] w (RetSpans w (fieldsS s.data.toList o)) := by
  cases o with
  | some t =>
    have : fieldsS s.data.toList (some t) = spans s.data.toList (some t) (s.size + 1) 0 := by unfold fieldsS; rw [if_neg (by simp), Lib.size_eq]
    rw [this]
    exact ref_tab t s w hs
  | none =>
    by_cases h : s.size = 0
    · have : fieldsS s.data.toList none = [] := by unfold fieldsS; rw [if_pos ⟨rfl, List.eq_nil_of_length_eq_zero (by rw [← Lib.size_eq]; exact h)⟩]
      rw [this]
      exact ref_empty s w h
    · have : fieldsS s.data.toList none = spans s.data.toList none (s.size + 1) 0 := by unfold fieldsS; rw [if_neg (fun e => h (by rw [Lib.size_eq, e.2]; rfl)), Lib.size_eq]
      rw [this]
      exact ref_none s w hs h
end
section
open Go.RowKit
set_option maxRecDepth 100000

theorem behB_is (s : List UInt8) (o : Option UInt8) (f c m : Nat) (h : fbeg s o (f - 1) 0 ≤ s.length) : spanB s o f c m = (if (if bB m then behB s (fbeg s o (f - 1) 0) else fbeg s o (f - 1) 0) + (c - 1) > s.length then s.length else (if bB m then behB s (fbeg s o (f - 1) 0) else fbeg s o (f - 1) 0) + (c - 1)) := by
  unfold spanB furS
  have := behB_le s _ h
  split <;> split <;> omega
/-- Where a field begins in the list. -/
theorem field_here (s : ByteArray) (o : Option UInt8) (n : Nat) (hn : 1 ≤ n) : (n ≤ (fieldsS s.data.toList o).length → ∃ e, (fieldsS s.data.toList o)[n - 1]? = some (fbeg s.data.toList o (n - 1) 0, e)) ∧ (¬ n ≤ (fieldsS s.data.toList o).length → fbeg s.data.toList o (n - 1) 0 = s.size) := by
  have h := fields_at s.data.toList o (n - 1)
  exact ⟨fun hl => ⟨_, h.1 (by omega)⟩, fun hl => by rw [Lib.size_eq]; exact h.2 (by omega)⟩
theorem mbegin_ok (s : ByteArray) (o : Option UInt8) (ao : Option Addr) (cc n : Nat) (bl : Bool) (w : World) (hn : 1 ≤ n ∧ n ≤ 2147483647) (hs : s.size ≤ 140737488351232) (H : SpAt w ao (fieldsS s.data.toList o)) :
    Calls Tryz.prog 32 #[.string s, .slice ao (fieldsS s.data.toList o).length cc, .int .i64 (n : Int), .bool bl] w (RetS w (.int .i64 (((if bl then behB s.data.toList (fbeg s.data.toList o (n - 1) 0) else fbeg s.data.toList o (n - 1) 0) : Nat) : Int))) :=
  mbegin_g s ao _ cc n _ bl w hn hs (by rw [Lib.size_eq]; exact fbeg_le _ _ _ _ (Nat.zero_le _)) H (field_here s o n hn.1).1 (field_here s o n hn.1).2
structure MsIn (w wr : World) (f c ef ec : Nat) (m : Nat) (b : Bool) (ao : Option Addr) (L : List (Nat × Nat)) : Prop where
  box : CellsAt wr w.heap.size [.int .i64 (f : Int), .int .i64 (c : Int), .int .i64 (ef : Int), .int .i64 (ec : Int), .int .u16 (m : Int), .bool b]
  res : CellsAt wr (w.heap.size + 1) [.int .i64 0, .int .i64 0]
  sp : SpAt wr ao L
  below : Below w.heap.size w wr
theorem MsIn.go {w wr w' : World} {f c ef ec m : Nat} {b : Bool} {ao : Option Addr} {L : List (Nat × Nat)} (h : MsIn w wr f c ef ec m b ao L) (k : Below wr.heap.size wr w') : MsIn w w' f c ef ec m b ao L :=
  ⟨h.box.step k, h.res.step k, h.sp.below k, h.below.trans (k.mono h.below.size)⟩
set_option maxHeartbeats 6400000 in
theorem mspan_g (s : ByteArray) (t : Int) (f c ef ec m : Nat) (b : Bool) (L : List (Nat × Nat)) (len x y z P E : Nat) (w : World) (hc : 1 ≤ c ∧ c ≤ 2147483647) (hef : ef ≤ 2147483647) (hec : ec ≤ 2147483647) (hm : m < 65536) (hs : s.size ≤ 1048576)
    (hlen : L.length = len) (hys : y ≤ s.size)
    (FI : Hid (∀ W, Calls Tryz.prog 31 #[.string s, .int .i64 t] W (RetSpans W L)))
    (BX : Hid (∀ ao cc W, SpAt W ao L → Calls Tryz.prog 32 #[.string s, .slice ao len cc, .int .i64 (f : Int), .bool (bB m)] W (RetS W (.int .i64 (x : Int)))))
    (BY : Hid (∀ ao cc W, ef ≠ 0 → SpAt W ao L → Calls Tryz.prog 32 #[.string s, .slice ao len cc, .int .i64 (ef : Int), .bool b] W (RetS W (.int .i64 (y : Int)))))
    (hz : ef ≠ 0 → ef ≤ len → ∃ a, L[ef - 1]? = some (a, z))
    (hP : P = if x + (c - 1) > s.size then s.size else x + (c - 1))
    (hE : E = if ef = 0 then s.size else if ec = 0 then (if ef ≤ len then z else s.size) else (if y + ec > s.size then s.size else y + ec)) :
    Calls Tryz.prog 17 #[.string s, .agg #[.int .i64 (f : Int), .int .i64 (c : Int), .int .i64 (ef : Int), .int .i64 (ec : Int), .int .u16 (m : Int), .bool b], .int .i64 t] w (RetBk w (.agg #[.int .i64 (P : Int), .int .i64 ((max P E : Nat) : Int)])) := by
  have HA := Lib.hid (fun (W : World) => has_ok m 1 hm (by omega) W)
  have HPE := Lib.hid (And.intro hP hE)
  have HZ := Lib.hid hz
  clear hP hE hz
  go_enter Tryz.func17, Tryz.ntmps17
  go_wp2_with fail
  have Z0 := (CellsAt.new w [.int .i64 (f : Int), .int .i64 (c : Int), .int .i64 (ef : Int), .int .i64 (ec : Int), .int .u16 (m : Int), .bool b] 35).alloc (.cells [Value.int .i64 0, .int .i64 0].toArray 41)
  have Z1 := CellsAt.new (w.alloc (.cells [Value.int .i64 (f : Int), .int .i64 (c : Int), .int .i64 (ef : Int), .int .i64 (ec : Int), .int .u16 (m : Int), .bool b].toArray 35)) [.int .i64 0, .int .i64 0] 41
  rw [show (w.alloc (.cells [Value.int .i64 (f : Int), .int .i64 (c : Int), .int .i64 (ef : Int), .int .i64 (ec : Int), .int .u16 (m : Int), .bool b].toArray 35)).heap.size = w.heap.size + 1 by simp] at Z1
  have B := ((Below.refl w.heap.size w).alloc (Nat.le_refl _) (.cells [Value.int .i64 (f : Int), .int .i64 (c : Int), .int .i64 (ef : Int), .int .i64 (ec : Int), .int .u16 (m : Int), .bool b].toArray 35)).alloc (by simp) (.cells [Value.int .i64 0, .int .i64 0].toArray 41)
  generalize World.alloc (World.alloc w _) _ = W0 at *
  refine (FI.out W0).mono ?_
  rintro e w1 ⟨v, rfl, hrow, hb⟩
  rw [hlen] at hrow
  obtain ⟨ao, cc, rfl, hsp⟩ := sp_own (L := L) (by rw [hlen]; exact hrow)
  have M := Lib.hid ((show MsIn w w1 f c ef ec m b ao L from ⟨Z0.step hb, Z1.step hb, hsp, B.trans (hb.mono B.size)⟩).go (show Below w1.heap.size w1 w1.drew from below_drewN w1 1))
  clear Z0 Z1 B hrow hb hsp FI
  rw [hlen]
  go_upto_region 2 with fail
  rename_i KK hKK
  refine m17_2 (fun _ _ _ _ _ h => h) (M.out.box.cell 0 _ rfl) (M.out.box.cell 4 _ rfl) (HA.out _) (BX.out ao cc _ M.out.sp) ?_
  intro v13 v14 v15 v16 v17 v18 v19 v20
  refine hKK _ _ ?_
  clear hKK KK HA BX
  generalize w1.drew = W2 at *
  have c1 := M.out.box.cell 1 _ rfl
  have c2 := M.out.box.cell 2 _ rfl
  have c3 := M.out.box.cell 3 _ rfl
  have c5 := M.out.box.cell 5 _ rfl
  have r0 := M.out.res.cell 0 _ rfl
  have r1 := M.out.res.cell 1 _ rfl
  have s0 := M.out.res.free 0
  have s1 := M.out.res.free 1
  have BEL := Lib.hid M.out.below
  have BYM := Lib.hid (fun h => BY.out ao cc W2 h M.out.sp)
  have SPM := Lib.hid M.out.sp
  obtain ⟨hP, hE⟩ := HPE.out
  clear BY M HPE
  by_cases hxl : x + (c - 1) > s.size
  · have t2 : decide ((s.size : Int) - ((c : Int) - 1) < (x : Int)) = true := by rw [decide_eq_true_eq]; omega
    obtain rfl : P = s.size := by rw [hP, if_pos hxl]
    clear hP
    by_cases he : ef = 0
    · have q0 : decide ((0 : Int) < (ef : Int)) = false := by rw [decide_eq_false_iff_not]; omega
      obtain rfl : E = s.size := by rw [hE, if_pos he]
      clear hE BYM HZ SPM
      by_cases hlt : s.size < s.size
      · exfalso; omega
      · have tl : decide ((s.size : Int) < (s.size : Int)) = false := by rw [decide_eq_false_iff_not]; omega
        go_wp2_with fail
        refine bodyPost_ret (v := _) ?_ rfl ⟨rfl, (BEL.out.setCell (p := ⟨w.heap.size + 1, 0, none⟩) (Nat.le_succ _) _).setCell (p := ⟨w.heap.size + 1, 1, none⟩) (Nat.le_succ _) _⟩
        simp [results, Tryz.results17, go_sem, r0, r1]
        all_goals omega
    have q0 : decide ((0 : Int) < (ef : Int)) = true := by rw [decide_eq_true_eq]; omega
    rw [if_neg he] at hE
    by_cases hec0 : ec = 0
    · have e0 : ((ec : Int) == 0) = true := by rw [beq_iff_eq]; omega
      have e1 : decide ((0 : Int) < (ec : Int)) = false := by rw [decide_eq_false_iff_not]; omega
      rw [if_pos hec0] at hE
      by_cases hel : ef ≤ len
      · have t3 : decide ((ef : Int) ≤ (len : Int)) = true := by rw [decide_eq_true_eq]; omega
        obtain rfl : E = z := by rw [hE, if_pos hel]
        obtain ⟨a, ha⟩ := HZ.out he hel
        obtain ⟨bb, rfl, hbb, _, k1⟩ := SPM.out.at_ _ _ _ ha
        have i1 : (ef : Int) - 1 = ((ef - 1 : Nat) : Int) := by omega
        have hql : ef - 1 < len := by omega
        clear hE BYM HZ SPM ha
        generalize ef - 1 = q at *
        by_cases hlt : E < s.size
        · have tl : decide ((E : Int) < (s.size : Int)) = true := by rw [decide_eq_true_eq]; omega
          go_wp2_with fail
          refine bodyPost_ret (v := _) ?_ rfl ⟨rfl, (BEL.out.setCell (p := ⟨w.heap.size + 1, 0, none⟩) (Nat.le_succ _) _).setCell (p := ⟨w.heap.size + 1, 1, none⟩) (Nat.le_succ _) _⟩
          simp [results, Tryz.results17, go_sem, r0, r1]
          all_goals omega
        · have tl : decide ((E : Int) < (s.size : Int)) = false := by rw [decide_eq_false_iff_not]; omega
          go_wp2_with fail
          refine bodyPost_ret (v := _) ?_ rfl ⟨rfl, (BEL.out.setCell (p := ⟨w.heap.size + 1, 0, none⟩) (Nat.le_succ _) _).setCell (p := ⟨w.heap.size + 1, 1, none⟩) (Nat.le_succ _) _⟩
          simp [results, Tryz.results17, go_sem, r0, r1]
          all_goals omega
      · have t3 : decide ((ef : Int) ≤ (len : Int)) = false := by rw [decide_eq_false_iff_not]; omega
        obtain rfl : E = s.size := by rw [hE, if_neg hel]
        clear hE BYM HZ SPM
        by_cases hlt : s.size < s.size
        · exfalso; omega
        · have tl : decide ((s.size : Int) < (s.size : Int)) = false := by rw [decide_eq_false_iff_not]; omega
          go_wp2_with fail
          refine bodyPost_ret (v := _) ?_ rfl ⟨rfl, (BEL.out.setCell (p := ⟨w.heap.size + 1, 0, none⟩) (Nat.le_succ _) _).setCell (p := ⟨w.heap.size + 1, 1, none⟩) (Nat.le_succ _) _⟩
          simp [results, Tryz.results17, go_sem, r0, r1]
          all_goals omega
    have e0 : ((ec : Int) == 0) = false := by rw [beq_eq_false_iff_ne]; omega
    have e1 : decide ((0 : Int) < (ec : Int)) = true := by rw [decide_eq_true_eq]; omega
    rw [if_neg hec0] at hE
    have BYE := Lib.hid (BYM.out he)
    clear BYM HZ SPM
    by_cases hyl : y + ec > s.size
    · have t4 : decide ((s.size : Int) - (ec : Int) < (y : Int)) = true := by rw [decide_eq_true_eq]; omega
      obtain rfl : E = s.size := by rw [hE, if_pos hyl]
      clear hE
      go_wp2_with fail
      refine BYE.out.mono ?_
      rintro e w9 ⟨rfl, rfl⟩
      clear BYE
      by_cases hlt : s.size < s.size
      · exfalso; omega
      · have tl : decide ((s.size : Int) < (s.size : Int)) = false := by rw [decide_eq_false_iff_not]; omega
        go_wp2_with fail
        refine bodyPost_ret (v := _) ?_ rfl ⟨rfl, (BEL.out.setCell (p := ⟨w.heap.size + 1, 0, none⟩) (Nat.le_succ _) _).setCell (p := ⟨w.heap.size + 1, 1, none⟩) (Nat.le_succ _) _⟩
        simp [results, Tryz.results17, go_sem, r0, r1]
        all_goals omega
    · have t4 : decide ((s.size : Int) - (ec : Int) < (y : Int)) = false := by rw [decide_eq_false_iff_not]; omega
      have iE : (y : Int) + (ec : Int) = (E : Int) := by rw [hE, if_neg hyl]; omega
      have hEs : E ≤ s.size := by rw [hE, if_neg hyl]; omega
      clear hE
      go_wp2_with fail
      refine BYE.out.mono ?_
      rintro e w9 ⟨rfl, rfl⟩
      clear BYE
      by_cases hlt : E < s.size
      · have tl : decide ((E : Int) < (s.size : Int)) = true := by rw [decide_eq_true_eq]; omega
        go_wp2_with fail
        refine bodyPost_ret (v := _) ?_ rfl ⟨rfl, (BEL.out.setCell (p := ⟨w.heap.size + 1, 0, none⟩) (Nat.le_succ _) _).setCell (p := ⟨w.heap.size + 1, 1, none⟩) (Nat.le_succ _) _⟩
        simp [results, Tryz.results17, go_sem, r0, r1]
        all_goals omega
      · have tl : decide ((E : Int) < (s.size : Int)) = false := by rw [decide_eq_false_iff_not]; omega
        go_wp2_with fail
        refine bodyPost_ret (v := _) ?_ rfl ⟨rfl, (BEL.out.setCell (p := ⟨w.heap.size + 1, 0, none⟩) (Nat.le_succ _) _).setCell (p := ⟨w.heap.size + 1, 1, none⟩) (Nat.le_succ _) _⟩
        simp [results, Tryz.results17, go_sem, r0, r1]
        all_goals omega
  · have t2 : decide ((s.size : Int) - ((c : Int) - 1) < (x : Int)) = false := by rw [decide_eq_false_iff_not]; omega
    have iP : (x : Int) + (c : Int) - 1 = (P : Int) := by rw [hP, if_neg hxl]; omega
    have hPs : P ≤ s.size := by rw [hP, if_neg hxl]; omega
    clear hP
    by_cases he : ef = 0
    · have q0 : decide ((0 : Int) < (ef : Int)) = false := by rw [decide_eq_false_iff_not]; omega
      obtain rfl : E = s.size := by rw [hE, if_pos he]
      clear hE BYM HZ SPM
      by_cases hlt : s.size < P
      · exfalso; omega
      · have tl : decide ((s.size : Int) < (P : Int)) = false := by rw [decide_eq_false_iff_not]; omega
        go_wp2_with fail
        refine bodyPost_ret (v := _) ?_ rfl ⟨rfl, (BEL.out.setCell (p := ⟨w.heap.size + 1, 0, none⟩) (Nat.le_succ _) _).setCell (p := ⟨w.heap.size + 1, 1, none⟩) (Nat.le_succ _) _⟩
        simp [results, Tryz.results17, go_sem, r0, r1]
        all_goals omega
    have q0 : decide ((0 : Int) < (ef : Int)) = true := by rw [decide_eq_true_eq]; omega
    rw [if_neg he] at hE
    by_cases hec0 : ec = 0
    · have e0 : ((ec : Int) == 0) = true := by rw [beq_iff_eq]; omega
      have e1 : decide ((0 : Int) < (ec : Int)) = false := by rw [decide_eq_false_iff_not]; omega
      rw [if_pos hec0] at hE
      by_cases hel : ef ≤ len
      · have t3 : decide ((ef : Int) ≤ (len : Int)) = true := by rw [decide_eq_true_eq]; omega
        obtain rfl : E = z := by rw [hE, if_pos hel]
        obtain ⟨a, ha⟩ := HZ.out he hel
        obtain ⟨bb, rfl, hbb, _, k1⟩ := SPM.out.at_ _ _ _ ha
        have i1 : (ef : Int) - 1 = ((ef - 1 : Nat) : Int) := by omega
        have hql : ef - 1 < len := by omega
        clear hE BYM HZ SPM ha
        generalize ef - 1 = q at *
        by_cases hlt : E < P
        · have tl : decide ((E : Int) < (P : Int)) = true := by rw [decide_eq_true_eq]; omega
          go_wp2_with fail
          refine bodyPost_ret (v := _) ?_ rfl ⟨rfl, (BEL.out.setCell (p := ⟨w.heap.size + 1, 0, none⟩) (Nat.le_succ _) _).setCell (p := ⟨w.heap.size + 1, 1, none⟩) (Nat.le_succ _) _⟩
          simp [results, Tryz.results17, go_sem, r0, r1]
          all_goals omega
        · have tl : decide ((E : Int) < (P : Int)) = false := by rw [decide_eq_false_iff_not]; omega
          go_wp2_with fail
          refine bodyPost_ret (v := _) ?_ rfl ⟨rfl, (BEL.out.setCell (p := ⟨w.heap.size + 1, 0, none⟩) (Nat.le_succ _) _).setCell (p := ⟨w.heap.size + 1, 1, none⟩) (Nat.le_succ _) _⟩
          simp [results, Tryz.results17, go_sem, r0, r1]
          all_goals omega
      · have t3 : decide ((ef : Int) ≤ (len : Int)) = false := by rw [decide_eq_false_iff_not]; omega
        obtain rfl : E = s.size := by rw [hE, if_neg hel]
        clear hE BYM HZ SPM
        by_cases hlt : s.size < P
        · exfalso; omega
        · have tl : decide ((s.size : Int) < (P : Int)) = false := by rw [decide_eq_false_iff_not]; omega
          go_wp2_with fail
          refine bodyPost_ret (v := _) ?_ rfl ⟨rfl, (BEL.out.setCell (p := ⟨w.heap.size + 1, 0, none⟩) (Nat.le_succ _) _).setCell (p := ⟨w.heap.size + 1, 1, none⟩) (Nat.le_succ _) _⟩
          simp [results, Tryz.results17, go_sem, r0, r1]
          all_goals omega
    have e0 : ((ec : Int) == 0) = false := by rw [beq_eq_false_iff_ne]; omega
    have e1 : decide ((0 : Int) < (ec : Int)) = true := by rw [decide_eq_true_eq]; omega
    rw [if_neg hec0] at hE
    have BYE := Lib.hid (BYM.out he)
    clear BYM HZ SPM
    by_cases hyl : y + ec > s.size
    · have t4 : decide ((s.size : Int) - (ec : Int) < (y : Int)) = true := by rw [decide_eq_true_eq]; omega
      obtain rfl : E = s.size := by rw [hE, if_pos hyl]
      clear hE
      go_wp2_with fail
      refine BYE.out.mono ?_
      rintro e w9 ⟨rfl, rfl⟩
      clear BYE
      by_cases hlt : s.size < P
      · exfalso; omega
      · have tl : decide ((s.size : Int) < (P : Int)) = false := by rw [decide_eq_false_iff_not]; omega
        go_wp2_with fail
        refine bodyPost_ret (v := _) ?_ rfl ⟨rfl, (BEL.out.setCell (p := ⟨w.heap.size + 1, 0, none⟩) (Nat.le_succ _) _).setCell (p := ⟨w.heap.size + 1, 1, none⟩) (Nat.le_succ _) _⟩
        simp [results, Tryz.results17, go_sem, r0, r1]
        all_goals omega
    · have t4 : decide ((s.size : Int) - (ec : Int) < (y : Int)) = false := by rw [decide_eq_false_iff_not]; omega
      have iE : (y : Int) + (ec : Int) = (E : Int) := by rw [hE, if_neg hyl]; omega
      have hEs : E ≤ s.size := by rw [hE, if_neg hyl]; omega
      clear hE
      go_wp2_with fail
      refine BYE.out.mono ?_
      rintro e w9 ⟨rfl, rfl⟩
      clear BYE
      by_cases hlt : E < P
      · have tl : decide ((E : Int) < (P : Int)) = true := by rw [decide_eq_true_eq]; omega
        go_wp2_with fail
        refine bodyPost_ret (v := _) ?_ rfl ⟨rfl, (BEL.out.setCell (p := ⟨w.heap.size + 1, 0, none⟩) (Nat.le_succ _) _).setCell (p := ⟨w.heap.size + 1, 1, none⟩) (Nat.le_succ _) _⟩
        simp [results, Tryz.results17, go_sem, r0, r1]
        all_goals omega
      · have tl : decide ((E : Int) < (P : Int)) = false := by rw [decide_eq_false_iff_not]; omega
        go_wp2_with fail
        refine bodyPost_ret (v := _) ?_ rfl ⟨rfl, (BEL.out.setCell (p := ⟨w.heap.size + 1, 0, none⟩) (Nat.le_succ _) _).setCell (p := ⟨w.heap.size + 1, 1, none⟩) (Nat.le_succ _) _⟩
        simp [results, Tryz.results17, go_sem, r0, r1]
        all_goals omega
end
end Go.Proofs.YtgpcmlbmmcnkjaaGreatDoor
