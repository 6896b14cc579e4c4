/- Two texts compared by what counts of them: filter.compare (78). -/
import Derived.Test.YtnpnccjeapejdaaGreatDoorFxB
namespace Go.Proofs.YtnpnccjeapejdaaGreatDoor
section
open Go.RowKit
set_option maxRecDepth 100000
def cmI (x y : Int) : Int := if x < y then -1 else if y < x then 1 else 0
theorem nanB_ok (x : Int) (w : World) : Calls Tryz.prog 119 #[.int .u8 x] w (RetV w (.bool false)) := by
  go_enter Tryz.func119, Tryz.ntmps119
  go_wp2_with fail
  go_ret
  exact ⟨by simp, rfl⟩
theorem nanI_ok (x : Int) (w : World) : Calls Tryz.prog 120 #[.int .i64 x] w (RetV w (.bool false)) := by
  go_enter Tryz.func120, Tryz.ntmps120
  go_wp2_with fail
  go_ret
  exact ⟨by simp, rfl⟩
theorem cmpB_ok (x y : UInt8) (w : World) : Calls Tryz.prog 102 #[.int .u8 x.toNat, .int .u8 y.toNat] w (RetV w (.int .i64 (cmI x.toNat y.toNat))) := by
  by_cases h : (x.toNat : Int) < y.toNat
  · have e : cmI x.toNat y.toNat = -1 := by unfold cmI; rw [if_pos h]
    have t1 : decide (x.toNat < y.toNat) = true := by rw [decide_eq_true_eq]; omega
    rw [e]
    clear h e
    go_enter Tryz.func102, Tryz.ntmps102
    go_wp2_with fail
    refine (nanB_ok _ _).mono ?_
    rintro e w' ⟨rfl, rfl⟩
    go_wp2_with fail
    refine (nanB_ok _ _).mono ?_
    rintro e w' ⟨rfl, rfl⟩
    go_wp2_with fail
    go_ret
    exact ⟨rfl, rfl⟩
  · have t1 : decide (x.toNat < y.toNat) = false := by rw [decide_eq_false_iff_not]; omega
    by_cases h2 : (y.toNat : Int) < x.toNat
    · have t2 : decide (y.toNat < x.toNat) = true := by rw [decide_eq_true_eq]; omega
      have e : cmI x.toNat y.toNat = 1 := by unfold cmI; rw [if_neg h, if_pos h2]
      rw [e]
      clear h h2 e
      go_enter Tryz.func102, Tryz.ntmps102
      go_wp2_with fail
      refine (nanB_ok _ _).mono ?_
      rintro e w' ⟨rfl, rfl⟩
      go_wp2_with fail
      refine (nanB_ok _ _).mono ?_
      rintro e w' ⟨rfl, rfl⟩
      go_wp2_with fail
      go_ret
      exact ⟨rfl, rfl⟩
    · have t2 : decide (y.toNat < x.toNat) = false := by rw [decide_eq_false_iff_not]; omega
      have e : cmI x.toNat y.toNat = 0 := by unfold cmI; rw [if_neg h, if_neg h2]
      rw [e]
      clear h h2 e
      go_enter Tryz.func102, Tryz.ntmps102
      go_wp2_with fail
      refine (nanB_ok _ _).mono ?_
      rintro e w' ⟨rfl, rfl⟩
      go_wp2_with fail
      refine (nanB_ok _ _).mono ?_
      rintro e w' ⟨rfl, rfl⟩
      go_wp2_with fail
      go_ret
      exact ⟨rfl, rfl⟩
theorem cmpI_ok (x y : Int) (w : World) : Calls Tryz.prog 103 #[.int .i64 x, .int .i64 y] w (RetV w (.int .i64 (cmI x y))) := by
  by_cases h : x < y
  · have t1 : decide (x < y) = true := decide_eq_true h
    have e : cmI x y = -1 := by unfold cmI; rw [if_pos h]
    rw [e]
    clear h e
    go_enter Tryz.func103, Tryz.ntmps103
    go_wp2_with fail
    refine (nanI_ok _ _).mono ?_
    rintro e w' ⟨rfl, rfl⟩
    go_wp2_with fail
    refine (nanI_ok _ _).mono ?_
    rintro e w' ⟨rfl, rfl⟩
    go_wp2_with fail
    go_ret
    exact ⟨rfl, rfl⟩
  · have t1 : decide (x < y) = false := decide_eq_false h
    by_cases h2 : y < x
    · have t2 : decide (y < x) = true := decide_eq_true h2
      have e : cmI x y = 1 := by unfold cmI; rw [if_neg h, if_pos h2]
      rw [e]
      clear h h2 e
      go_enter Tryz.func103, Tryz.ntmps103
      go_wp2_with fail
      refine (nanI_ok _ _).mono ?_
      rintro e w' ⟨rfl, rfl⟩
      go_wp2_with fail
      refine (nanI_ok _ _).mono ?_
      rintro e w' ⟨rfl, rfl⟩
      go_wp2_with fail
      go_ret
      exact ⟨rfl, rfl⟩
    · have t2 : decide (y < x) = false := decide_eq_false h2
      have e : cmI x y = 0 := by unfold cmI; rw [if_neg h, if_neg h2]
      rw [e]
      clear h h2 e
      go_enter Tryz.func103, Tryz.ntmps103
      go_wp2_with fail
      refine (nanI_ok _ _).mono ?_
      rintro e w' ⟨rfl, rfl⟩
      go_wp2_with fail
      refine (nanI_ok _ _).mono ?_
      rintro e w' ⟨rfl, rfl⟩
      go_wp2_with fail
      go_ret
      exact ⟨rfl, rfl⟩
theorem drop_nx (lets : Nat) (fold : Bool) (l : List UInt8) (i : Nat) : filtS lets fold (l.drop (nxC lets l i)) = filtS lets fold (l.drop i) := by
  unfold nxC filtS
  congr 1
  rw [← List.drop_drop]
  have h1 := List.takeWhile_append_dropWhile (p := fun c => !cntB lets c) (l := l.drop i)
  conv => rhs; rw [← h1]
  have h2 : (l.drop i).drop ((l.drop i).takeWhile (fun c => !cntB lets c)).length = (l.drop i).dropWhile (fun c => !cntB lets c) := by
    conv => lhs; arg 2; rw [← h1]
    rw [List.drop_left' rfl]
  rw [h2, List.filter_append]
  have h3 : ((l.drop i).takeWhile (fun c => !cntB lets c)).filter (cntB lets) = [] := by
    rw [List.filter_eq_nil_iff]
    intro a ha
    have := List.all_eq_true.1 (List.all_takeWhile (p := fun c => !cntB lets c) (l := l.drop i)) a ha
    simpa using this
  rw [h3, List.nil_append]
theorem drop_one {lets : Nat} {fold : Bool} {l : List UInt8} {i : Nat} (hi : i < l.length) (hc : cntB lets l[i] = true) : filtS lets fold (l.drop i) = turnB fold l[i] :: filtS lets fold (l.drop (i + 1)) := by
  unfold filtS
  rw [List.drop_eq_getElem_cons hi, List.filter_cons, hc]
  rfl
theorem drop_end {lets : Nat} {fold : Bool} {l : List UInt8} {i : Nat} (hi : l.length ≤ i) : filtS lets fold (l.drop i) = [] := by
  rw [List.drop_eq_nil_of_le hi]; rfl
theorem cb_cons (x y : UInt8) (p q : List UInt8) : Lib.compareBytes (x :: p) (y :: q) = (if cmI x.toNat y.toNat = 0 then Lib.compareBytes p q else cmI x.toNat y.toNat) := by
  unfold cmI
  rw [Lib.compareBytes]
  have e1 : (x < y) ↔ ((x.toNat : Int) < y.toNat) := by rw [UInt8.lt_iff_toNat_lt]; omega
  have e2 : (y < x) ↔ ((y.toNat : Int) < x.toNat) := by rw [UInt8.lt_iff_toNat_lt]; omega
  by_cases h1 : x < y
  · rw [if_pos h1, if_pos (e1.1 h1)]; rfl
  · by_cases h2 : y < x
    · rw [if_neg h1, if_pos h2, if_neg (fun h => h1 (e1.2 h)), if_pos (e2.1 h2)]; rfl
    · rw [if_neg h1, if_neg h2, if_neg (fun h => h1 (e1.2 h)), if_neg (fun h => h2 (e2.2 h)), if_pos rfl]
/-- At the end of one of them. -/
theorem cb_end {lets : Nat} {fold : Bool} {a b : List UInt8} {k l : Nat} (hk : k ≤ a.length) (hl : l ≤ b.length) (ha : nxC lets a k = k) (hb : nxC lets b l = l) (h : ¬ (k < a.length ∧ l < b.length)) :
    Lib.compareBytes (filtS lets fold (a.drop k)) (filtS lets fold (b.drop l)) = cmI ((a.length : Int) - k) ((b.length : Int) - l) := by
  by_cases h1 : k < a.length
  · have h2 : b.length ≤ l := by omega
    have hc : cntB lets a[k] = true := by
      have := nx_counts (lets := lets) (l := a) (i := k) (by rw [ha]; exact h1)
      simpa only [ha] using this
    rw [drop_end h2, drop_one h1 hc]
    unfold cmI
    rw [if_neg (by omega), if_pos (by omega)]
    rfl
  · by_cases h3 : l < b.length
    · have hc : cntB lets b[l] = true := by
        have := nx_counts (lets := lets) (l := b) (i := l) (by rw [hb]; exact h3)
        simpa only [hb] using this
      rw [drop_end (by omega), drop_one h3 hc]
      unfold cmI
      rw [if_pos (by omega)]
      rfl
    · rw [drop_end (by omega), drop_end (by omega)]
      unfold cmI
      rw [if_neg (by omega), if_neg (by omega)]
      rfl
end
section
open Go.RowKit
set_option maxRecDepth 100000
structure FcAt (w W : World) (lets : Nat) (fold : Bool) : Prop where
  cs : CellsAt W w.heap.size [.int .u8 (lets : Int), .bool fold]
  tb : Tabs W
  bel : Below w.heap.size w W
theorem FcAt.step {w W W' : World} {lets : Nat} {fold : Bool} (h : FcAt w W lets fold) (b : Below W.heap.size W W') : FcAt w W' lets fold :=
  ⟨h.cs.step b, h.tb.below b, h.bel.trans (b.mono h.bel.size)⟩
def FcRel (w : World) (lets : Nat) (fold : Bool) (a b : ByteArray) (i j : Value) (wr : World) : Prop :=
  ∃ k l : Nat, k ≤ a.size ∧ l ≤ b.size ∧ i = .int .i64 (k : Int) ∧ j = .int .i64 (l : Int) ∧ nxC lets a.data.toList k = k ∧ nxC lets b.data.toList l = l ∧
    Lib.compareBytes (filtS lets fold (a.data.toList.drop k)) (filtS lets fold (b.data.toList.drop l)) = Lib.compareBytes (filtS lets fold a.data.toList) (filtS lets fold b.data.toList) ∧ FcAt w wr lets fold
set_option maxHeartbeats 6400000 in
theorem fcompare_ok (lets : Nat) (hl : lets = 0 ∨ lets = 2 ∨ lets = 4) (fold : Bool) (a b : ByteArray) (ha : a.size ≤ 1048576) (hb : b.size ≤ 1048576) (w : World) (T : Tabs w) :
    Calls Tryz.prog 78 #[.agg #[.int .u8 (lets : Int), .bool fold], .string a, .string b] w (RetBk w (.int .i64 (Lib.compareBytes (filtS lets fold a.data.toList) (filtS lets fold b.data.toList)))) := by
  have b0 := (Below.refl w.heap.size w).alloc (Nat.le_refl _) (Obj.cells #[.int .u8 (lets : Int), .bool fold] 57)
  have F0 := Lib.hid (show FcAt w (w.alloc (Obj.cells #[.int .u8 (lets : Int), .bool fold] 57)) lets fold from ⟨CellsAt.new w [.int .u8 (lets : Int), .bool fold] 57, T.below b0, b0⟩)
  have NA := Lib.hid (show ∀ (i : Nat) (hi : i ≤ a.size) (W : World), FcAt w W lets fold → Calls Tryz.prog 52 #[.agg #[.int .u8 (lets : Int), .bool fold], .string a, .int .i64 (i : Int)] W (RetBk W (.int .i64 ((nxC lets a.data.toList i : Nat) : Int))) from fun i hi W f => next_ok lets hl fold a (by omega) i hi W f.tb)
  have NB := Lib.hid (show ∀ (i : Nat) (hi : i ≤ b.size) (W : World), FcAt w W lets fold → Calls Tryz.prog 52 #[.agg #[.int .u8 (lets : Int), .bool fold], .string b, .int .i64 (i : Int)] W (RetBk W (.int .i64 ((nxC lets b.data.toList i : Nat) : Int))) from fun i hi W f => next_ok lets hl fold b (by omega) i hi W f.tb)
  have TN := Lib.hid (show ∀ (c : UInt8) (W : World), FcAt w W lets fold → Calls Tryz.prog 53 #[.agg #[.int .u8 (lets : Int), .bool fold], .int .u8 c.toNat] W (RetBk W (.int .u8 ((turnB fold c).toNat : Int))) from fun c W f => turn_ok lets fold c W f.tb)
  have SA := Lib.hid ha
  have SB := Lib.hid hb
  clear T hl b0 ha hb
  go_enter Tryz.func78, Tryz.ntmps78
  go_upto_region 1 with fail
  generalize w.alloc (Obj.cells #[.int .u8 (lets : Int), .bool fold] 57) = x at *
  have FD := F0.out.step (Below.refl x.heap.size x).drew
  have a0 := F0.out.cs.cell 0 _ rfl
  have a1 := F0.out.cs.cell 1 _ rfl
  have NA0 := Lib.hid (show ∀ W : World, FcAt w W lets fold → Calls Tryz.prog 52 #[.agg #[.int .u8 (lets : Int), .bool fold], .string a, .int .i64 0] W (RetBk W (.int .i64 ((nxC lets a.data.toList 0 : Nat) : Int))) from NA.out 0 (Nat.zero_le _))
  have NB0 := Lib.hid (show ∀ W : World, FcAt w W lets fold → Calls Tryz.prog 52 #[.agg #[.int .u8 (lets : Int), .bool fold], .string b, .int .i64 0] W (RetBk W (.int .i64 ((nxC lets b.data.toList 0 : Nat) : Int))) from NB.out 0 (Nat.zero_le _))
  go_region_held3 (fun w' => w'.cell? ⟨w.heap.size, 0, none⟩ = some (.int .u8 (lets : Int)) ∧ w'.cell? ⟨w.heap.size, 1, none⟩ = some (.bool fold))
    (first | go_keep)
    ((first
      | (go_at_call 52; ((first | (with_reducible refine (NA0.out _ (by first | exact FD2 | exact FD)).mono ?_) | (with_reducible refine (NB0.out _ (by first | exact FD2 | exact FD)).mono ?_)); rintro ee w8 ⟨rfl, hbb⟩; have FD2 := FcAt.step (by first | exact FD2 | exact FD) hbb; have a0 := FD2.cs.cell 0 _ rfl; have a1 := FD2.cs.cell 1 _ rfl))))
  have R0 : FcRel w lets fold a b (.int .i64 ((nxC lets a.data.toList 0 : Nat) : Int)) (.int .i64 ((nxC lets b.data.toList 0 : Nat) : Int)) w8 := by
    refine ⟨_, _, by rw [Lib.size_eq]; exact nx_le _ _ (Nat.zero_le _), by rw [Lib.size_eq]; exact nx_le _ _ (Nat.zero_le _), rfl, rfl, nx_idem _ _ (Nat.zero_le _), nx_idem _ _ (Nat.zero_le _), ?_, FD2⟩
    rw [drop_nx, drop_nx, List.drop_zero, List.drop_zero]
  have HR := Lib.hid R0
  clear R0 NA0 NB0 F0 FD a0 a1
  go_wp2_with fail
  go_loopw [7, 8] (fun i j wr => FcRel w lets fold a b i j wr) (fun i _ _ => a.size - (intOf i).toNat)
  case atStart => exact HR.out
  case round =>
    obtain ⟨k, l, hk, hl, rfl, rfl, nk, nl, heq, f⟩ := hrel
    have NK := Lib.hid nk
    have NL := Lib.hid nl
    have HE := Lib.hid heq
    have HF := Lib.hid f
    clear nk nl heq f HR
    by_cases h : k < a.size ∧ l < b.size
    · obtain ⟨h1, h2⟩ := h
      have t0 : decide (k < a.size) = true := decide_eq_true h1
      have t1 : decide (l < b.size) = true := decide_eq_true h2
      have h1' : k < a.data.toList.length := by rw [← Lib.size_eq]; exact h1
      have h2' : l < b.data.toList.length := by rw [← Lib.size_eq]; exact h2
      have ca : cntB lets a.data.toList[k] = true := by
        have := nx_counts (lets := lets) (l := a.data.toList) (i := k) (by rw [NK.out]; exact h1')
        simpa only [NK.out] using this
      have cb : cntB lets b.data.toList[l] = true := by
        have := nx_counts (lets := lets) (l := b.data.toList) (i := l) (by rw [NL.out]; exact h2')
        simpa only [NL.out] using this
      have DC := Lib.hid (cb_cons (turnB fold a.data.toList[k]) (turnB fold b.data.toList[l]) (filtS lets fold (a.data.toList.drop (k + 1))) (filtS lets fold (b.data.toList.drop (l + 1))))
      rw [← drop_one h1' ca, ← drop_one h2' cb, HE.out] at DC
      have TA := Lib.hid (show ∀ W : World, FcAt w W lets fold → Calls Tryz.prog 53 #[.agg #[.int .u8 (lets : Int), .bool fold], .int .u8 (a[k]'h1).toNat] W (RetBk W (.int .u8 ((turnB fold a.data.toList[k]).toNat : Int))) from TN.out _)
      have TB := Lib.hid (show ∀ W : World, FcAt w W lets fold → Calls Tryz.prog 53 #[.agg #[.int .u8 (lets : Int), .bool fold], .int .u8 (b[l]'h2).toNat] W (RetBk W (.int .u8 ((turnB fold b.data.toList[l]).toNat : Int))) from TN.out _)
      clear ca cb HE
      generalize turnB fold a.data.toList[k] = x1 at *
      generalize turnB fold b.data.toList[l] = x2 at *
      go_upto_region 3 with fail
      have G1 := HF.out.step (Below.refl wr.heap.size wr).drew
      have a0 := HF.out.cs.cell 0 _ rfl
      have a1 := HF.out.cs.cell 1 _ rfl
      go_region_held3 (fun w' => w'.cell? ⟨w.heap.size, 0, none⟩ = some (.int .u8 (lets : Int)) ∧ w'.cell? ⟨w.heap.size, 1, none⟩ = some (.bool fold))
        (first | go_keep)
        ((first
          | (go_at_call 53; ((first | (with_reducible refine (TA.out _ (by first | exact G2 | exact G1)).mono ?_) | (with_reducible refine (TB.out _ (by first | exact G2 | exact G1)).mono ?_)); rintro ee w8 ⟨rfl, hbb⟩; have G2 := FcAt.step (by first | exact G2 | exact G1) hbb; have a0 := G2.cs.cell 0 _ rfl; have a1 := G2.cs.cell 1 _ rfl))
          | (go_at_call 102; ((with_reducible refine (cmpB_ok x1 x2 _).mono ?_); rintro ee w9 ⟨rfl, rfl⟩))))
      all_goals
        clear a0 a1
        have FF := Lib.hid G2
        clear G2 G1
        generalize cmI (x1.toNat : Int) (x2.toNat : Int) = z at *
        by_cases hz : z = 0
        · subst hz
          rw [if_pos rfl] at DC
          go_upto_region 6 with fail
          have H1 := FF.out.step (Below.refl w8.heap.size w8).drew
          have a0 := FF.out.cs.cell 0 _ rfl
          have a1 := FF.out.cs.cell 1 _ rfl
          have NA1 := Lib.hid (NA.out (k + 1) h1)
          have NB1 := Lib.hid (NB.out (l + 1) h2)
          have PK := Lib.hid (show nxC lets a.data.toList (nxC lets a.data.toList (k + 1)) = nxC lets a.data.toList (k + 1) from nx_idem _ _ h1')
          have PL := Lib.hid (show nxC lets b.data.toList (nxC lets b.data.toList (l + 1)) = nxC lets b.data.toList (l + 1) from nx_idem _ _ h2')
          have QK := Lib.hid (show nxC lets a.data.toList (k + 1) ≤ a.size by rw [Lib.size_eq]; exact nx_le _ _ h1')
          have QL := Lib.hid (show nxC lets b.data.toList (l + 1) ≤ b.size by rw [Lib.size_eq]; exact nx_le _ _ h2')
          have QG := Lib.hid (nx_ge lets a.data.toList (k + 1))
          have DD := Lib.hid (show Lib.compareBytes (filtS lets fold (a.data.toList.drop (nxC lets a.data.toList (k + 1)))) (filtS lets fold (b.data.toList.drop (nxC lets b.data.toList (l + 1)))) = Lib.compareBytes (filtS lets fold a.data.toList) (filtS lets fold b.data.toList) by rw [drop_nx, drop_nx]; exact DC.out.symm)
          have e1 : wrap64 ((k : Int) + 1) = ((k + 1 : Nat) : Int) := by have := SA.out; unfold wrap64; omega
          have e2 : wrap64 ((l : Int) + 1) = ((l + 1 : Nat) : Int) := by have := SB.out; unfold wrap64; omega
          have e3 : (k : Int) + 1 = ((k + 1 : Nat) : Int) := by omega
          have e4 : (l : Int) + 1 = ((l + 1 : Nat) : Int) := by omega
          generalize nxC lets a.data.toList (k + 1) = k2 at *
          generalize nxC lets b.data.toList (l + 1) = l2 at *
          have QL2 := Lib.hid (show k + 1 ≤ k2 from QG.out)
          generalize hk1 : k + 1 = k1 at *
          generalize hl1 : l + 1 = l1 at *
          have e6 : IntKind.i64.wrap (k1 : Int) = (k1 : Int) := by have := SA.out; rw [IntKind.wrap_i64]; omega
          have e7 : IntKind.i64.wrap (l1 : Int) = (l1 : Int) := by have := SB.out; rw [IntKind.wrap_i64]; omega
          clear DC QG
          go_region_held3 (fun w' => w'.cell? ⟨w.heap.size, 0, none⟩ = some (.int .u8 (lets : Int)) ∧ w'.cell? ⟨w.heap.size, 1, none⟩ = some (.bool fold))
            (first | go_keep)
            ((first
              | (go_at_call 52; ((first | (with_reducible refine (NA1.out _ (by first | exact H2 | exact H1)).mono ?_) | (with_reducible refine (NB1.out _ (by first | exact H2 | exact H1)).mono ?_)); rintro ee w9 ⟨rfl, hbb⟩; have H2 := FcAt.step (by first | exact H2 | exact H1) hbb; have a0 := H2.cs.cell 0 _ rfl; have a1 := H2.cs.cell 1 _ rfl))))
          go_wp2_with fail
          refine ⟨⟨k2, l2, QK.out, QL.out, rfl, rfl, PK.out, PL.out, DD.out, H2⟩, ?_⟩
          have e5 : ∀ m : Nat, (intOf (.int .i64 (m : Int))).toNat = m := fun m => by show ((m : Int)).toNat = m; exact Int.toNat_natCast m
          rw [e5, e5]
          have := QL2.out
          have := QK.out
          omega
        · have n0 : (z != 0) = true := by rw [bne_iff_ne]; exact hz
          rw [if_neg hz] at DC
          go_wp2_with fail
          go_ret
          exact ⟨by rw [DC.out]; rfl, FF.out.bel⟩
    · have LA := Lib.size_eq a
      have LB := Lib.size_eq b
      have E := Lib.hid (cb_end (fold := fold) (by rw [← LA]; exact hk) (by rw [← LB]; exact hl) NK.out NL.out (by rw [← LA, ← LB]; exact h))
      rw [HE.out, ← LA, ← LB] at E
      have t0 : (decide (k < a.size) && decide (l < b.size)) = false := by rw [Bool.and_eq_false_iff, decide_eq_false_iff_not, decide_eq_false_iff_not]; omega
      clear HE LA LB
      have wA : wrap64 ((a.size : Int) - (k : Int)) = (a.size : Int) - (k : Int) := by have := SA.out; unfold wrap64; omega
      have wB : wrap64 ((b.size : Int) - (l : Int)) = (b.size : Int) - (l : Int) := by have := SB.out; unfold wrap64; omega
      go_wp2_with fail
      all_goals try rw [wA]
      all_goals try rw [wB]
      all_goals
        refine (cmpI_ok _ _ _).mono ?_
        rintro e w9 ⟨rfl, rfl⟩
        go_wp2_with fail
        go_ret
        exact ⟨by rw [E.out]; rfl, HF.out.bel⟩
end
end Go.Proofs.YtnpnccjeapejdaaGreatDoor
